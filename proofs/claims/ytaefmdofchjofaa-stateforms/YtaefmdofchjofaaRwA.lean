import Derived.Test.YtaefmdofchjofaaRxA
import Derived.Test.YtaefmdofchjofaaRdC
/- Layer 7: the document's item: what is refused, a text. -/
namespace Go.Proofs.Ytaefmdofchjofaa
open Go.RowKit Go.Sort
theorem yieldsIf_slice {ops : Array Oper} {S : World → Prop} {op : Oper} {a : Act} (hw : Region.wanted op (yielded ops a.tmps) = true) {ty : TypeId} {x y z : Operand} (ho : op.op = .slice ty x (some y) (some z) none) {vx vy vz r : Value} (hx : a.eval x = vx) (hy : a.eval y = vy) (hz : a.eval z = vz)
    (hr : ∀ w, (Instr.sliceAt ty vx (some vy) (some vz) none).run Try.prog w = .ok r w) : YieldsIf Try.prog ops S op r a :=
  .inl ⟨hw, fun w _ => by
    unfold execOp
    simp only [ho, hx, hy, hz, Option.map_some, Option.map_none, Sem.run_bind, Sem.run_pure, Result.andThen_ok, hr]⟩
set_option maxRecDepth 100000 in
set_option maxHeartbeats 8000000 in
theorem item_err {a : Option Addr} {m c p q k s t : Nat} {l : Bool} {e0 : Int} (he : e0 ≠ 0) (w : World) (FH : Hid (∀ w1, Below w.heap.size w w1 → Calls Try.prog 64 #[.slice a m c, .int .i64 (p : Int), .int .i64 (q : Int)] w1 fun e w' => e = .returned (.tuple #[.agg #[.bool l, .int .i64 (s : Int), .int .i64 (t : Int)], .int .i64 e0]) ∧ Below w1.heap.size w1 w')) :
    Calls Try.prog 46 #[.slice a m c, .int .i64 (p : Int), .int .i64 (q : Int), .int .i64 (k : Int)] w fun e w' => e = .returned (.tuple #[.agg #[.bool false, .slice none 0 0, .slice none 0 0], .int .i64 0, .int .i64 e0]) ∧ Below w.heap.size w w' := by
  have b6 : (e0 == 0) = false := beq_false_of_ne he
  have b7 : (e0 != 0) = true := bne_iff_ne.2 he
  go_enter Try.func46, Try.ntmps46
  go_wp2_with (go_at_call 64; (refine (FH.out _ ((Below.refl _ _).alloc (Nat.le_refl _) _)).mono ?_); rintro e w1 ⟨rfl, B⟩; (have r0 : w1.cell? ⟨w.heap.size, 0, none⟩ = some (.bool false) := keepC B (by simp [go_sem])); (have r1 : w1.cell? ⟨w.heap.size, 1, none⟩ = some (.slice none 0 0) := keepC B (by simp [go_sem])); (have r2 : w1.cell? ⟨w.heap.size, 2, none⟩ = some (.slice none 0 0) := keepC B (by simp [go_sem])); (have f0 : w1.frozen? ⟨w.heap.size, 0, none⟩ = false := by rw [B.frozen (p := ⟨w.heap.size, 0, none⟩) (by simp)]; simp [go_sem]); (have f1 : w1.frozen? ⟨w.heap.size, 1, none⟩ = false := by rw [B.frozen (p := ⟨w.heap.size, 1, none⟩) (by simp)]; simp [go_sem]); (have f2 : w1.frozen? ⟨w.heap.size, 2, none⟩ = false := by rw [B.frozen (p := ⟨w.heap.size, 2, none⟩) (by simp)]; simp [go_sem]); (have hw1 : w.heap.size < w1.heap.size := Nat.lt_of_lt_of_le (by simp) B.size); (have hne : w1.heap.size ≠ w.heap.size := by omega); (have B2 : Below w.heap.size w w1 := ((Below.refl _ _).alloc (Nat.le_refl _) _).trans (B.mono (by simp))))
  simp [bodyPost, results, Try.results46, go_sem, r0, r1, r2, hw1]
  have h0 : ∀ i, w.heap.size ≤ (⟨w.heap.size, i, none⟩ : Addr).block := fun _ => Nat.le_refl _
  have b4 := ((B2.setCell (h0 0) (.bool false)).setCell (h0 1) (.slice none 0 0)).setCell (h0 2) (.slice none 0 0)
  exact b4.alloc b4.size _
set_option maxRecDepth 100000 in
set_option maxHeartbeats 8000000 in
theorem item_text {a a' : Option Addr} {m c p q k s t n' c' : Nat} {X : List Int} (w : World) (FH : Hid (∀ w1, Below w.heap.size w w1 → Calls Try.prog 64 #[.slice a m c, .int .i64 (p : Int), .int .i64 (q : Int)] w1 fun e w' => e = .returned (.tuple #[.agg #[.bool false, .int .i64 (s : Int), .int .i64 (t : Int)], .int .i64 0]) ∧ Below w1.heap.size w1 w'))
    (CU : Hid (∀ w, (Instr.sliceAt 29 (.slice a m c) (some (.int .i64 (s : Int))) (some (.int .i64 (t : Int))) none).run Try.prog w = .ok (.slice a' n' c') w)) (CB : Hid (∀ V, Below w.heap.size w V → Calls Try.prog 40 #[.slice a' n' c'] V fun e w' => ∃ v, e = .returned v ∧ OwnB V.heap.size w' v X ∧ Below V.heap.size V w')) :
    Calls Try.prog 46 #[.slice a m c, .int .i64 (p : Int), .int .i64 (q : Int), .int .i64 (k : Int)] w fun e w' => ∃ v, e = .returned (.tuple #[.agg #[.bool false, v, .slice none 0 0], .int .i64 (t : Int), .int .i64 0]) ∧ OwnB w.heap.size w' v X ∧ Below w.heap.size w w' := by
  go_enter Try.func46, Try.ntmps46
  go_wp2_with (go_at_call 64; (refine (FH.out _ ((Below.refl _ _).alloc (Nat.le_refl _) _)).mono ?_); rintro e w1 ⟨rfl, B⟩; (have r0 : w1.cell? ⟨w.heap.size, 0, none⟩ = some (.bool false) := keepC B (by simp [go_sem])); (have r1 : w1.cell? ⟨w.heap.size, 1, none⟩ = some (.slice none 0 0) := keepC B (by simp [go_sem])); (have r2 : w1.cell? ⟨w.heap.size, 2, none⟩ = some (.slice none 0 0) := keepC B (by simp [go_sem])); (have f0 : w1.frozen? ⟨w.heap.size, 0, none⟩ = false := by rw [B.frozen (p := ⟨w.heap.size, 0, none⟩) (by simp)]; simp [go_sem]); (have f1 : w1.frozen? ⟨w.heap.size, 1, none⟩ = false := by rw [B.frozen (p := ⟨w.heap.size, 1, none⟩) (by simp)]; simp [go_sem]); (have f2 : w1.frozen? ⟨w.heap.size, 2, none⟩ = false := by rw [B.frozen (p := ⟨w.heap.size, 2, none⟩) (by simp)]; simp [go_sem]); (have hw1 : w.heap.size < w1.heap.size := Nat.lt_of_lt_of_le (by simp) B.size); (have hne : w1.heap.size ≠ w.heap.size := by omega); (have B2 : Below w.heap.size w w1 := ((Below.refl _ _).alloc (Nat.le_refl _) _).trans (B.mono (by simp))))
  refine wp_world (fun V => Below w.heap.size w V ∧ Hb V w1.heap.size false (s : Int) (t : Int) ∧ V.there w.heap.size 0 3) ⟨B2.alloc B2.size _, ⟨by simp [go_sem], by simp [go_sem], by simp [go_sem]⟩, fun j hj => ?_⟩ ?_
  · have : j = 0 ∨ j = 1 ∨ j = 2 := by omega
    rcases this with rfl | rfl | rfl <;> simp [go_sem, r0, r1, r2, f0, f1, f2, hw1]
  rintro V ⟨BV, HV, TV⟩
  generalize w1.heap.size = hb at *
  clear r0 r1 r2 f0 f1 f2 B B2 w1
  have cu := CU.out
  refine wp_region_held_drew (S := fun w' => Below w.heap.size w w' ∧ Hb w' hb false (s : Int) (t : Int)) (by kernel_rfl) ⟨BV.drew, HV.keep (Below.refl _ _).drew⟩ (fun hHeld => ?_)
  refine wpAnyH_takeD (i := 0) (oi := _) (v := .slice a m c) 32 rfl (by kernel_rfl) (by kernel_rfl) (by kernel_rfl) (by kernel_rfl) (fun _ _ _ h => h) (Or.inl ⟨by kernel_rfl, ?_⟩) (by assumption) ?_
  · intro wq hSw
    obtain ⟨x0, x1, x2, x3⟩ := hSw
    go_simp
  simp only [Act.put, List.setIfInBounds_toArray, List.set_cons_succ, List.set_cons_zero]
  refine wpAnyH_takeD (i := 1) (oi := _) (v := .pointer (some ⟨hb, 1, none⟩)) 33 rfl (by kernel_rfl) (by kernel_rfl) (by kernel_rfl) (by kernel_rfl) (fun _ _ _ h => h) (Or.inl ⟨by kernel_rfl, ?_⟩) (by assumption) ?_
  · intro wq hSw
    obtain ⟨x0, x1, x2, x3⟩ := hSw
    go_simp
  simp only [Act.put, List.setIfInBounds_toArray, List.set_cons_succ, List.set_cons_zero]
  refine wpAnyH_takeD (i := 2) (oi := _) (v := .int .i64 (s : Int)) 34 rfl (by kernel_rfl) (by kernel_rfl) (by kernel_rfl) (by kernel_rfl) (fun _ _ _ h => h) (Or.inl ⟨by kernel_rfl, ?_⟩) (by assumption) ?_
  · intro wq hSw
    obtain ⟨x0, x1, x2, x3⟩ := hSw
    go_simp
  simp only [Act.put, List.setIfInBounds_toArray, List.set_cons_succ, List.set_cons_zero]
  refine wpAnyH_takeD (i := 3) (oi := _) (v := .pointer (some ⟨hb, 2, none⟩)) 35 rfl (by kernel_rfl) (by kernel_rfl) (by kernel_rfl) (by kernel_rfl) (fun _ _ _ h => h) (Or.inl ⟨by kernel_rfl, ?_⟩) (by assumption) ?_
  · intro wq hSw
    obtain ⟨x0, x1, x2, x3⟩ := hSw
    go_simp
  simp only [Act.put, List.setIfInBounds_toArray, List.set_cons_succ, List.set_cons_zero]
  refine wpAnyH_takeD (i := 4) (oi := _) (v := .int .i64 (t : Int)) 36 rfl (by kernel_rfl) (by kernel_rfl) (by kernel_rfl) (by kernel_rfl) (fun _ _ _ h => h) (Or.inl ⟨by kernel_rfl, ?_⟩) (by assumption) ?_
  · intro wq hSw
    obtain ⟨x0, x1, x2, x3⟩ := hSw
    go_simp
  simp only [Act.put, List.setIfInBounds_toArray, List.set_cons_succ, List.set_cons_zero]
  refine wpAnyH_takeD (i := 8) (oi := _) (v := .pointer (some ⟨hb, 2, none⟩)) 40 rfl (by kernel_rfl) (by kernel_rfl) (by kernel_rfl) (by kernel_rfl) (fun _ _ _ h => h) (Or.inl ⟨by kernel_rfl, ?_⟩) (by assumption) ?_
  · intro wq hSw
    obtain ⟨x0, x1, x2, x3⟩ := hSw
    go_simp
  simp only [Act.put, List.setIfInBounds_toArray, List.set_cons_succ, List.set_cons_zero]
  refine wpAnyH_takeD (i := 9) (oi := _) (v := .int .i64 (t : Int)) 41 rfl (by kernel_rfl) (by kernel_rfl) (by kernel_rfl) (by kernel_rfl) (fun _ _ _ h => h) (Or.inl ⟨by kernel_rfl, ?_⟩) (by assumption) ?_
  · intro wq hSw
    obtain ⟨x0, x1, x2, x3⟩ := hSw
    go_simp
  simp only [Act.put, List.setIfInBounds_toArray, List.set_cons_succ, List.set_cons_zero]
  refine wpAnyH_takeD (i := 5) (oi := _) (v := .slice a' n' c') 37 rfl (by kernel_rfl) (by kernel_rfl) (by kernel_rfl) (by kernel_rfl) (fun _ _ _ h => h) (yieldsIf_slice (by kernel_rfl) rfl rfl rfl rfl cu) (by assumption) ?_
  simp only [Act.put, List.setIfInBounds_toArray, List.set_cons_succ, List.set_cons_zero]
  refine wpAnyH_ready (rs := [6]) (by kernel_rfl) (by simp) ?_
  refine AllReadyH.cons rfl (fun K hK => ?_) AllReadyH.nil
  go_simp
  go_wp2_with (go_at_call 40; (refine (CB.out _ BV.drew).mono ?_); rintro e U ⟨v, rfl, OU, BU⟩)
  refine hK.out _ _ ⟨hHeld.1.trans (BU.mono hHeld.1.size), hHeld.2.keep BU⟩ (fun hHeld => ?_)
  clear hK K
  obtain ⟨va, _, vc, ev, _⟩ := OU.lies
  generalize X.length = vn at ev
  subst ev
  have BU2 := BV.drew.trans (BU.mono BV.drew.size)
  have T2 : U.there w.heap.size 0 3 := fun j hj => by
    have h1 := TV j hj
    have hlt : w.heap.size < V.heap.size := World.block_lt_of_cell? V _ (Option.isSome_iff_exists.1 h1.1).choose_spec
    have e := BU.block w.heap.size hlt
    rw [World.cell?_of_block (a := ⟨w.heap.size, 0 + j, none⟩) e]
    refine ⟨h1.1, ?_⟩
    have h2 := h1.2
    have e2 : U.heap[w.heap.size]? = V.heap[w.heap.size]? := e
    simp only [World.frozen?, e2] at h2 ⊢
    exact h2
  have OU2 : OwnB (w.heap.size + 1) U (.slice va vn vc) X := OU.base (by have : w.heap.size < V.heap.size := World.block_lt_of_cell? V _ (Option.isSome_iff_exists.1 (TV 0 (by omega)).1).choose_spec; exact this)
  refine wpAnyH_takeD (i := 7) (oi := _) (v := .agg #[.bool false, .slice va vn vc, .slice none 0 0]) 39 rfl (by kernel_rfl) (by kernel_rfl) (by kernel_rfl) (by kernel_rfl) (fun _ _ _ h => h) (Or.inl ⟨by kernel_rfl, ?_⟩) (by assumption) ?_
  · intro wq hSw
    obtain ⟨x0, x1, x2, x3⟩ := hSw
    go_simp
  simp only [Act.put, List.setIfInBounds_toArray, List.set_cons_succ, List.set_cons_zero]
  refine wpAnyH_ready (rs := [10]) (by kernel_rfl) (by simp) ?_
  refine AllReadyH.cons (o := { dst := none, op := .store 48 (.tmp 8) (.tmp 39), type := _, pos := _, after := _, guard := none }) rfl (fun K hK => ?_) AllReadyH.nil
  refine wp_store_mid 48 _ _ rfl w.heap.size 0 #[.bool false, .slice va vn vc, .slice none 0 0] rfl rfl T2 size_it (by kernel_rfl) ?_
  have c := chg_setCells w.heap.size [.bool false, .slice va vn vc, .slice none 0 0] 0 U
  have BS : Below w.heap.size w (U.setCells w.heap.size 0 [.bool false, .slice va vn vc, .slice none 0 0]) := BU2.trans (c.below BU2.size fun k hk => by omega)
  have HS : Hb (U.setCells w.heap.size 0 [.bool false, .slice va vn vc, .slice none 0 0]) hb false (s : Int) (t : Int) := ⟨c.cell hne hHeld.2.1, c.cell hne hHeld.2.2.1, c.cell hne hHeld.2.2.2⟩
  have RS := World.rangeAt_setCells_same U w.heap.size 0 [.bool false, .slice va vn vc, .slice none 0 0] T2
  have OS : OwnB w.heap.size (U.setCells w.heap.size 0 [.bool false, .slice va vn vc, .slice none 0 0]) (.slice va vn vc) X := (show OwnB (w.heap.size + 1) (U.setCells w.heap.size 0 [.bool false, .slice va vn vc, .slice none 0 0]) (.slice va vn vc) X from row_kept OU2 fun k e hk => c.block k hk (by have := (OU2.lt k e).1; omega)).base (by omega)
  refine hK.out _ _ ⟨BS, HS⟩ (fun hHeld => ?_)
  clear hK K
  show wpAnyH _ _ _ _ _ _ _ _ (U.setCells w.heap.size 0 [.bool false, .slice va vn vc, .slice none 0 0])
  generalize U.setCells w.heap.size 0 [.bool false, .slice va vn vc, .slice none 0 0] = U2 at *
  simp only [Act.put]
  refine wpAnyH_takeD (i := 11) (oi := _) (v := .int .i64 (t : Int)) 9 rfl (by kernel_rfl) (by kernel_rfl) (by kernel_rfl) (by kernel_rfl) (fun _ _ _ h => h) (Or.inl ⟨by kernel_rfl, ?_⟩) (by assumption) ?_
  · intro wq hSw
    obtain ⟨x0, x1, x2, x3⟩ := hSw
    go_simp
  simp only [Act.put, List.setIfInBounds_toArray, List.set_cons_succ, List.set_cons_zero]
  refine wpAnyH_takeD (i := 12) (oi := _) (v := .int .i64 0) 10 rfl (by kernel_rfl) (by kernel_rfl) (by kernel_rfl) (by kernel_rfl) (fun _ _ _ h => h) (Or.inl ⟨by kernel_rfl, ?_⟩) (by assumption) ?_
  · intro wq hSw
    obtain ⟨x0, x1, x2, x3⟩ := hSw
    go_simp
  simp only [Act.put, List.setIfInBounds_toArray, List.set_cons_succ, List.set_cons_zero]
  refine wpAnyH_done (by kernel_rfl) ?_ _
  have c0 : U2.cell? ⟨w.heap.size, 0, none⟩ = some (.bool false) := RS 0 _ rfl
  have c1 : U2.cell? ⟨w.heap.size, 1, none⟩ = some (.slice va vn vc) := RS 1 _ rfl
  have c2 : U2.cell? ⟨w.heap.size, 2, none⟩ = some (.slice none 0 0) := RS 2 _ rfl
  go_wp2_with fail
  simp [bodyPost, results, Try.results46, go_sem, c0, c1, c2]
  exact ⟨OS, BS⟩
set_option maxRecDepth 100000 in
set_option maxHeartbeats 8000000 in
theorem item_deep {a : Option Addr} {m c p q s t : Nat} (w : World) (FH : Hid (∀ w1, Below w.heap.size w w1 → Calls Try.prog 64 #[.slice a m c, .int .i64 (p : Int), .int .i64 (q : Int)] w1 fun e w' => e = .returned (.tuple #[.agg #[.bool true, .int .i64 (s : Int), .int .i64 (t : Int)], .int .i64 0]) ∧ Below w1.heap.size w1 w')) :
    Calls Try.prog 46 #[.slice a m c, .int .i64 (p : Int), .int .i64 (q : Int), .int .i64 1024] w fun e w' => e = .returned (.tuple #[.agg #[.bool false, .slice none 0 0, .slice none 0 0], .int .i64 0, .int .i64 74]) ∧ Below w.heap.size w w' := by
  go_enter Try.func46, Try.ntmps46
  go_wp2_with (go_at_call 64; (refine (FH.out _ ((Below.refl _ _).alloc (Nat.le_refl _) _)).mono ?_); rintro e w1 ⟨rfl, B⟩; (have r0 : w1.cell? ⟨w.heap.size, 0, none⟩ = some (.bool false) := keepC B (by simp [go_sem])); (have r1 : w1.cell? ⟨w.heap.size, 1, none⟩ = some (.slice none 0 0) := keepC B (by simp [go_sem])); (have r2 : w1.cell? ⟨w.heap.size, 2, none⟩ = some (.slice none 0 0) := keepC B (by simp [go_sem])); (have f0 : w1.frozen? ⟨w.heap.size, 0, none⟩ = false := by rw [B.frozen (p := ⟨w.heap.size, 0, none⟩) (by simp)]; simp [go_sem]); (have f1 : w1.frozen? ⟨w.heap.size, 1, none⟩ = false := by rw [B.frozen (p := ⟨w.heap.size, 1, none⟩) (by simp)]; simp [go_sem]); (have f2 : w1.frozen? ⟨w.heap.size, 2, none⟩ = false := by rw [B.frozen (p := ⟨w.heap.size, 2, none⟩) (by simp)]; simp [go_sem]); (have hw1 : w.heap.size < w1.heap.size := Nat.lt_of_lt_of_le (by simp) B.size); (have hne : w1.heap.size ≠ w.heap.size := by omega); (have B2 : Below w.heap.size w w1 := ((Below.refl _ _).alloc (Nat.le_refl _) _).trans (B.mono (by simp))))
  simp [bodyPost, results, Try.results46, go_sem, r0, r1, r2, hw1]
  have h0 : ∀ i, w.heap.size ≤ (⟨w.heap.size, i, none⟩ : Addr).block := fun _ => Nat.le_refl _
  have b4 := ((B2.setCell (h0 0) (.bool false)).setCell (h0 1) (.slice none 0 0)).setCell (h0 2) (.slice none 0 0)
  exact b4.alloc b4.size _
end Go.Proofs.Ytaefmdofchjofaa

import Derived.Test.YtcjabligkeaafaaDoorSBase
import Derived.Test.YtcjabligkeaafaaDoorTail
/- Filters: 256 bytes. -/
namespace Go.Proofs.YtcjabligkeaafaaDoor.S
open Go.RowKit Go.Sort

/-- Block b holds these 256 bytes and may be written. -/
def Blm (W : World) (b : Nat) (M : List (BitVec 8)) : Prop := M.length = 256 ∧ (∀ i, i < 256 → W.cell? ⟨b, i, none⟩ = some (.int .u8 (Y (M.getD i 0)))) ∧ Loose W b 256
theorem Blm.lt {W : World} {b : Nat} {M : List (BitVec 8)} (h : Blm W b M) : b < W.heap.size := World.block_lt_of_cell? W ⟨b, 0, none⟩ (h.2.1 0 (by decide))
theorem Blm.keep {W w1 : World} {b : Nat} {M : List (BitVec 8)} (h : Blm W b M) (hb : Below W.heap.size W w1) : Blm w1 b M := ⟨h.1, fun i hi => cell_keep hb (h.2.1 i hi), h.2.2.keep hb h.lt⟩
theorem Blm.alloc {W : World} {b : Nat} {M : List (BitVec 8)} (h : Blm W b M) (o : Obj) : Blm (W.alloc o) b M := h.keep ((Below.refl _ _).alloc (Nat.le_refl _) o)
theorem Blm.drew {W : World} {b : Nat} {M : List (BitVec 8)} (h : Blm W b M) : Blm W.drew b M := h
theorem Blm.other {W : World} {b b' i : Nat} {M : List (BitVec 8)} (h : Blm W b M) (ne : b' ≠ b) (v : Value) : Blm (W.setCell ⟨b', i, none⟩ v) b M := ⟨h.1, fun j hj => by rw [World.cell?_setCell_far _ _ _ _ ne]; exact h.2.1 j hj, h.2.2.set _ _⟩
theorem Blm.otherCells {W : World} {b b' o : Nat} {M : List (BitVec 8)} (h : Blm W b M) (ne : b' ≠ b) (cs : List Value) : Blm (W.setCells b' o cs) b M := ⟨h.1, fun j hj => by rw [World.cell?_setCells_out _ _ _ _ _ (fun e => absurd e.symm ne)]; exact h.2.1 j hj, h.2.2.setCells _ _ _⟩
theorem Blm.set {W : World} {b : Nat} {M : List (BitVec 8)} (h : Blm W b M) (i : Nat) (hi : i < 256) (v : BitVec 8) : Blm (W.setCell ⟨b, i, none⟩ (.int .u8 (Y v))) b (M.set i v) := by
  refine ⟨by rw [List.length_set]; exact h.1, fun j hj => ?_, h.2.2.set _ _⟩
  by_cases e : i = j
  · subst e
    rw [World.cell?_setCell_same _ _ _ (h.2.1 i hi)]
    simp [List.getD, h.1, hi]
  · have ne : (⟨b, i, none⟩ : Addr) ≠ ⟨b, j, none⟩ := by first | (simp; done) | (simp; omega)
    rw [World.cell?_setCell_other _ _ _ _ ne, h.2.1 j hj]
    simp [List.getD, List.getElem?_set_ne e]
theorem Blm.range {W : World} {b : Nat} {M : List (BitVec 8)} (h : Blm W b M) : W.rangeAt b 0 (byts M) := by
  intro j v hv
  unfold byts at hv
  rw [List.getElem?_map] at hv
  obtain ⟨x, hx, rfl⟩ := Option.map_eq_some_iff.1 hv
  have hj : j < M.length := (List.getElem?_eq_some_iff.1 hx).1
  rw [Nat.zero_add, h.2.1 j (by rw [← h.1]; exact hj)]
  simp [List.getD, hx]
theorem Blm.there {W : World} {b : Nat} {M : List (BitVec 8)} (h : Blm W b M) : W.there b 0 256 := by
  intro j hj
  rw [Nat.zero_add]
  exact ⟨by rw [h.2.1 j hj]; rfl, h.2.2 j hj⟩
theorem Blm.new {W : World} {b : Nat} {M : List (BitVec 8)} (hl : M.length = 256) (t : TypeId) (e : b = W.heap.size) : Blm (W.alloc (.cells (byts M).toArray t)) b M := by
  refine ⟨hl, fun i hi => ?_, Loose.new _ _ _ e⟩
  subst e
  rw [World.cell?_alloc_mark]
  simp [byts, List.getD, show i < M.length by omega]
theorem Blm.stored {W : World} {b : Nat} {M T : List (BitVec 8)} (h : Blm W b T) (hl : M.length = 256) : Blm (W.setCells b 0 (byts M)) b M := by
  refine ⟨hl, fun i hi => ?_, h.2.2.setCells _ _ _⟩
  have := World.rangeAt_setCells_same W b 0 (byts M) (by rw [byts_len, hl]; exact h.there) i (.int .u8 (Y (M.getD i 0))) (by simp [byts, List.getD, show i < M.length by omega])
  rwa [Nat.zero_add] at this
theorem Blm.off {w w' : World} {a b : Nat} {M : List (BitVec 8)} (h : Blm w a M) (o : Off b w w') (ne : a ≠ b) : Blm w' a M :=
  ⟨h.1, fun i hi => o.cell ne (h.2.1 i hi), fun i hi => by rw [World.frozen?_of_block (o.block a h.lt ne)]; exact h.2.2 i hi⟩
theorem Blm.grown {W : World} {b : Nat} {M : List (BitVec 8)} (h : Blm W b M) (d : Nat) (os : Array Obj) : Blm (grow (redrawn W d) os) b M := h.keep (below_regrown W d os)
def zF : List (BitVec 8) := List.replicate 256 0
theorem zF_len : zF.length = 256 := List.length_replicate
theorem byts_zF : byts zF = List.replicate 256 (Value.int .u8 0) := by
  rw [byts, zF, List.map_replicate, Y_zero]
/-- Where a bit stands. -/
def atF (j : Nat) : Nat := 255 - j / 8
def wtF (j : Nat) : BitVec 8 := 1#8 <<< (j % 8)
theorem atF_lt (j : Nat) : atF j < 256 := by rw [atF]; omega
/-- A filter with a bit set. -/
def setF (F : List (BitVec 8)) (j : Nat) : List (BitVec 8) := F.set (atF j) (F.getD (atF j) 0 ||| wtF j)
theorem setF_len (F : List (BitVec 8)) (j : Nat) : (setF F j).length = F.length := by simp [setF]
theorem Y_one {k : Nat} (h : k < 8) : (2 ^ k % 256 : Int) = Y (1#8 <<< k) := by
  rw [Y_eq]
  match k, h with
  | 0, _ | 1, _ | 2, _ | 3, _ | 4, _ | 5, _ | 6, _ | 7, _ => decide

set_option maxRecDepth 100000 in
theorem spot_any {j : Nat} (hj : j < 2048) (w : World) :
    Calls Tryd.prog 15 #[.int .i64 j] w fun e w' => e = .returned (.tuple #[.int .i64 (atF j), .int .u8 (Y (wtF j))]) ∧ ∃ n, w' = w.drewN n := by
  have HJ : Hid (j < 2048) := hj
  have WJ : Hid (∃ n, w.drewN n = w) := ⟨0, rfl⟩
  go_enter Tryd.func15, Tryd.ntmps15
  go_wp2_with fail
  refine wp_region_quiet_lit (by kernel_rfl) (by kernel_rfl) ?_
  repeat (first | go_big_quiet_skip | (go_big_quiet_want; go_big_quiet_op; go_big_quiet_on))
  refine wpQuiet_nil ?_
  rintro w' ⟨n, rfl⟩
  have e1 : (255 - (j : Int) / 8) = (atF j : Int) := by have := HJ.out; rw [atF]; omega
  rw [Y_one (show j % 8 < 8 by omega), e1]
  go_wp2
  simp [bodyPost, results, Tryd.results15, go_sem]
  exact ⟨rfl, n, rfl⟩

set_option maxRecDepth 100000 in
theorem set_any {b : Nat} {F : List (BitVec 8)} {j : Nat} (hj : j < 2048) (w : World) (hF : Blm w b F) :
    Calls Tryd.prog 13 #[.pointer (some ⟨b, 0, none⟩), .int .i64 j] w fun e w' => e = .returned (.tuple #[]) ∧ Blm w' b (setF F j) ∧ Off b w w' := by
  go_enter Tryd.func13, Tryd.ntmps13
  go_wp2_with fail
  refine (spot_any hj _).mono ?_
  rintro e w1 ⟨rfl, n, rfl⟩
  have H1 : Hid (Blm (w.drewN n) b F) := hF
  have O1 : Hid (Off b w (w.drewN n)) := ⟨rfl, rfl, rfl, Nat.le_refl _, fun _ _ _ => rfl⟩
  generalize w.drewN n = w1 at *
  have c1 := H1.out.2.1 (atF j) (atF_lt j)
  have f1 := H1.out.2.2 (atF j) (atF_lt j)
  have l1 : ((atF j : Nat) : Int) < 256 := by have := atF_lt j; omega
  have NX : Hid (Blm (w1.setCell ⟨b, atF j, none⟩ (.int .u8 (bits .or .u8 (Y (F.getD (atF j) 0)) (Y (wtF j))))).drew b (setF F j) ∧ Off b w (w1.setCell ⟨b, atF j, none⟩ (.int .u8 (bits .or .u8 (Y (F.getD (atF j) 0)) (Y (wtF j))))).drew) := by
    rw [Y_or]
    exact ⟨(H1.out.set (atF j) (atF_lt j) _).drew, (O1.out.setCell _).drew⟩
  clear hj hF
  generalize Y (F.getD (atF j) 0) = x at *
  go_wp2_with fail
  refine region_tail 9 (by kernel_rfl) (by kernel_rfl) ?_
  simp only [List.take_succ_cons, List.take_zero, List.drop_succ_cons, List.drop_zero]
  repeat (first | go_big_quiet_skip | (go_big_quiet_want; go_big_quiet_op; go_big_quiet_on))
  refine wpQuiet_nil ?_
  go_wp2
  simp [bodyPost, results, Tryd.results13, go_sem]
  exact NX.out

/-- Ints in a row. -/
def Ixs (W : World) (b o : Nat) (L : List Int) : Prop := ∀ i, i < L.length → W.cell? ⟨b, o + i, none⟩ = some (.int .i64 (L.getD i 0))
theorem Ixs.keep {W w1 : World} {b o : Nat} {L : List Int} (h : Ixs W b o L) (hb : Below W.heap.size W w1) : Ixs w1 b o L := fun i hi => cell_keep hb (h i hi)
theorem wpList_alloc_zero {P : Program} {ops : Array Oper} {rest : List Oper} {o : Oper} {a : Act} {w : World} {Q : Exit → Act → World → Prop} (hg : o.guard = none) (ty : TypeId) (ho : o.op = .alloc ty) (cs : Array Value)
    (hz : ∀ w, (zeroValue ty).run P w = .ok (.agg cs) w) (h : wpList P ops Q rest (a.put o.dst (.pointer (some ⟨w.heap.size, 0, none⟩))) (w.alloc (.cells cs ty))) : wpList P ops Q (o :: rest) a w := by
  refine wpList_plain hg fun K hK => ?_
  unfold Oper.wp execOp
  simp only [ho, Instr.alloc, Sem.run_bind, hz, newVar, newRow, Result.andThen_ok, run_newObj_alloc, Sem.run_pure, Value.cells]
  exact hK _ _ h
theorem wpList_build_zero {P : Program} {ops : Array Oper} {rest : List Oper} {o : Oper} {a : Act} {w : World} {Q : Exit → Act → World → Prop} (hg : o.guard = none) (ty : TypeId) (ho : o.op = .build ty #[]) (cs : Array Value)
    (hb : P.built ty [] = some cs) (h : wpList P ops Q rest (a.put o.dst (.agg cs)) w) : wpList P ops Q (o :: rest) a w := by
  refine wpList_build hg ty #[] ho (by simp [hb]) ?_
  simpa [hb] using h
theorem zero_of {P : Program} {ty : TypeId} {v : Value} (h : (P.info? ty).map (·.zero) = some (some v)) (w : World) : (zeroValue ty).run P w = .ok v w := by
  cases hq : P.info? ty with
  | none => rw [hq] at h; cases h
  | some i =>
    rw [hq] at h
    simp only [Option.map_some, Option.some.injEq] at h
    simp [zeroValue, typeInfo, hq, h]
theorem zero_bloom (w : World) : (zeroValue 28).run Tryd.prog w = .ok (.agg (byts zF).toArray) w := by
  rw [byts_zF]
  exact zero_of (by kernel_rfl) w
theorem built_bloom : Tryd.prog.built 28 [] = some (byts zF).toArray := by
  rw [byts_zF]; kernel_rfl
theorem size_bloom {F : List (BitVec 8)} (h : F.length = 256) : (Tryd.prog.info? 28).map (·.size) = some (byts F).length := by
  rw [byts_len, h]; kernel_rfl
theorem size_bloomA {F : List (BitVec 8)} (h : F.length = 256) : (Tryd.prog.info? 28).map (·.size) = some (byts F).toArray.size := by
  rw [List.size_toArray]; exact size_bloom h

theorem set_int {b : Nat} {F : List (BitVec 8)} {x : Int} (h0 : 0 ≤ x) (h1 : x < 2048) (w : World) (hF : Blm w b F) :
    Calls Tryd.prog 13 #[.pointer (some ⟨b, 0, none⟩), .int .i64 x] w fun e w' => e = .returned (.tuple #[]) ∧ Blm w' b (setF F x.toNat) ∧ Off b w w' := by
  obtain ⟨j, rfl⟩ := Int.eq_ofNat_of_zero_le h0
  exact set_any (by omega) w hF

end Go.Proofs.YtcjabligkeaafaaDoor.S

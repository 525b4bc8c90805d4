import Derived.Test.YtanokeeffbiijaaDoorUbA
import Derived.Test.YtanokeeffbiijaaDoorAdLast
import Derived.Laws.CopyOwn
import Derived.Lib.QuietBelow
/- waybilllaw17: lent, still. -/
namespace Go.Proofs.YtanokeeffbiijaaDoor
open Go.RowKit Go.Sort
theorem made_bytesM (n : Nat) : madeCells #[Value.int .u8 0] n = (List.replicate n (Value.int .u8 0)).toArray := by
  have := toList_madeCells_one (Value.int .u8 0) n
  apply Array.toList_inj.1
  rw [this]
theorem wpList_make_capM {P : Program} (w : World) {ops : Array Oper} {rest : List Oper} {o : Oper} {a : Act} {Q : Exit → Act → World → Prop}
    (hg : o.guard = none) (l c : Operand) (t : TypeId) (hop : o.op = Op.makeSlice t l c)
    (e : TypeId) (i : TypeInfo) (z : Value) (ht : P.underlying t = some (.slice e)) (hi : P.info? e = some i) (hz : i.zero = some z) (hsize : i.size = 1) (hz1 : z.cells = #[z]) (hby : i.bytes = 1)
    (kl kc : IntKind) (L C : Int) (n m : Nat) (hl : a.eval l = .int kl L) (hc : a.eval c = .int kc C) (eL : L = (n : Int)) (eC : C = (m : Int)) (hnm : n ≤ m) (hm : m ≤ 281474976710656)
    (hK : wpList P ops Q rest (a.put o.dst (.slice (some ⟨w.heap.size, 0, none⟩) n m)) (w.alloc (.cells (madeCells #[z] m) e))) :
    wpList P ops Q (o :: rest) a w := by
  subst eL eC
  refine wpList_plain hg fun K hK' => ?_
  have hr := run_make (P := P) w t e i z ht hi hz kl kc n m (by omega) (by omega) (by rw [hby]; omega) (by omega)
  simp only [Int.toNat_natCast, hsize, Nat.mul_one, hz1] at hr
  unfold Oper.wp
  simp [execOp, hop, hl, hc, hr, Result.andThen]
  exact hK' _ _ hK
theorem heap_newM (w : World) (o : Obj) : (w.alloc o).heap[w.heap.size]? = some o := by
  show (w.heap.push o)[w.heap.size]? = some o
  simp
/-- A list and its marks. -/
def mk70 (X : List Int) (i : Nat) : List Int := X ++ (List.replicate i 195 ++ List.replicate (70 - i) 0)
theorem mk70_len (X : List Int) {i : Nat} (h : i ≤ 70) : (mk70 X i).length = X.length + 70 := by simp [mk70]; omega
theorem mk70_set (X : List Int) {i : Nat} (h : i < 70) : (mk70 X i).set (X.length + i) 195 = mk70 X (i + 1) := by
  obtain ⟨k, hk⟩ : ∃ k, 70 - i = k + 1 := ⟨69 - i, by omega⟩
  rw [mk70, mk70, hk, show 70 - (i + 1) = k by omega, List.set_append_right _ _ (by omega), Nat.add_sub_cancel_left, List.set_append_right _ _ (by simp), List.length_replicate, Nat.sub_self, List.replicate_succ (n := k), List.set_cons_zero, List.replicate_succ', List.append_assoc]
  rfl
/-- With all its marks. -/
def lentL (X : List Int) : List Int := X ++ List.replicate 70 195
theorem mk70_all (X : List Int) : mk70 X 70 = lentL X := by simp [mk70, lentL]
/-- Block g holds just these bytes, and may be written. -/
def Rw8 (W : World) (g : Nat) (X : List Int) : Prop := W.heap[g]? = some (.cells (X.map (Value.int .u8)).toArray 5 (0, 0))
theorem Rw8.lt {W : World} {g : Nat} {X : List Int} (h : Rw8 W g X) : g < W.heap.size := (Array.getElem?_eq_some_iff.1 h).1
theorem Rw8.keep {W W' : World} {g : Nat} {X : List Int} (h : Rw8 W g X) (hb : Below W.heap.size W W') : Rw8 W' g X := (hb.block g h.lt).trans h
theorem Rw8.bz {W : World} {g : Nat} {X : List Int} (h : Rw8 W g X) : Bz W g 0 X := fun i hi => by
  rw [Nat.zero_add, cell_of_row W g i _ _ _ h]
  simp [List.getD, hi]
theorem Rw8.free {W : World} {g : Nat} {X : List Int} (h : Rw8 W g X) (i : Nat) : W.frozen? ⟨g, i, none⟩ = false := frozen_of_row W g i _ _ h
theorem Rw8.set {W : World} {g i : Nat} {X : List Int} (h : Rw8 W g X) (u : Int) : Rw8 (W.setCell ⟨g, i, none⟩ (.int .u8 u)) g (X.set i u) := by
  have := heap_setCell_same W g i _ 5 (.int .u8 u) h
  rw [Rw8, this, List.map_set, List.setIfInBounds_toArray]
theorem src_of {a : Option Addr} {bd od g : Nat} {X : List Int} {w w1 : World} (ha : Az a bd od X) (hX : Bz w bd od X) (B : Below w.heap.size w w1) :
    0 < (X.map (Value.int .u8)).length → (some (⟨g, 0, none⟩ : Addr)) = some ⟨g, 0, none⟩ ∧ ∃ ad, a = some ad ∧ ∀ j v, (X.map (Value.int .u8))[j]? = some v → w1.cell? (ad.add j) = some v := by
  intro h0
  refine ⟨rfl, ?_⟩
  rcases ha with h | h
  · rw [h] at h0; simp at h0
  · refine ⟨_, h, fun j v hv => ?_⟩
    rw [List.getElem?_map] at hv
    obtain ⟨x, hx, rfl⟩ := Option.map_eq_some_iff.1 hv
    have hj : j < X.length := (List.getElem?_eq_some_iff.1 hx).1
    have hc := hX j hj
    rw [Addr.add_mid, B.cell (p := ⟨bd, od + j, none⟩) (World.block_lt_of_cell? w _ hc), hc]
    simp [List.getD, hx]
theorem splice_ints (X : List Int) (k : Nat) : splice (List.replicate (X.length + k) (Value.int .u8 0)) 0 (X.map (Value.int .u8)) = (X ++ List.replicate k 0).map (Value.int .u8) := by
  simp [splice, List.drop_replicate]
set_option maxRecDepth 100000 in
set_option maxHeartbeats 8000000 in
theorem rlent_any {a : Option Addr} {bd od cd : Nat} {X : List Int} (hl : X.length < 140737488355328) (ha : Az a bd od X) (w : World) (hX : Bz w bd od X) :
    Calls Tryd.prog 16 #[.slice a X.length cd] w fun e w' => e = .returned (.slice (some ⟨w.heap.size, 0, none⟩) X.length (X.length + 70)) ∧ Rw8 w' w.heap.size (lentL X) ∧ Below w.heap.size w w' := by
  have HA : Hid (Az a bd od X ∧ Bz w bd od X ∧ X.length < 140737488355328) := ⟨ha, hX, hl⟩
  have n1 : (X.length : Int) < 140737488355328 := by omega
  obtain ⟨i0, hi, hz0, hz1, hz2⟩ := info_parts info_byte
  clear ha hX hl
  go_enter Tryd.func16, Tryd.ntmps16
  go_wp2_with (first
    | (at_make; refine wpList_make_capM _ rfl _ _ 42 rfl 5 i0 (.int .u8 0) Tryd.underlying42 hi hz0 hz1 rfl hz2 .i64 .i64 _ _ X.length (X.length + 70) rfl rfl (by omega) (by omega) (Nat.le_add_right _ _) (by have := HA.out.2.2; omega) ?_; rw [made_bytesM]; refine wpList_worldA (fun W => W.heap[w.heap.size]? = some (.cells (List.replicate (X.length + 70) (Value.int .u8 0)).toArray 5 (0, 0)) ∧ Below w.heap.size w W) ⟨heap_newM _ _, (Below.refl _ _).alloc (Nat.le_refl _) _⟩ ?_; intro w1 h1; obtain ⟨hrow, B1⟩ := h1)
    | (refine wpList_copy_splice rfl _ _ 42 42 rfl 5 Tryd.underlying42 (by kernel_rfl) _ _ X.length (X.length + 70) X.length cd rfl rfl w.heap.size 0 (List.replicate (X.length + 70) (Value.int .u8 0)) 5 hrow (X.map (Value.int .u8)) (by rw [List.length_map]; exact (Nat.min_self _).symm) (src_of HA.out.1 HA.out.2.1 B1) (by simp) (fun v hv => by obtain ⟨x, _, rfl⟩ := List.mem_map.1 hv; rfl) w.heap.size w B1 (Nat.le_refl _) ?_; intro w2 hrow2 B2; rw [splice_ints] at hrow2; clear hrow B1; have R2 : Hid (Rw8 w2 w.heap.size (mk70 X 0) ∧ Below w.heap.size w w2) := ⟨by simpa [mk70, Rw8] using hrow2.out, B2⟩; clear hrow2 B2))
  go_loopg [5] 70 (fun k iv wr => ∃ i : Nat, k = 70 - i ∧ i ≤ 70 ∧ iv = .int .i64 ((X.length : Int) + i) ∧ Rw8 wr w.heap.size (mk70 X i) ∧ Below w.heap.size w wr)
  case atStart => exact ⟨0, rfl, by decide, by simp, R2.out⟩
  case round =>
    clear R2
    obtain ⟨i, hk, hi9, rfl, hR, B⟩ := hrel
    have HK : Hid (gk = 70 - i) := hk
    have SR : Hid (Rw8 wr w.heap.size (mk70 X i) ∧ Below w.heap.size w wr) := ⟨hR, B⟩
    clear hk hR B
    by_cases h8 : i = 70
    · subst h8
      go_wp2
      simp [bodyPost, results, Tryd.results16, go_sem]
      have h := SR.out.1
      rw [mk70_all] at h
      exact ⟨h, SR.out.2⟩
    · have hlt : i < 70 := by omega
      have hlt' : (i : Int) < 70 := by omega
      have e1 : ((X.length : Int) + (i : Int)).toNat = X.length + i := by omega
      have g1 := SR.out.1.bz (X.length + i) (by rw [mk70_len X hi9]; omega)
      have f1 := SR.out.1.free (X.length + i)
      rw [Nat.zero_add] at g1
      generalize (mk70 X i).getD (X.length + i) 0 = y at *
      have NX : Hid (Rw8 (wr.setCell ⟨w.heap.size, X.length + i, none⟩ (.int .u8 195)) w.heap.size (mk70 X (i + 1)) ∧ Below w.heap.size w (wr.setCell ⟨w.heap.size, X.length + i, none⟩ (.int .u8 195))) := by
        refine ⟨?_, SR.out.2.setCell (Nat.le_refl _) _⟩
        have h := SR.out.1.set (i := X.length + i) 195
        rw [mk70_set X hlt] at h
        exact h
      clear SR h8
      go_wp2
      go_roundg (70 - (i + 1))
      case measure => have := HK.out; omega
      case rel => exact ⟨i + 1, rfl, by omega, by go_num, NX.out⟩
theorem lentL_at (X : List Int) {i : Nat} (h : i < X.length) : (lentL X).getD i 0 = X.getD i 0 := by
  rw [lentL, List.getD, List.getElem?_append_left h, List.getD]
theorem lentL_past (X : List Int) {i : Nat} (h : X.length ≤ i) (h2 : i < X.length + 70) : (lentL X).getD i 0 = 195 := by
  rw [lentL, List.getD, List.getElem?_append_right h, List.getElem?_replicate, if_pos (by omega)]; rfl
theorem lentL_len (X : List Int) : (lentL X).length = X.length + 70 := by simp [lentL]
theorem lentL_bz {W : World} {g : Nat} {X : List Int} (h : Rw8 W g (lentL X)) : Bz W g 0 X := h.bz.front
set_option maxRecDepth 100000 in
set_option maxHeartbeats 4000000 in
theorem rstill_any {a : Option Addr} {g bd od cd : Nat} {X : List Int} (hl : X.length < 140737488355328) (ha : Az a bd od X) (w : World) (hG : Rw8 w g (lentL X)) (hX : Bz w bd od X) :
    Calls Tryd.prog 21 #[.slice (some ⟨g, 0, none⟩) X.length (X.length + 70), .slice a X.length cd] w fun e w' => e = .returned (.bool true) ∧ Below w.heap.size w w' := by
  have hl' : (X.length : Int) < 140737488355328 := by omega
  have HA : Hid (Az a bd od X ∧ Bz w bd od X ∧ X.length < 140737488355328 ∧ Bz w g 0 (lentL X)) := ⟨ha, hX, hl, hG.bz⟩
  clear ha hX hl hG
  go_enter Tryd.func21, Tryd.ntmps21
  go_wp2_with fail
  go_loopg [6] (X.length + 70) (fun k iv wr => ∃ i : Nat, k = X.length + 70 - i ∧ i ≤ X.length + 70 ∧ iv = .int .i64 i ∧ Below w.heap.size w wr)
  case atStart => exact ⟨0, rfl, by omega, rfl, Below.refl _ _⟩
  case round =>
    obtain ⟨i, hk, hi, rfl, B⟩ := hrel
    have HK : Hid (gk = X.length + 70 - i) := hk
    have HF : Hid (Below w.heap.size w wr) := B
    clear hk B
    by_cases h8 : i = X.length + 70
    · subst h8
      go_wp2
      simp [bodyPost, results, Tryd.results21, go_sem]
      exact HF.out
    · have ii : i < X.length + 70 := by omega
      have gg := HA.out.2.2.2 i (by rw [lentL_len]; omega)
      rw [Nat.zero_add] at gg
      rw [← HF.out.cell (p := ⟨g, i, none⟩) (World.block_lt_of_cell? w _ gg)] at gg
      by_cases h9 : i < X.length
      · obtain rfl := HA.out.1.cons (by omega)
        have gx := HA.out.2.1 i h9
        rw [← HF.out.cell (p := ⟨bd, od + i, none⟩) (World.block_lt_of_cell? w _ gx)] at gx
        rw [lentL_at X h9] at gg
        generalize X.getD i 0 = x at *
        have hi2 : (i : Int) < (X.length : Int) := by omega
        have hi3 : (i : Int) < (X.length : Int) + 70 := by omega
        go_wp2_with fail
        have gG := fun d os => cell_regrown gg d os
        have gX := fun d os => cell_regrown gx d os
        have hi4 : ¬ ((X.length : Int) ≤ (i : Int)) := by omega
        refine wp_region_quiet_below (by kernel_rfl) (by kernel_rfl) ?_
        repeat (first | go_big_quiet_skip | (go_big_quiet_want; go_big_quiet_op; go_big_quiet_on))
        refine wpQuiet_nil ?_
        rintro w1 ⟨p, rfl⟩
        have hb := below_regrown wr p.d p.os
        generalize grow (redrawn wr p.d) p.os = w1 at *
        have H1 : Hid (Below w.heap.size w w1) := HF.out.trans (hb.mono HF.out.size)
        clear hb
        go_wp2
        go_roundg (X.length + 70 - (i + 1))
        case measure => have := HK.out; omega
        case rel => exact ⟨i + 1, rfl, by omega, by go_num, H1.out⟩
      · rw [lentL_past X (by omega) ii] at gg
        have hi2 : (X.length : Int) ≤ (i : Int) := by omega
        have hi3 : (i : Int) < (X.length : Int) + 70 := by omega
        go_wp2_with fail
        have gG := fun d os => cell_regrown gg d os
        refine wp_region_quiet_below (by kernel_rfl) (by kernel_rfl) ?_
        repeat (first | go_big_quiet_skip | (go_big_quiet_want; go_big_quiet_op; go_big_quiet_on))
        refine wpQuiet_nil ?_
        rintro w1 ⟨p, rfl⟩
        have hb := below_regrown wr p.d p.os
        generalize grow (redrawn wr p.d) p.os = w1 at *
        have H1 : Hid (Below w.heap.size w w1) := HF.out.trans (hb.mono HF.out.size)
        clear hb
        go_wp2
        go_roundg (X.length + 70 - (i + 1))
        case measure => have := HK.out; omega
        case rel => exact ⟨i + 1, rfl, by omega, by go_num, H1.out⟩
end Go.Proofs.YtanokeeffbiijaaDoor

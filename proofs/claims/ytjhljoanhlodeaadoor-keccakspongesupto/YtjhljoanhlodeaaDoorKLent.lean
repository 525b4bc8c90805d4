import Derived.Test.YtjhljoanhlodeaaDoorKSums
import Derived.OwnWalk
import Derived.Deep.OwnRows
import Derived.Laws.CopyOwn
namespace Go.Proofs.YtjhljoanhlodeaaDoor
open Go.RowKit Go.Sort

theorem info_byte : (Tryd.prog.info? 5).map (fun i => (i.zero, i.size, i.bytes)) = some (some (.int .u8 0), 1, 1) := by kernel_rfl

/-- 'make([]T, n, m)'. -/
theorem wpList_make_cap {P : Program} (w : World) {ops : Array Oper} {rest : List Oper} {o : Oper} {a : Act} {Q : Exit → Act → World → Prop}
    (hg : o.guard = none) (l c : Operand) (t : TypeId) (hop : o.op = Op.makeSlice t l c)
    (e : TypeId) (i : TypeInfo) (z : Value) (ht : P.underlying t = some (.slice e)) (hi : P.info? e = some i) (hz : i.zero = some z) (hsize : i.size = 1) (hz1 : z.cells = #[z]) (hby : i.bytes = 1)
    (kl kc : IntKind) (L C : Int) (n m : Nat) (hl : a.eval l = .int kl L) (hc : a.eval c = .int kc C) (eL : L = (n : Int)) (eC : C = (m : Int)) (hnm : n ≤ m) (hm : m ≤ 281474976710656)
    (hK : wpList P ops Q rest (a.put o.dst (.slice (some ⟨w.heap.size, 0, none⟩) n m)) (w.alloc (.cells (madeCells #[z] m) e))) :
    wpList P ops Q (o :: rest) a w := by
  subst eL eC
  refine wpList_plain hg fun K hK' => ?_
  have hr := run_make (P := P) w t e i z ht hi hz kl kc n m (by omega) (by omega) (by rw [hby]; omega) (by omega)
  simp only [Int.toNat_natCast, hsize, Nat.mul_one, hz1] at hr
  unfold Oper.wp
  simp [execOp, hop, hl, hc, hr, Result.andThen]
  exact hK' _ _ hK

/-- Block g holds these bytes, all of them, and may be written. -/
def Row8 (W : World) (g : Nat) (X : List (BitVec 8)) : Prop := Byo W g 0 X ∧ Loose W g X.length
theorem row8_of {W : World} {g : Nat} {X : List (BitVec 8)} {t : TypeId} (h : W.heap[g]? = some (.cells (byts X).toArray t (0, 0))) : Row8 W g X := by
  refine ⟨fun i hi => ?_, fun i _ => frozen_of_row W g i _ t h⟩
  rw [Nat.zero_add, cell_of_row W g i _ t _ h]
  simp [byts, List.getD, hi]
theorem Row8.set {W : World} {g : Nat} {X : List (BitVec 8)} (h : Row8 W g X) (i : Nat) (hi : i < X.length) (v : BitVec 8) : Row8 (W.setCell ⟨g, i, none⟩ (.int .u8 (Y v))) g (X.set i v) := by
  refine ⟨fun j hj => ?_, by rw [List.length_set]; exact h.2.set _ _⟩
  rw [List.length_set] at hj
  rw [Nat.zero_add]
  have hc := h.1 j hj
  rw [Nat.zero_add] at hc
  by_cases e : i = j
  · subst e
    rw [World.cell?_setCell_same _ _ _ hc]
    simp [List.getD, hi]
  · have ne : (⟨g, i, none⟩ : Addr) ≠ ⟨g, j, none⟩ := by first | (simp; done) | (simp; omega)
    rw [World.cell?_setCell_other _ _ _ _ ne, hc]
    simp [List.getD, List.getElem?_set_ne e]
theorem splice_byts (X : List (BitVec 8)) (k : Nat) : splice (List.replicate (X.length + k) (Value.int .u8 0)) 0 (byts X) = byts (X ++ List.replicate k 0) := by
  have h : Y 0#8 = 0 := Y_zero
  simp [splice, byts, List.drop_replicate, h]
theorem room_byts (X : List (BitVec 8)) {i : Nat} (h : i < 200) : (X ++ (List.replicate i 195 ++ List.replicate (200 - i) 0)).set (X.length + i) 195 = X ++ (List.replicate (i + 1) 195 ++ List.replicate (200 - (i + 1)) 0) := by
  obtain ⟨k, hk⟩ : ∃ k, 200 - i = k + 1 := ⟨199 - i, by omega⟩
  rw [hk, show 200 - (i + 1) = k by omega, List.set_append_right _ _ (by omega), Nat.add_sub_cancel_left, List.set_append_right _ _ (by simp), List.length_replicate, Nat.sub_self, List.replicate_succ (n := k), List.set_cons_zero, List.replicate_succ', List.append_assoc]
  rfl
theorem made_bytes (n : Nat) : madeCells #[Value.int .u8 0] n = (List.replicate n (Value.int .u8 0)).toArray := by
  have := toList_madeCells_one (Value.int .u8 0) n
  apply Array.toList_inj.1
  rw [this]

theorem lent_src {a : Option Addr} {bd od g : Nat} {X : List (BitVec 8)} {w w1 : World} (ha : At a bd od X) (hX : Byo w bd od X) (B : Below w.heap.size w w1) :
    0 < (byts X).length → (some (⟨g, 0, none⟩ : Addr)) = some ⟨g, 0, none⟩ ∧ ∃ ad, a = some ad ∧ ∀ j v, (byts X)[j]? = some v → w1.cell? (ad.add j) = some v := by
  intro h0
  refine ⟨rfl, ?_⟩
  rcases ha with h | h
  · rw [h] at h0; simp [byts] at h0
  · refine ⟨_, h, fun j v hv => ?_⟩
    unfold byts at hv
    rw [List.getElem?_map] at hv
    obtain ⟨x, hx, rfl⟩ := Option.map_eq_some_iff.1 hv
    have hj : j < X.length := (List.getElem?_eq_some_iff.1 hx).1
    have hc := hX j hj
    rw [Addr.add_mid, B.cell (p := ⟨bd, od + j, none⟩) (World.block_lt_of_cell? w _ hc), hc]
    simp [List.getD, hx]
theorem heap_new (w : World) (o : Obj) : (w.alloc o).heap[w.heap.size]? = some o := by
  show (w.heap.push o)[w.heap.size]? = some o
  simp

set_option maxHeartbeats 4000000 in
theorem lent_any {a : Option Addr} {bd od cd : Nat} {X : List (BitVec 8)} (hl : X.length < 1073741824) (ha : At a bd od X) (w : World) (hX : Byo w bd od X) :
    Calls Tryd.prog 13 #[.slice a X.length cd] w fun e w' => ∃ g, e = .returned (.slice (some ⟨g, 0, none⟩) X.length (X.length + 200)) ∧ w.heap.size ≤ g ∧ Row8 w' g (X ++ List.replicate 200 195) ∧ Below w.heap.size w w' := by
  have hl' : (X.length : Int) < 1073741824 := by omega
  obtain ⟨i0, hi, hz0, hz1, hz2⟩ := info_parts info_byte
  have y195 : Y 195 = 195 := by rw [Y_eq]; rfl
  have HA : Hid (At a bd od X ∧ Byo w bd od X ∧ X.length < 1073741824 ∧ Y 195 = 195) := ⟨ha, hX, hl, y195⟩
  clear ha hX hl y195
  go_enter Tryd.func13, Tryd.ntmps13
  go_wp2_with (first
    | (at_make; refine wpList_make_cap _ rfl _ _ 30 rfl 5 i0 (.int .u8 0) Tryd.underlying30 hi hz0 hz1 rfl hz2 .i64 .i64 _ _ X.length (X.length + 200) rfl rfl (by omega) (by omega) (by omega) (by have := HA.out.2.2.1; omega) ?_; rw [made_bytes]; refine wpList_world (fun W => W.heap[w.heap.size]? = some (.cells (List.replicate (X.length + 200) (Value.int .u8 0)).toArray 5 (0, 0)) ∧ Below w.heap.size w W) ⟨heap_new _ _, (Below.refl _ _).alloc (Nat.le_refl _) _⟩ ?_; intro w1 h1; obtain ⟨hrow, B1⟩ := h1)
    | (refine wpList_copy_splice rfl _ _ 30 30 rfl 5 Tryd.underlying30 (by kernel_rfl) _ _ X.length (X.length + 200) X.length cd rfl rfl w.heap.size 0 (List.replicate (X.length + 200) (Value.int .u8 0)) 5 hrow (byts X) (by rw [byts_len]; exact (Nat.min_self _).symm) (lent_src HA.out.1 HA.out.2.1 B1) (by simp [byts_len]) (fun v hv => by obtain ⟨x, _, rfl⟩ := List.mem_map.1 hv; rfl) w.heap.size w B1 (Nat.le_refl _) ?_; intro w2 hrow2 B2; rw [splice_byts] at hrow2; clear hrow B1))
  have hB : Hid (Row8 w2 w.heap.size (X ++ List.replicate 200 0)) := row8_of hrow2.out
  have BB : Hid (Below w.heap.size w w2) := B2
  clear hrow2 hi hz0 hz1 hz2 B2
  go_loopg [5] 200 (fun k iv wr => ∃ i : Nat, k = 200 - i ∧ i ≤ 200 ∧ iv = .int .i64 ((X.length : Int) + i) ∧ Below w.heap.size w wr ∧ Row8 wr w.heap.size (X ++ (List.replicate i 195 ++ List.replicate (200 - i) 0)))
  case atStart => exact ⟨0, rfl, by decide, by simp, BB.out, by have h := hB.out; simpa using h⟩
  case round =>
    clear BB hB
    obtain ⟨i, hk, hi, rfl, B, hB⟩ := hrel
    have HK : Hid (gk = 200 - i) := hk
    have HF : Hid (Below w.heap.size w wr ∧ Row8 wr w.heap.size (X ++ (List.replicate i 195 ++ List.replicate (200 - i) 0))) := ⟨B, hB⟩
    clear hk B hB
    by_cases h8 : i = 200
    · subst h8
      go_wp2
      go_ret
      exact ⟨w.heap.size, rfl, Nat.le_refl _, by have h := HF.out.2; simpa using h, HF.out.1⟩
    · have hi' : (i : Int) < 200 := by omega
      have e1 : ((X.length : Int) + (i : Int)).toNat = X.length + i := by omega
      have gx := HF.out.2.1 (X.length + i) (by simp; omega)
      have fx := HF.out.2.2 (X.length + i) (by simp; omega)
      rw [Nat.zero_add] at gx
      generalize (X ++ (List.replicate i 195 ++ List.replicate (200 - i) 0)).getD (X.length + i) 0 = x at *
      go_wp2
      go_roundg (200 - (i + 1))
      case measure => have := HK.out; omega
      case rel =>
        refine ⟨i + 1, rfl, by omega, by go_num, HF.out.1.setCell (Nat.le_refl _) _, ?_⟩
        rw [← room_byts X (show i < 200 by omega)]
        have h := HF.out.2.set (X.length + i) (by simp; omega) 195
        rw [HA.out.2.2.2] at h
        exact h

end Go.Proofs.YtjhljoanhlodeaaDoor

import Derived.Test.YtndefnomefdhoabDoorKSums
import Derived.OwnWalk
import Derived.Deep.OwnRows
import Derived.Laws.CopyOwn
namespace Go.Proofs.YtndefnomefdhoabDoor.K
open Go.RowKit Go.Sort

theorem info_byte : (Tryd.prog.info? 5).map (fun i => (i.zero, i.size, i.bytes)) = some (some (.int .u8 0), 1, 1) := by kernel_rfl

/-- 'make([]T, n, m)'. -/
theorem wpList_make_cap {P : Program} (w : World) {ops : Array Oper} {rest : List Oper} {o : Oper} {a : Act} {Q : Exit → Act → World → Prop}
    (hg : o.guard = none) (l c : Operand) (t : TypeId) (hop : o.op = Op.makeSlice t l c)
    (e : TypeId) (i : TypeInfo) (z : Value) (ht : P.underlying t = some (.slice e)) (hi : P.info? e = some i) (hz : i.zero = some z) (hsize : i.size = 1) (hz1 : z.cells = #[z]) (hby : i.bytes = 1)
    (kl kc : IntKind) (L C : Int) (n m : Nat) (hl : a.eval l = .int kl L) (hc : a.eval c = .int kc C) (eL : L = (n : Int)) (eC : C = (m : Int)) (hnm : n ≤ m) (hm : m ≤ 281474976710656)
    (hK : wpList P ops Q rest (a.put o.dst (.slice (some ⟨w.heap.size, 0, none⟩) n m)) (w.alloc (.cells (madeCells #[z] m) e))) :
    wpList P ops Q (o :: rest) a w := by
  subst eL eC
  refine wpList_plain hg fun K hK' => ?_
  have hr := run_make (P := P) w t e i z ht hi hz kl kc n m (by omega) (by omega) (by rw [hby]; omega) (by omega)
  simp only [Int.toNat_natCast, hsize, Nat.mul_one, hz1] at hr
  unfold Oper.wp
  simp [execOp, hop, hl, hc, hr, Result.andThen]
  exact hK' _ _ hK

/-- Block g holds these bytes, all of them, and may be written. -/
def Row8 (W : World) (g : Nat) (X : List (BitVec 8)) : Prop := Byo W g 0 X ∧ Loose W g X.length
theorem row8_of {W : World} {g : Nat} {X : List (BitVec 8)} {t : TypeId} (h : W.heap[g]? = some (.cells (byts X).toArray t (0, 0))) : Row8 W g X := by
  refine ⟨fun i hi => ?_, fun i _ => frozen_of_row W g i _ t h⟩
  rw [Nat.zero_add, cell_of_row W g i _ t _ h]
  simp [byts, List.getD, hi]
theorem Row8.set {W : World} {g : Nat} {X : List (BitVec 8)} (h : Row8 W g X) (i : Nat) (hi : i < X.length) (v : BitVec 8) : Row8 (W.setCell ⟨g, i, none⟩ (.int .u8 (Y v))) g (X.set i v) := by
  refine ⟨fun j hj => ?_, by rw [List.length_set]; exact h.2.set _ _⟩
  rw [List.length_set] at hj
  rw [Nat.zero_add]
  have hc := h.1 j hj
  rw [Nat.zero_add] at hc
  by_cases e : i = j
  · subst e
    rw [World.cell?_setCell_same _ _ _ hc]
    simp [List.getD, hi]
  · have ne : (⟨g, i, none⟩ : Addr) ≠ ⟨g, j, none⟩ := by first | (simp; done) | (simp; omega)
    rw [World.cell?_setCell_other _ _ _ _ ne, hc]
    simp [List.getD, List.getElem?_set_ne e]
theorem splice_byts (X : List (BitVec 8)) (k : Nat) : splice (List.replicate (X.length + k) (Value.int .u8 0)) 0 (byts X) = byts (X ++ List.replicate k 0) := by
  have h : Y 0#8 = 0 := Y_zero
  simp [splice, byts, List.drop_replicate, h]
theorem made_bytes (n : Nat) : madeCells #[Value.int .u8 0] n = (List.replicate n (Value.int .u8 0)).toArray := by
  have := toList_madeCells_one (Value.int .u8 0) n
  apply Array.toList_inj.1
  rw [this]

theorem lent_src {a : Option Addr} {bd od g : Nat} {X : List (BitVec 8)} {w w1 : World} (ha : At a bd od X) (hX : Byo w bd od X) (B : Below w.heap.size w w1) :
    0 < (byts X).length → (some (⟨g, 0, none⟩ : Addr)) = some ⟨g, 0, none⟩ ∧ ∃ ad, a = some ad ∧ ∀ j v, (byts X)[j]? = some v → w1.cell? (ad.add j) = some v := by
  intro h0
  refine ⟨rfl, ?_⟩
  rcases ha with h | h
  · rw [h] at h0; simp [byts] at h0
  · refine ⟨_, h, fun j v hv => ?_⟩
    unfold byts at hv
    rw [List.getElem?_map] at hv
    obtain ⟨x, hx, rfl⟩ := Option.map_eq_some_iff.1 hv
    have hj : j < X.length := (List.getElem?_eq_some_iff.1 hx).1
    have hc := hX j hj
    rw [Addr.add_mid, B.cell (p := ⟨bd, od + j, none⟩) (World.block_lt_of_cell? w _ hc), hc]
    simp [List.getD, hx]
theorem heap_new (w : World) (o : Obj) : (w.alloc o).heap[w.heap.size]? = some o := by
  show (w.heap.push o)[w.heap.size]? = some o
  simp

end Go.Proofs.YtndefnomefdhoabDoor.K

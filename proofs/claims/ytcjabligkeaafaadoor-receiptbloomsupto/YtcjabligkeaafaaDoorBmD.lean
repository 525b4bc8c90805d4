import Derived.Test.YtcjabligkeaafaaDoorBmC
/- BloomMakes: the law. -/
namespace Go.Proofs.YtcjabligkeaafaaDoor.S
open Go.RowKit Go.Sort

def vals (L : List Int) : List Value := L.map (Value.int .i64)
theorem vals_len (L : List Int) : (vals L).length = L.length := by simp [vals]
/-- Ints in a block of one's own. -/
def IxR (W : World) (g : Nat) (T : List Int) : Prop := Ixs W g 0 T ∧ Loose W g T.length
theorem IxR.keep {W w1 : World} {g : Nat} {T : List Int} (h : IxR W g T) (hl : g < W.heap.size) (hb : Below W.heap.size W w1) : IxR w1 g T := ⟨h.1.keep hb, h.2.keep hb hl⟩
theorem ixR_of {W : World} {g : Nat} {T : List Int} {t : TypeId} (h : W.heap[g]? = some (.cells (vals T).toArray t (0, 0))) : IxR W g T := by
  refine ⟨fun i hi => ?_, fun i _ => frozen_of_row W g i _ t h⟩
  rw [Nat.zero_add, cell_of_row W g i _ t _ h]
  simp [vals, List.getD, hi]
theorem IxR.set {W : World} {g : Nat} {T : List Int} (h : IxR W g T) (i : Nat) (hi : i < T.length) (v : Int) : IxR (W.setCell ⟨g, i, none⟩ (.int .i64 v)) g (T.set i v) := by
  refine ⟨fun j hj => ?_, by rw [List.length_set]; exact h.2.set _ _⟩
  rw [List.length_set] at hj
  rw [Nat.zero_add]
  have hc := h.1 j hj
  rw [Nat.zero_add] at hc
  by_cases e : i = j
  · subst e
    rw [World.cell?_setCell_same _ _ _ hc]
    simp [List.getD, hi]
  · have ne : (⟨g, i, none⟩ : Addr) ≠ ⟨g, j, none⟩ := by first | (simp; done) | (simp; omega)
    rw [World.cell?_setCell_other _ _ _ _ ne, hc]
    simp [List.getD, List.getElem?_set_ne e]
theorem IxR.cell {W : World} {g : Nat} {T : List Int} (h : IxR W g T) {i : Nat} (hi : i < T.length) : W.cell? ⟨g, i, none⟩ = some (.int .i64 (T.getD i 0)) := by
  have := h.1 i hi
  rwa [Nat.zero_add] at this
theorem IxR.far {W : World} {b' g i : Nat} {v : Value} {T : List Int} (h : IxR W g T) (ne : b' ≠ g) : IxR (W.setCell ⟨b', i, none⟩ v) g T := ⟨fun j hj => by rw [World.cell?_setCell_far _ _ _ _ ne]; exact h.1 j hj, h.2.set _ _⟩
theorem IxR.farCells {W : World} {b' g o : Nat} {T : List Int} (h : IxR W g T) (ne : b' ≠ g) (cs : List Value) : IxR (W.setCells b' o cs) g T := ⟨fun j hj => by rw [World.cell?_setCells_out _ _ _ _ _ (fun e => absurd e.symm ne)]; exact h.1 j hj, h.2.setCells _ _ _⟩
end Go.Proofs.YtcjabligkeaafaaDoor.S

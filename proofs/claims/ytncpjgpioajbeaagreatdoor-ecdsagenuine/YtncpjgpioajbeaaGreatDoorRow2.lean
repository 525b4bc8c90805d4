import Derived.Test.YtncpjgpioajbeaaGreatDoorRow
import Derived.LoopN
namespace Go.Proofs.YtncpjgpioajbeaaGreatDoor
open Go.RowKit

theorem Row.new (W : World) (l : List Int) (t : TypeId) : Row (W.alloc (.cells (l.map (Value.int .u64)).toArray t)) W.heap.size l := by
  intro i hi
  rw [World.cell?_alloc_mark]
  simp [List.getElem?_map, List.getD, List.getElem?_eq_getElem hi]
theorem Loose.new (W : World) (cs : Array Value) (t : TypeId) (n : Nat) : Loose (W.alloc (.cells cs t)) W.heap.size n := fun i _ => by simp [go_sem]
theorem Row.set {W : World} {b : Nat} {l : List Int} (h : Row W b l) (i : Nat) (hi : i < l.length) (v : Int) : Row (W.setCell ⟨b, i, none⟩ (.int .u64 v)) b (l.set i v) := by
  intro j hj
  simp at hj
  by_cases e : i = j
  · subst e
    rw [World.cell?_setCell_same _ _ _ (h i hi)]
    simp [List.getD, hi]
  · have ne : (⟨b, i, none⟩ : Addr) ≠ ⟨b, j, none⟩ := by first | (simp; done) | (simp; omega)
    rw [World.cell?_setCell_other _ _ _ _ ne, h j hj]
    simp [List.getD, List.getElem?_set_ne e]
theorem Row.setOther {W : World} {b : Nat} {l : List Int} (h : Row W b l) {p : Addr} (hp : p.block ≠ b) (v : Value) : Row (W.setCell p v) b l := fun j hj => by
  rw [World.cell?_setCell_far _ _ _ _ hp]; exact h j hj
theorem Loose.set {W : World} {b n : Nat} (h : Loose W b n) (p : Addr) (v : Value) : Loose (W.setCell p v) b n := fun j hj => by rw [World.frozen?_setCell]; exact h j hj
theorem Row.drew {W : World} {b : Nat} {l : List Int} (h : Row W b l) : Row W.drew b l := h
theorem Loose.drew {W : World} {b n : Nat} (h : Loose W b n) : Loose W.drew b n := h

end Go.Proofs.YtncpjgpioajbeaaGreatDoor

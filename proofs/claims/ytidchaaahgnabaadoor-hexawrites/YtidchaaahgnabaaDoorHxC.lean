import Derived.Test.YtidchaaahgnabaaDoorHxA
import Derived.Test.YtidchaaahgnabaaDoorQTail
namespace Go.Proofs.YtidchaaahgnabaaDoor
open Go.RowKit

/-- Four numbers in a block. -/
def Qd (W : World) (b : Nat) (C : List Int) : Prop := ∀ j, j < 4 → W.cell? ⟨b, j, none⟩ = some (.int .u64 (C.getD j 0)) ∧ W.frozen? ⟨b, j, none⟩ = false
theorem cellK {W w1 : World} {p : Addr} {v : Value} (hb : Below W.heap.size W w1) (h : W.cell? p = some v) : w1.cell? p = some v := by
  rw [hb.cell (p := p) (World.block_lt_of_cell? W _ h)]; exact h
theorem Qd.keep {W W' : World} {b : Nat} {C : List Int} (h : Qd W b C) (hb : Below W.heap.size W W') : Qd W' b C := fun j hj => by
  obtain ⟨c, f⟩ := h j hj
  have hl := World.block_lt_of_cell? W _ c
  exact ⟨by rw [hb.cell (p := ⟨b, j, none⟩) hl]; exact c, by rw [hb.frozen (p := ⟨b, j, none⟩) hl]; exact f⟩
theorem Qd.alloc {W : World} {b : Nat} {C : List Int} (h : Qd W b C) (o : Obj) : Qd (W.alloc o) b C := h.keep ((Below.refl _ _).alloc (Nat.le_refl _) o)
theorem Qd.set {W : World} {b j : Nat} {C : List Int} {v : Int} (h : Qd W b C) (hj : j < 4) (hl : C.length = 4) : Qd (W.setCell ⟨b, j, none⟩ (.int .u64 v)) b (C.set j v) := fun i hi => by
  obtain ⟨c, f⟩ := h i hi
  refine ⟨?_, by simpa using f⟩
  by_cases e : i = j
  · subst e
    rw [World.cell?_setCell_same' _ _ _ (by rw [c]; rfl), List.getD, List.getElem?_set_self (by omega)]
    rfl
  · rw [World.cell?_setCell_other _ _ _ _ (fun x => e (by cases x; rfl)), c, List.getD, List.getD, List.getElem?_set_ne (by omega)]
theorem Qd.other {W : World} {b b' j : Nat} {C : List Int} {v : Value} (h : Qd W b C) (hb : b ≠ b') : Qd (W.setCell ⟨b', j, none⟩ v) b C := fun i hi => by
  obtain ⟨c, f⟩ := h i hi
  exact ⟨by rw [World.cell?_setCell_other _ _ _ _ (fun x => hb (congrArg Addr.block x).symm)]; exact c, by simpa using f⟩
end Go.Proofs.YtidchaaahgnabaaDoor

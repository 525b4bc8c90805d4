import Derived.Test.YtncpjgpioajbeaaGreatDoorRow2
namespace Go.Proofs.YtncpjgpioajbeaaGreatDoor
open Go.RowKit

theorem Hold.row {W : World} {b : Nat} {n : Int} (h : Hold W b n) : Row W b [l0 n, l1 n, l2 n, l3 n] := by
  intro i hi
  simp at hi
  match i, hi with
  | 0, _ => exact h.1
  | 1, _ => exact h.2.1
  | 2, _ => exact h.2.2.1
  | 3, _ => exact h.2.2.2
theorem Row.hold {W : World} {b : Nat} {n : Int} (h : Row W b [l0 n, l1 n, l2 n, l3 n]) : Hold W b n := ⟨h 0 (by simp), h 1 (by simp), h 2 (by simp), h 3 (by simp)⟩
theorem Loose.cells4 {W : World} {b : Nat} (h : Loose W b 4) : W.frozen? ⟨b, 0, none⟩ = false ∧ W.frozen? ⟨b, 1, none⟩ = false ∧ W.frozen? ⟨b, 2, none⟩ = false ∧ W.frozen? ⟨b, 3, none⟩ = false := ⟨h 0 (by decide), h 1 (by decide), h 2 (by decide), h 3 (by decide)⟩

end Go.Proofs.YtncpjgpioajbeaaGreatDoor

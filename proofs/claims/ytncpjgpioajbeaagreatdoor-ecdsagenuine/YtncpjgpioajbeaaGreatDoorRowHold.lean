import Derived.Test.YtncpjgpioajbeaaGreatDoorRow2
namespace Go.Proofs.YtncpjgpioajbeaaGreatDoor
open Go.RowKit

theorem Hold.row {W : World} {b : Nat} {n : Int} (h : Hold W b n) : Row W b [l0 n, l1 n, l2 n, l3 n] := by
  intro i hi
  simp at hi
  match i, hi with
  | 0, _ => exact h.1
  | 1, _ => exact h.2.1
  | 2, _ => exact h.2.2.1
  | 3, _ => exact h.2.2.2
end Go.Proofs.YtncpjgpioajbeaaGreatDoor

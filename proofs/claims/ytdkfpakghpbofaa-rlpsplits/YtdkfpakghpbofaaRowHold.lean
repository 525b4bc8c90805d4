import Derived.Test.YtdkfpakghpbofaaRow2
namespace Go.Proofs.Ytdkfpakghpbofaa
open Go.RowKit

theorem Hold.row {W : World} {b : Nat} {n : Int} (h : Hold W b n) : Row W b [l0 n, l1 n, l2 n, l3 n] := by
  intro i hi
  simp at hi
  match i, hi with
  | 0, _ => exact h.1
  | 1, _ => exact h.2.1
  | 2, _ => exact h.2.2.1
  | 3, _ => exact h.2.2.2
theorem Row.hold {W : World} {b : Nat} {n : Int} (h : Row W b [l0 n, l1 n, l2 n, l3 n]) : Hold W b n := ⟨h 0 (by simp), h 1 (by simp), h 2 (by simp), h 3 (by simp)⟩
end Go.Proofs.Ytdkfpakghpbofaa

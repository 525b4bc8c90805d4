import Derived.Test.YtncpjgpioajbeaaGreatDoorLongNum
/- Numbers as rows of 32-bit digits, the lowest first. -/
namespace Go.Proofs.YtncpjgpioajbeaaGreatDoor

def vd : List Int → Int
  | [] => 0
  | x :: xs => x + 4294967296 * vd xs
theorem getD_set_ne {l : List Int} {i t : Nat} (h : t ≠ i) (v : Int) : (l.set i v).getD t 0 = l.getD t 0 := by
  simp [List.getD, List.getElem?_set_ne (Ne.symm h)]
end Go.Proofs.YtncpjgpioajbeaaGreatDoor

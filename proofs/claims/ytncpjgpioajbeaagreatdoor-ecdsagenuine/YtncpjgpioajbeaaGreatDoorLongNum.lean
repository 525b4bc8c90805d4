import Derived.Test.YtncpjgpioajbeaaGreatDoorMulNum
/- Long division, limb by limb: the numbers of lists of limbs. -/
namespace Go.Proofs.YtncpjgpioajbeaaGreatDoor

def val : List Int → Int
  | [] => 0
  | x :: xs => x + 18446744073709551616 * val xs
def Words (l : List Int) : Prop := ∀ x ∈ l, Word x

end Go.Proofs.YtncpjgpioajbeaaGreatDoor

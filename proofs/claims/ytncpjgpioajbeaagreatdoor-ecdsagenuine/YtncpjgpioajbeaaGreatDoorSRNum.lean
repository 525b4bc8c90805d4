import Derived.Test.YtncpjgpioajbeaaGreatDoorSSpec
/- Numbers as rows of 16-bit digits, the lowest first. -/
namespace Go.Proofs.YtncpjgpioajbeaaGreatDoor.S
open Go.RowKit Go.Sort

def vh : List Int → Int
  | [] => 0
  | x :: xs => x + 65536 * vh xs
end Go.Proofs.YtncpjgpioajbeaaGreatDoor.S

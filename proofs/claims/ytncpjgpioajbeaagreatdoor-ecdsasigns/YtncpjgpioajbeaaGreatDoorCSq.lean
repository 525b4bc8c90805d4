import Derived.Test.YtncpjgpioajbeaaGreatDoorCMod
import Derived.Test.YtncpjgpioajbeaaGreatDoorOut
namespace Go.Proofs.YtncpjgpioajbeaaGreatDoor
open Go.RowKit Go.Sort

/-- x * x * x + 7 modulo p. -/
def cubN (x : Int) : Int := modN pN (modN pN (modN pN (x * x) * x) + 7)
end Go.Proofs.YtncpjgpioajbeaaGreatDoor

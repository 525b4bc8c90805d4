import Derived.Test.YtncpjgpioajbeaaGreatDoorFRoot
import Derived.Deep.RegionHeld3
import Derived.Test.YtncpjgpioajbeaaGreatDoorFExp
import Derived.Test.YtncpjgpioajbeaaGreatDoorFOf
import Derived.Test.YtncpjgpioajbeaaGreatDoorFFermat
namespace Go.Proofs.YtncpjgpioajbeaaGreatDoor
open Go.RowKit Go.Sort

def rootE (x : Int) : Int := if modN pN (powN pN x qN * powN pN x qN) = modN pN x then 0 else 41
end Go.Proofs.YtncpjgpioajbeaaGreatDoor

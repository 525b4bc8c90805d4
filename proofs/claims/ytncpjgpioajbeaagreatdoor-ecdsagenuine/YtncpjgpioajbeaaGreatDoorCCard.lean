import Derived.Test.YtncpjgpioajbeaaGreatDoorOpen
import Derived.Test.YtncpjgpioajbeaaGreatDoorCLaid
namespace Go.Proofs.YtncpjgpioajbeaaGreatDoor
open Go.ChangeShapes Go.WideShapes Go.ChangeAt Go.RowKit

section
variable {H : Type} {enc : TypeId × Value → H} {w : World} {base : Nat} {spare : Nat → Bool} {held : Bool}

end
end Go.Proofs.YtncpjgpioajbeaaGreatDoor

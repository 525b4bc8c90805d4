import Derived.Test.YtncpjgpioajbeaaGreatDoorCPnt
import Derived.Test.YtncpjgpioajbeaaGreatDoorCSq
import Derived.Test.YtncpjgpioajbeaaGreatDoorFRootAny
import Derived.Test.YtncpjgpioajbeaaGreatDoorFSqNum
namespace Go.Proofs.YtncpjgpioajbeaaGreatDoor
open Go.RowKit Go.Sort

def liftOk (x : Int) : Prop := x < pN ∧ rootE (cubN x) = 0
instance (x : Int) : Decidable (liftOk x) := inferInstanceAs (Decidable (_ ∧ _))
end Go.Proofs.YtncpjgpioajbeaaGreatDoor

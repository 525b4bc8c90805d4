import Derived.Test.YtncpjgpioajbeaaGreatDoorRows
import Derived.WalkKit
/- The statements of a function from the n-th on, as a piece of their own. -/
namespace Go.Proofs.YtncpjgpioajbeaaGreatDoor
open Go.RowKit

end Go.Proofs.YtncpjgpioajbeaaGreatDoor

import Derived.Test.YtncpjgpioajbeaaGreatDoorCRJ
import Derived.Test.YtncpjgpioajbeaaGreatDoorRefBit
import Derived.Test.YtncpjgpioajbeaaGreatDoorCBlend
namespace Go.Proofs.YtncpjgpioajbeaaGreatDoor
open Go.RowKit Go.Sort

abbrev OnT := {t : T3 // t.Low ∧ EC.On t.j.pt}
end Go.Proofs.YtncpjgpioajbeaaGreatDoor

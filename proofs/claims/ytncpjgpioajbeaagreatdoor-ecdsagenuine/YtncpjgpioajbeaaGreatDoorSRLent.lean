import Derived.Test.YtncpjgpioajbeaaGreatDoorSBase
import Derived.Test.YtncpjgpioajbeaaGreatDoorTail
import Derived.Laws.OwnMore
namespace Go.Proofs.YtncpjgpioajbeaaGreatDoor.S
open Go.RowKit Go.Sort

/-- Bytes in a block, from its start on, that may be written. -/
def Gb (W : World) (g : Nat) (T : List (BitVec 8)) : Prop := Byo W g 0 T ∧ Loose W g T.length
end Go.Proofs.YtncpjgpioajbeaaGreatDoor.S

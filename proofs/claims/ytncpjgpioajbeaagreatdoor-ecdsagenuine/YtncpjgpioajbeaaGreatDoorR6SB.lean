import Derived.Test.YtncpjgpioajbeaaGreatDoorR6SA
/- Layer 6: the document's SignWith, of any nonce. -/
namespace Go.Proofs.YtncpjgpioajbeaaGreatDoor
open Go.RowKit Go.Sort
end Go.Proofs.YtncpjgpioajbeaaGreatDoor

import Derived.Test.YtncpjgpioajbeaaGreatDoorLen
/- The bits of a number that is moved. -/
namespace Go.Proofs.YtncpjgpioajbeaaGreatDoor

end Go.Proofs.YtncpjgpioajbeaaGreatDoor

import Derived.Test.YtncpjgpioajbeaaGreatDoorESWA
import Derived.Test.YtncpjgpioajbeaaGreatDoorCLift
namespace Go.Proofs.YtncpjgpioajbeaaGreatDoor
open Go.RowKit Go.Sort

theorem Nm.new {W : World} {b : Nat} {t : TypeId} {n : Int} (e : b = W.heap.size) : Nm (W.alloc (.cells #[.int .u64 (l0 n), .int .u64 (l1 n), .int .u64 (l2 n), .int .u64 (l3 n)] t)) b n := Cl.new _ e rfl

end Go.Proofs.YtncpjgpioajbeaaGreatDoor

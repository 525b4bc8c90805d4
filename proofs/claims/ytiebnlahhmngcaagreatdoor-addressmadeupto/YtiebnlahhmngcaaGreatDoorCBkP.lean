import Derived.Test.YtiebnlahhmngcaaGreatDoorCSumK
import Derived.Test.YtiebnlahhmngcaaGreatDoorCBlend
import Derived.Test.YtiebnlahhmngcaaGreatDoorHold
import Derived.Test.YtiebnlahhmngcaaGreatDoorRowB
import Derived.Test.YtiebnlahhmngcaaGreatDoorShiftNum
import Derived.Test.YtiebnlahhmngcaaGreatDoorLen
import Derived.Test.YtiebnlahhmngcaaGreatDoorAdd
import Derived.Test.YtiebnlahhmngcaaGreatDoorMul2
import Derived.Deep.LoopGhost
import Derived.Test.YtiebnlahhmngcaaGreatDoorCFp
namespace Go.Proofs.YtiebnlahhmngcaaGreatDoor
open Go.RowKit Go.Sort

theorem Nm.newb {W : World} {b : Nat} {t : TypeId} {n : Int} (e : b = W.heap.size) : Nm (W.alloc (.cells #[.int .u64 (l0 n), .int .u64 (l1 n), .int .u64 (l2 n), .int .u64 (l3 n)] t)) b n := Cl.new _ e rfl

end Go.Proofs.YtiebnlahhmngcaaGreatDoor

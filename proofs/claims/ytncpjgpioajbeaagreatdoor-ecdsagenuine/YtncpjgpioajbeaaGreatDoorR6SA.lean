import Derived.Test.YtncpjgpioajbeaaGreatDoorR6S
import Derived.Test.YtncpjgpioajbeaaGreatDoorETb
import Derived.Test.YtncpjgpioajbeaaGreatDoorCROps
import Derived.Test.YtncpjgpioajbeaaGreatDoorRefAddSub
namespace Go.Proofs.YtncpjgpioajbeaaGreatDoor
open Go.RowKit Go.Sort

theorem es_same' {r s : Int} {od : Bool} (hr : Num r) (hs : Num s) : ∀ w, (Op.equalIn 10000 28 (.agg #[.int .u64 (l0 r), .int .u64 (l1 r), .int .u64 (l2 r), .int .u64 (l3 r), .int .u64 (l0 s), .int .u64 (l1 s), .int .u64 (l2 s), .int .u64 (l3 s), .bool od]) (.agg #[.int .u64 (l0 r), .int .u64 (l1 r), .int .u64 (l2 r), .int .u64 (l3 r), .int .u64 (l0 s), .int .u64 (l1 s), .int .u64 (l2 s), .int .u64 (l3 s), .bool od])).run Tryz.prog w = .ok true w := fun w => by
  have := eq_sig_any (i := od) (j := od) hr hs hr hs w
  simpa using this
end Go.Proofs.YtncpjgpioajbeaaGreatDoor

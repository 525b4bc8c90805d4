import Derived.Test.YtllfmlgnemkklaaDoorCmp
import Derived.StillTail
import Derived.BigQuiet
import Derived.Below
import Derived.Test.YtllfmlgnemkklaaDoorMulNum
import Derived.WalkKit
namespace Go.Proofs.YtllfmlgnemkklaaDoor
open Go.RowKit

theorem zero_limbs : l0 0 = 0 ∧ l1 0 = 0 ∧ l2 0 = 0 ∧ l3 0 = 0 := by decide
theorem build_zero (w : World) : (Instr.build 24 #[]).run Tryd.prog w = .ok (.agg #[.int .u64 0, .int .u64 0, .int .u64 0, .int .u64 0]) w := run_build w 24 _ _ (by kernel_rfl)

end Go.Proofs.YtllfmlgnemkklaaDoor

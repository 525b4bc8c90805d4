import Derived.Test.YtllfmlgnemkklaaDoorFxP
import Derived.Test.YtllfmlgnemkklaaDoorFxD
import Derived.StillTail
import Derived.BigQuiet
import Derived.Lib.QuietBelow
import Derived.Test.YtllfmlgnemkklaaDoorCmp
import Derived.Test.YtllfmlgnemkklaaDoorTail
import Derived.Test.YtllfmlgnemkklaaDoorNum
import Derived.Test.YtllfmlgnemkklaaDoorHold
import Derived.LoopN
import Derived.Test.YtllfmlgnemkklaaDoorShl
import Derived.Deep.RegionHeld3
import Derived.Test.YtllfmlgnemkklaaDoorTsT
import Derived.Test.YtllfmlgnemkklaaDoorTsF
import Derived.Test.YtllfmlgnemkklaaDoorTxZA
/- Layer 18: Price and Cost of both sides, of any transaction. -/
namespace Go.Proofs.YtllfmlgnemkklaaDoor
open Go.RowKit Go.Sort
open tq
theorem z4 : (.agg #[.int .u64 (l0 0), .int .u64 (l1 0), .int .u64 (l2 0), .int .u64 (l3 0)] : Value) = .agg #[.int .u64 0, .int .u64 0, .int .u64 0, .int .u64 0] := by
  obtain ⟨z0, z1, z2, z3⟩ := zero_limbs
  rw [z0, z1, z2, z3]
end Go.Proofs.YtllfmlgnemkklaaDoor

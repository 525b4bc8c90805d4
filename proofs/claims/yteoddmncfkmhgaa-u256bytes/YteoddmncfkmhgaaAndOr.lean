import Derived.Test.YteoddmncfkmhgaaLen
import Derived.Test.YteoddmncfkmhgaaHold
import Derived.Test.YteoddmncfkmhgaaRingNum
namespace Go.Proofs.Yteoddmncfkmhgaa
open Go.RowKit

theorem eq_same (a0 a1 a2 a3 : Int) (w : World) : (Op.equalIn 10000 24 (.agg #[.int .u64 a0, .int .u64 a1, .int .u64 a2, .int .u64 a3]) (.agg #[.int .u64 a0, .int .u64 a1, .int .u64 a2, .int .u64 a3])).run Try.prog w = .ok true w := by
  rw [eq_any]; simp

end Go.Proofs.Yteoddmncfkmhgaa

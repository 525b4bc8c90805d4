import Derived.Test.YteoddmncfkmhgaaUpAny
namespace Go.Proofs.Yteoddmncfkmhgaa
open Go.RowKit

def shlN (n k : Int) : Int := if k ≤ -256 ∨ 256 ≤ k then 0 else if k < 0 then downN n (-k) else upN n k
def shrN (n k : Int) : Int := if k ≤ -256 ∨ 256 ≤ k then 0 else if k < 0 then upN n (-k) else downN n k

theorem zero_limbs : l0 0 = 0 ∧ l1 0 = 0 ∧ l2 0 = 0 ∧ l3 0 = 0 := by decide
theorem build_zero (w : World) : (Instr.build 24 #[]).run Try.prog w = .ok (.agg #[.int .u64 0, .int .u64 0, .int .u64 0, .int .u64 0]) w := run_build w 24 _ _ (by kernel_rfl)

end Go.Proofs.Yteoddmncfkmhgaa

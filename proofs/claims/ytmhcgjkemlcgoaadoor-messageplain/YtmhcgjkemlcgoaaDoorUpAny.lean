import Derived.Test.YtmhcgjkemlcgoaaDoorCmp
import Derived.Test.YtmhcgjkemlcgoaaDoorTail
import Derived.Test.YtmhcgjkemlcgoaaDoorShiftNum
namespace Go.Proofs.YtmhcgjkemlcgoaaDoor
open Go.RowKit

theorem pow_split {n s : Int} (q : Nat) (hs : 0 ≤ s) (h : n = 64 * q + s) : (2 : Int) ^ n.toNat = 2 ^ (64 * q) * 2 ^ s.toNat := by
  rw [← Int.pow_add]; congr 1; omega
end Go.Proofs.YtmhcgjkemlcgoaaDoor

namespace Go.Proofs.YtmhcgjkemlcgoaaDoor
open Go.RowKit

theorem zero_limbs : l0 0 = 0 ∧ l1 0 = 0 ∧ l2 0 = 0 ∧ l3 0 = 0 := by decide
theorem build_zero (w : World) : (Instr.build 37 #[]).run Tryd.prog w = .ok (.agg #[.int .u64 0, .int .u64 0, .int .u64 0, .int .u64 0]) w := run_build w 37 _ _ (by kernel_rfl)

end Go.Proofs.YtmhcgjkemlcgoaaDoor

import Derived.Test.YtdjjphcfobbipaaCmp
import Derived.Test.YtdjjphcfobbipaaTail
import Derived.Test.YtdjjphcfobbipaaShiftNum
namespace Go.Proofs.Ytdjjphcfobbipaa
open Go.RowKit

theorem pow_split {n s : Int} (q : Nat) (hs : 0 ≤ s) (h : n = 64 * q + s) : (2 : Int) ^ n.toNat = 2 ^ (64 * q) * 2 ^ s.toNat := by
  rw [← Int.pow_add]; congr 1; omega
theorem downN_Num {n k : Int} (hn : Num n) : Num (downN n k) := by
  obtain ⟨h0, h1⟩ := hn
  unfold downN
  have p : (0 : Int) < 2 ^ k.toNat := Int.pow_pos (by decide)
  exact ⟨Int.ediv_nonneg h0 (by omega), Int.lt_of_le_of_lt (Int.ediv_le_self _ h0) h1⟩

theorem or_none {x s : Int} (hx : Word x) (s0 : 0 ≤ s) (s1 : s ≤ 63) : bits .or .u64 (x / 2 ^ s.toNat) (IntKind.u64.wrap (0 * 2 ^ (64 - s).toNat)) = x / 2 ^ s.toNat := by
  rw [down_or hx ⟨by decide, by decide⟩ s0 s1, Int.zero_mul, IntKind.wrap_u64]
  omega

end Go.Proofs.Ytdjjphcfobbipaa

namespace Go.Proofs.Ytdjjphcfobbipaa
open Go.RowKit

def shlN (n k : Int) : Int := if k ≤ -256 ∨ 256 ≤ k then 0 else if k < 0 then downN n (-k) else upN n k
def shrN (n k : Int) : Int := if k ≤ -256 ∨ 256 ≤ k then 0 else if k < 0 then upN n (-k) else downN n k

theorem zero_limbs : l0 0 = 0 ∧ l1 0 = 0 ∧ l2 0 = 0 ∧ l3 0 = 0 := by decide
theorem build_zero (w : World) : (Instr.build 25 #[]).run Try.prog w = .ok (.agg #[.int .u64 0, .int .u64 0, .int .u64 0, .int .u64 0]) w := run_build w 25 _ _ (by kernel_rfl)

end Go.Proofs.Ytdjjphcfobbipaa

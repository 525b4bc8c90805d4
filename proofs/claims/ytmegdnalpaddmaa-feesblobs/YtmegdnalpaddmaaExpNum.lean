import Derived.Test.YtmegdnalpaddmaaDivNum
import Derived.Test.YtmegdnalpaddmaaLen
import Derived.Test.YtmegdnalpaddmaaShl
/- Powers, bit by bit of the exponent. -/
namespace Go.Proofs.Ytmegdnalpaddmaa

theorem half_bit (m : Int) (j : Nat) : m / 2 ^ j = 2 * (m / 2 ^ (j + 1)) + m / 2 ^ j % 2 := by
  have e : m / 2 ^ (j + 1) = m / 2 ^ j / 2 := by rw [Int.pow_succ, ← Int.ediv_ediv_of_nonneg (Int.le_of_lt (Int.pow_pos (by decide)))]
  rw [e]
  omega

end Go.Proofs.Ytmegdnalpaddmaa

/- The whole part of the square root, by Newton's steps from above. -/
namespace Go.Proofs.Ytmegdnalpaddmaa

end Go.Proofs.Ytmegdnalpaddmaa

/- The bits of a number that is moved. -/
namespace Go.Proofs.Ytmegdnalpaddmaa

end Go.Proofs.Ytmegdnalpaddmaa

import Derived.Test.YtifenjinbjlfdaaDoorMulNum
import Derived.Test.YtifenjinbjlfdaaDoorLen
import Derived.Test.YtifenjinbjlfdaaDoorUpAny
/- Powers, bit by bit of the exponent. -/
namespace Go.Proofs.YtifenjinbjlfdaaDoor

theorem half_bit (m : Int) (j : Nat) : m / 2 ^ j = 2 * (m / 2 ^ (j + 1)) + m / 2 ^ j % 2 := by
  have e : m / 2 ^ (j + 1) = m / 2 ^ j / 2 := by rw [Int.pow_succ, ← Int.ediv_ediv_of_nonneg (Int.le_of_lt (Int.pow_pos (by decide)))]
  rw [e]
  omega

end Go.Proofs.YtifenjinbjlfdaaDoor

/- The whole part of the square root, by Newton's steps from above. -/
namespace Go.Proofs.YtifenjinbjlfdaaDoor

end Go.Proofs.YtifenjinbjlfdaaDoor

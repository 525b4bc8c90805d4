import Derived.Test.YtnokgnhcnhfkpaaDoorExpNum
import Derived.Test.YtnokgnhcnhfkpaaDoorUpAny
/- The whole part of the square root, by Newton's steps from above. -/
namespace Go.Proofs.YtnokgnhcnhfkpaaDoor

theorem pow_mono {a b : Nat} (h : a ≤ b) : (2 : Int) ^ a ≤ 2 ^ b := by
  have := Nat.pow_le_pow_right (show 0 < 2 by decide) h
  exact_mod_cast this

end Go.Proofs.YtnokgnhcnhfkpaaDoor

import Derived.Test.YtohdeeidhgkgiaaDoorNum
/- Long division, limb by limb: the numbers of lists of limbs. -/
namespace Go.Proofs.YtohdeeidhgkgiaaDoor

def val : List Int → Int
  | [] => 0
  | x :: xs => x + 18446744073709551616 * val xs
end Go.Proofs.YtohdeeidhgkgiaaDoor

/- The numbers modulo 2^256 are a ring. -/
namespace Go.Proofs.YtohdeeidhgkgiaaDoor

theorem mod_mul (a b c : Int) : a % c * b % c = a * b % c := by rw [Int.mul_emod, Int.emod_emod, ← Int.mul_emod]
theorem mul_mod (a b c : Int) : a * (b % c) % c = a * b % c := by rw [Int.mul_emod, Int.emod_emod, ← Int.mul_emod]
end Go.Proofs.YtohdeeidhgkgiaaDoor

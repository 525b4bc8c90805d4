import Derived.Test.YtgedkdkaddcmmaaDoorNum
/- Long division, limb by limb: the numbers of lists of limbs. -/
namespace Go.Proofs.YtgedkdkaddcmmaaDoor

def val : List Int → Int
  | [] => 0
  | x :: xs => x + 18446744073709551616 * val xs
end Go.Proofs.YtgedkdkaddcmmaaDoor

/- The numbers modulo 2^256 are a ring. -/
namespace Go.Proofs.YtgedkdkaddcmmaaDoor

theorem mul_mod (a b c : Int) : a * (b % c) % c = a * b % c := by rw [Int.mul_emod, Int.emod_emod, ← Int.mul_emod]
end Go.Proofs.YtgedkdkaddcmmaaDoor

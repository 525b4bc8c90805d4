import Derived.Test.YtagcbcmbojggkaaDoorNum
/- Long division, limb by limb: the numbers of lists of limbs. -/
namespace Go.Proofs.YtagcbcmbojggkaaDoor

end Go.Proofs.YtagcbcmbojggkaaDoor

/- The numbers modulo 2^256 are a ring. -/
namespace Go.Proofs.YtagcbcmbojggkaaDoor

theorem mul_mod (a b c : Int) : a * (b % c) % c = a * b % c := by rw [Int.mul_emod, Int.emod_emod, ← Int.mul_emod]
end Go.Proofs.YtagcbcmbojggkaaDoor

import Derived.Test.YtncpjgpioajbeaaGreatDoorMulNum
/- The numbers modulo 2^256 are a ring. -/
namespace Go.Proofs.YtncpjgpioajbeaaGreatDoor

theorem mul_mod (a b c : Int) : a * (b % c) % c = a * b % c := by rw [Int.mul_emod, Int.emod_emod, ← Int.mul_emod]
end Go.Proofs.YtncpjgpioajbeaaGreatDoor

import Derived.Test.YtnokgnhcnhfkpaaDoorNum
/- The school's product of two numbers of four limbs. -/
namespace Go.Proofs.YtnokgnhcnhfkpaaDoor

/-- A number below 2^512, by its halves. -/
theorem halves {n m h l : Int} (hl : Num l) (e : l + 115792089237316195423570985008687907853269984665640564039457584007913129639936 * h = n * m) : hiN n m = h ∧ loN n m = l := by
  obtain ⟨_, _⟩ := hl
  unfold hiN loN
  generalize n * m = p at *
  omega

end Go.Proofs.YtnokgnhcnhfkpaaDoor

/- Long division, limb by limb: the numbers of lists of limbs. -/
namespace Go.Proofs.YtnokgnhcnhfkpaaDoor

def val : List Int → Int
  | [] => 0
  | x :: xs => x + 18446744073709551616 * val xs
def Words (l : List Int) : Prop := ∀ x ∈ l, Word x

end Go.Proofs.YtnokgnhcnhfkpaaDoor

/- The numbers modulo 2^256 are a ring. -/
namespace Go.Proofs.YtnokgnhcnhfkpaaDoor

end Go.Proofs.YtnokgnhcnhfkpaaDoor

namespace Go.Proofs.YtnokgnhcnhfkpaaDoor

/-- What holds of a digit and of what is left, while it is put right. -/
structure Digit (U D p : Int) (len : Nat) (vs : List Int) (q b : Int) : Prop where
  ln : vs.length = len
  words : Words vs
  b0 : 0 ≤ b
  b1 : b ≤ 1
  wq : Word q
  e : val vs - p * b = U - q * D
  hi : U < (q + 1) * D

end Go.Proofs.YtnokgnhcnhfkpaaDoor

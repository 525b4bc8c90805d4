import Derived.Test.YtmegdnalpaddmaaLongNum
import Derived.Test.YtmegdnalpaddmaaMulNum
namespace Go.Proofs.Ytmegdnalpaddmaa

/-- A digit from the top limbs alone is not too small. -/
theorem guess_ge {X d ul dl B U D Q : Int} (hB : 0 < B) (hd : 0 < d) (hul : ul < B) (hdl : 0 ≤ dl) (hQ : 0 ≤ Q) (eU : U = ul + B * X) (eD : D = dl + B * d) (h : Q * D ≤ U) : Q ≤ X / d := by
  refine Int.le_ediv_of_mul_le hd ?_
  have h1 : Q * (B * d) ≤ Q * D := Int.mul_le_mul_of_nonneg_left (by omega) hQ
  have h2 : B * (Q * d) < B * (X + 1) := by
    rw [Int.mul_left_comm B Q d, Int.mul_add]
    omega
  have := Int.lt_of_mul_lt_mul_left h2 (by omega)
  omega

/-- What holds of a digit and of what is left, while it is put right. -/
structure Digit (U D p : Int) (len : Nat) (vs : List Int) (q b : Int) : Prop where
  ln : vs.length = len
  words : Words vs
  b0 : 0 ≤ b
  b1 : b ≤ 1
  wq : Word q
  e : val vs - p * b = U - q * D
  hi : U < (q + 1) * D

end Go.Proofs.Ytmegdnalpaddmaa

/- The numbers modulo 2^256 are a ring. -/
namespace Go.Proofs.Ytmegdnalpaddmaa

theorem Num_one : Num 1 := by unfold Num; decide
end Go.Proofs.Ytmegdnalpaddmaa

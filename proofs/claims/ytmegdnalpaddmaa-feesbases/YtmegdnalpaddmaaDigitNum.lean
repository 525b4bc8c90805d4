import Derived.Test.YtmegdnalpaddmaaMulNum
namespace Go.Proofs.Ytmegdnalpaddmaa

/-- A digit from the top limbs alone is not too small. -/
theorem guess_ge {X d ul dl B U D Q : Int} (hB : 0 < B) (hd : 0 < d) (hul : ul < B) (hdl : 0 ≤ dl) (hQ : 0 ≤ Q) (eU : U = ul + B * X) (eD : D = dl + B * d) (h : Q * D ≤ U) : Q ≤ X / d := by
  refine Int.le_ediv_of_mul_le hd ?_
  have h1 : Q * (B * d) ≤ Q * D := Int.mul_le_mul_of_nonneg_left (by omega) hQ
  have h2 : B * (Q * d) < B * (X + 1) := by
    rw [Int.mul_left_comm B Q d, Int.mul_add]
    omega
  have := Int.lt_of_mul_lt_mul_left h2 (by omega)
  omega

/-- What holds of a digit and of what is left, while it is put right. -/
structure Digit (U D p : Int) (len : Nat) (vs : List Int) (q b : Int) : Prop where
  ln : vs.length = len
  words : Words vs
  b0 : 0 ≤ b
  b1 : b ≤ 1
  wq : Word q
  e : val vs - p * b = U - q * D
  hi : U < (q + 1) * D

end Go.Proofs.Ytmegdnalpaddmaa

/- The numbers modulo 2^256 are a ring. -/
namespace Go.Proofs.Ytmegdnalpaddmaa

theorem mod_mul (a b c : Int) : a % c * b % c = a * b % c := by rw [Int.mul_emod, Int.emod_emod, ← Int.mul_emod]
theorem mul_mod (a b c : Int) : a * (b % c) % c = a * b % c := by rw [Int.mul_emod, Int.emod_emod, ← Int.mul_emod]
theorem sumN_comm (n m : Int) : sumN n m = sumN m n := by unfold sumN; omega
theorem sumN_assoc (n m k : Int) : sumN (sumN n m) k = sumN n (sumN m k) := by unfold sumN; omega
theorem sumN_zero {n : Int} (h : Num n) : sumN n 0 = n := by obtain ⟨_, _⟩ := h; unfold sumN; omega
theorem loN_comm (n m : Int) : loN n m = loN m n := by unfold loN; rw [Int.mul_comm]
theorem loN_assoc (n m k : Int) : loN (loN n m) k = loN n (loN m k) := by
  unfold loN
  rw [mod_mul, mul_mod, Int.mul_assoc]
theorem loN_sum (n m k : Int) : loN n (sumN m k) = sumN (loN n m) (loN n k) := by
  unfold loN sumN
  rw [mul_mod, Int.mul_add]
  generalize n * m = p; generalize n * k = q
  omega
theorem loN_one {n : Int} (h : Num n) : loN n 1 = n := by obtain ⟨_, _⟩ := h; unfold loN; omega
theorem loN_zero (n : Int) : loN n 0 = 0 := by unfold loN; omega
theorem dif_back {n m : Int} (hn : Num n) (hm : Num m) : sumN (difN n m) m = n ∧ carN (difN n m) m = borN n m := by
  obtain ⟨_, _⟩ := hn; obtain ⟨_, _⟩ := hm
  unfold sumN difN carN borN
  split <;> constructor <;> omega
theorem bor_cmp (n m : Int) : (borN n m = 1 ∧ cmpN n m < 0) ∨ (borN n m = 0 ∧ 0 ≤ cmpN n m) := by
  unfold borN cmpN
  by_cases h : n < m
  · left; rw [if_pos h, if_neg (by omega), if_pos h]; decide
  · right; rw [if_neg h]; refine ⟨rfl, ?_⟩; split <;> decide
theorem Num_zero : Num 0 := by unfold Num; decide
theorem Num_one : Num 1 := by unfold Num; decide
/-- The whole product is 0 just if a factor is. -/
theorem prod_cases {n m : Int} (hn : Num n) (hm : Num m) :
    (n = 0 ∧ hiN n m = 0 ∧ loN n m = 0) ∨ (n ≠ 0 ∧ m = 0 ∧ hiN n m = 0 ∧ loN n m = 0) ∨ (n ≠ 0 ∧ m ≠ 0 ∧ hiN n m = 0 ∧ loN n m ≠ 0) ∨ (n ≠ 0 ∧ m ≠ 0 ∧ hiN n m ≠ 0) := by
  by_cases h : n = 0
  · left; subst h; refine ⟨rfl, ?_, ?_⟩ <;> simp [hiN, loN]
  by_cases h' : m = 0
  · right; left; subst h'; refine ⟨h, rfl, ?_, ?_⟩ <;> simp [hiN, loN]
  right; right
  by_cases h2 : hiN n m = 0
  · left
    refine ⟨h, h', h2, fun h3 => ?_⟩
    have : n * m = 0 := by
      unfold hiN at h2; unfold loN at h3
      generalize n * m = p at *
      omega
    rcases Int.mul_eq_zero.1 this with h4 | h4
    · exact h h4
    · exact h' h4
  · right; exact ⟨h, h', h2⟩

end Go.Proofs.Ytmegdnalpaddmaa

import Derived.Test.YtncpjgpioajbeaaGreatDoorFRootAny
import Derived.Test.YtncpjgpioajbeaaGreatDoorFUn
namespace Go.Proofs.YtncpjgpioajbeaaGreatDoor
open Go.RowKit

theorem even_one {r : Int} (h0 : 0 ≤ r) (h1 : r < pN) : evenN r % 2 = 0 ∧ 0 ≤ evenN r ∧ evenN r < pN ∧ (evenN r = r ∨ evenN r = modN pN (0 - r)) := by
  have po := p_odd
  unfold evenN
  by_cases h : r % 2 = 1
  · rw [if_pos h]
    have e : modN pN (0 - r) = pN - r := by
      unfold modN
      rw [show 0 - r = pN - r + pN * (-1) by omega, Int.add_mul_emod_self_left]
      exact Int.emod_eq_of_lt (by omega) (by omega)
    rw [e]
    exact ⟨by omega, by omega, by omega, .inr rfl⟩
  · rw [if_neg h]
    exact ⟨by omega, h0, h1, .inl rfl⟩
theorem neg_neg' {x : Int} : modN pN (0 - modN pN (0 - x)) = modN pN x := by
  have e := modN_add_r (m := pN) x 0
  unfold modN at *
  rw [Int.sub_emod, Int.emod_emod_of_dvd _ (Int.dvd_refl pN), ← Int.sub_emod]
  congr 1; omega
/-- Two roots of one number. -/
theorem roots_of {r x : Int} (h : modN pN (r * r) = modN pN (x * x)) : modN pN r = modN pN x ∨ modN pN r = modN pN (0 - x) := by
  have e : (r - x) * (r + x) % pN = 0 := by
    have e1 : (r - x) * (r + x) = r * r - x * x := by rw [Int.sub_mul, Int.mul_add, Int.mul_add, Int.mul_comm x r]; omega
    unfold modN at h
    rw [e1, Int.sub_emod, h, Int.sub_self]; rfl
  rcases prm_p.zero e with h1 | h1
  · exact .inl (Int.emod_eq_emod_iff_emod_sub_eq_zero.2 h1)
  · refine .inr (Int.emod_eq_emod_iff_emod_sub_eq_zero.2 ?_)
    rw [← h1]; congr 1; omega
theorem square_root {x : Int} (x0 : 0 ≤ x) : modN pN (powN pN (modN pN (x * x)) qN * powN pN (modN pN (x * x)) qN) = modN pN (modN pN (x * x)) := by
  have v0 := (modN_lt fit_p (x * x)).1
  rw [root_is v0]
  by_cases hz : modN pN x = 0
  · left
    rw [modN_mod, ← modN_mul_l, hz, Int.zero_mul]; rfl
  · right
    unfold eulN
    rw [powN_mod, powN_times, powN_mul pN x (by decide) (by decide), show hN + hN = pN - 1 by decide, powN_fermat prm_p x0 hz]
/-- The root of a square is the number or its opposite. -/
theorem square_is {x : Int} (x0 : 0 ≤ x) : rootE (modN pN (x * x)) = 0 ∧ (rootN (modN pN (x * x)) = modN pN x ∨ modN pN (0 - rootN (modN pN (x * x))) = modN pN x) ∧ rootN (modN pN (x * x)) % 2 = 0 ∧ 0 ≤ rootN (modN pN (x * x)) ∧ rootN (modN pN (x * x)) < pN := by
  have h := square_root x0
  unfold rootE rootN
  rw [if_pos h, if_pos h]
  rw [modN_mod] at h
  obtain ⟨r0, r1⟩ := powN_lt fit_p (modN pN (x * x)) qN
  obtain ⟨e0, e1, e2, e3⟩ := even_one r0 r1
  refine ⟨rfl, ?_, e0, e1, e2⟩
  have k := roots_of h
  rw [modN_of_lt r0 r1] at k
  generalize powN pN (modN pN (x * x)) qN = R at *
  rcases k with k | k <;> rcases e3 with e3 | e3
  · left; rw [e3, k]
  · right; rw [e3, k, neg_neg', modN_mod]
  · right; rw [e3, k, neg_neg']
  · left; rw [e3, k, neg_neg']
theorem root_back {x : Int} (h : modN pN (powN pN x qN * powN pN x qN) = modN pN x) : modN pN (rootN x * rootN x) = modN pN x := by
  unfold rootN
  rw [if_pos h]
  obtain ⟨r0, r1⟩ := powN_lt fit_p x qN
  obtain ⟨_, _, _, e3⟩ := even_one r0 r1
  rcases e3 with e3 | e3
  · rw [e3]; exact h
  · rw [e3, modN_mul_l, modN_mul_r, show (0 - powN pN x qN) * (0 - powN pN x qN) = powN pN x qN * powN pN x qN by rw [Int.zero_sub, Int.neg_mul_neg]]
    exact h
end Go.Proofs.YtncpjgpioajbeaaGreatDoor

import Derived.Test.YtjjimkhppoppbaaRootNum
/- What the law of roots says of a root. -/
namespace Go.Proofs.Ytjjimkhppoppbaa

theorem root_laws {n s : Int} (hn : Num n) (h : IsRoot n s) : Num s ∧ Num (s + 1) ∧ hiN s s = 0 ∧ (cmpN (loN s s) n = 0 ∨ cmpN (loN s s) n = -1) ∧ sumN s 1 = s + 1 ∧ carN s 1 = 0 ∧ ((hiN (s + 1) (s + 1) = 0 ∧ cmpN (loN (s + 1) (s + 1)) n = 1) ∨ hiN (s + 1) (s + 1) ≠ 0) := by
  obtain ⟨n0, n1⟩ := hn; obtain ⟨s0, h1, h2⟩ := h
  have s1 : s < 340282366920938463463374607431768211456 := by
    by_cases c : s < 340282366920938463463374607431768211456
    · exact c
    · have := Int.mul_le_mul (show 340282366920938463463374607431768211456 ≤ s by omega) (show 340282366920938463463374607431768211456 ≤ s by omega) (by decide) s0
      omega
  have p0 := Int.mul_nonneg s0 s0
  unfold hiN loN sumN carN cmpN Num
  generalize s * s = p at *
  generalize (s + 1) * (s + 1) = q at *
  have e : p % 115792089237316195423570985008687907853269984665640564039457584007913129639936 = p := by omega
  rw [e]
  refine ⟨⟨by omega, by omega⟩, ⟨by omega, by omega⟩, by omega, ?_, by omega, by omega, ?_⟩
  · by_cases c : p = n
    · left; rw [if_pos c]
    · right; rw [if_neg c, if_pos (by omega)]
  · by_cases c : q / 115792089237316195423570985008687907853269984665640564039457584007913129639936 = 0
    · left
      have e : q % 115792089237316195423570985008687907853269984665640564039457584007913129639936 = q := by omega
      rw [e]
      exact ⟨c, by rw [if_neg (by omega), if_neg (by omega)]⟩
    · right; exact c

end Go.Proofs.Ytjjimkhppoppbaa

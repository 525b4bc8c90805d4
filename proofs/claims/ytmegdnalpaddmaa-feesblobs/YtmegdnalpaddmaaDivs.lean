import Derived.Test.YtmegdnalpaddmaaDivMod
import Derived.Test.YtmegdnalpaddmaaMulDiv
import Derived.Test.YtmegdnalpaddmaaFeA
/- Reduce, MulDiv in numbers; what they tell of 0. -/
namespace Go.Proofs.Ytmegdnalpaddmaa
open Go.RowKit Go.Sort

theorem val_two {a b : Int} (ha : Num a) (hb : Num b) : val [l0 a, l1 a, l2 a, l3 a, l0 b, l1 b, l2 b, l3 b] = a + b * 115792089237316195423570985008687907853269984665640564039457584007913129639936 := by
  have h1 := num_l ha; have h2 := num_l hb
  unfold num at h1 h2
  simp only [val]
  omega

theorem hi_lo (h n : Int) : loN h n + hiN h n * 115792089237316195423570985008687907853269984665640564039457584007913129639936 = h * n := by
  unfold loN hiN
  generalize h * n = p
  omega

theorem high_limbs {q0 q1 q2 q3 q4 q5 q6 q7 p : Int} (hq : Words [q0, q1, q2, q3, q4, q5, q6, q7]) (e : val [q0, q1, q2, q3, q4, q5, q6, q7] = p) (hp : 115792089237316195423570985008687907853269984665640564039457584007913129639936 ≤ p) : ¬ (q4 = 0 ∧ q5 = 0 ∧ q6 = 0 ∧ q7 = 0) := by
  rintro ⟨rfl, rfl, rfl, rfl⟩
  obtain ⟨_, _⟩ := hq q0 (by simp); obtain ⟨_, _⟩ := hq q1 (by simp); obtain ⟨_, _⟩ := hq q2 (by simp); obtain ⟨_, _⟩ := hq q3 (by simp)
  simp only [val] at e
  omega

theorem mulDiv_any {h n m : Int} (hh : Num h) (hn : Num n) (hm : Num m) (hz : m ≠ 0) (w : World) :
    Calls Try.prog 27 #[.agg #[.int .u64 (l0 h), .int .u64 (l1 h), .int .u64 (l2 h), .int .u64 (l3 h)], .agg #[.int .u64 (l0 n), .int .u64 (l1 n), .int .u64 (l2 n), .int .u64 (l3 n)], .agg #[.int .u64 (l0 m), .int .u64 (l1 m), .int .u64 (l2 m), .int .u64 (l3 m)]] w fun e w' => e = .returned (if h * n / m < 115792089237316195423570985008687907853269984665640564039457584007913129639936 then .tuple #[.agg #[.int .u64 (l0 (h * n / m)), .int .u64 (l1 (h * n / m)), .int .u64 (l2 (h * n / m)), .int .u64 (l3 (h * n / m))], .int .i64 0] else .tuple #[.agg #[.int .u64 (l0 0), .int .u64 (l1 0), .int .u64 (l2 0), .int .u64 (l3 0)], .int .i64 11]) ∧ Below w.heap.size w w' := by
  obtain ⟨q0, q1, q2, q3, q4, q5, q6, q7, wq, vq, dv⟩ := divide_any (l0_word (loN h n)) (l1_word (loN h n)) (l2_word (loN h n)) (l3_word (loN h n)) (l0_word (hiN h n)) (l1_word (hiN h n)) (l2_word (hiN h n)) (l3_word (hiN h n)) hm hz
  rw [val_two (loN_Num h n) (hiN_Num hh hn), hi_lo] at dv vq
  refine (mulDiv_some hh hn hm hz dv w).mono ?_
  rintro e w' ⟨rfl, hb⟩
  refine ⟨?_, hb⟩
  have m0 : 0 < m := by have := hm.1; omega
  have p0 : 0 ≤ h * n / m := Int.ediv_nonneg (Int.mul_nonneg hh.1 hn.1) (by omega)
  by_cases c : h * n / m < 115792089237316195423570985008687907853269984665640564039457584007913129639936
  · obtain ⟨rfl, rfl, rfl, rfl, rfl, rfl, rfl, rfl⟩ := low_limbs wq vq ⟨p0, c⟩
    rw [if_pos c, if_pos ⟨rfl, rfl, rfl, rfl⟩]
  · obtain ⟨z0, z1, z2, z3⟩ := zero_limbs
    rw [if_neg c, if_neg (high_limbs wq vq (by omega)), z0, z1, z2, z3]

end Go.Proofs.Ytmegdnalpaddmaa

namespace Go.Proofs.Ytmegdnalpaddmaa
open Go.RowKit Go.Sort

end Go.Proofs.Ytmegdnalpaddmaa

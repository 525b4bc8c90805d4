import Derived.Test.YtkmkkcnlafbboaaDivMod
import Derived.Test.YtkmkkcnlafbboaaReduce
import Derived.Test.YtkmkkcnlafbboaaOut
/- Reduce, MulDiv in numbers; what they tell of 0. -/
namespace Go.Proofs.Ytkmkkcnlafbboaa
open Go.RowKit Go.Sort

theorem val_two {a b : Int} (ha : Num a) (hb : Num b) : val [l0 a, l1 a, l2 a, l3 a, l0 b, l1 b, l2 b, l3 b] = a + b * 115792089237316195423570985008687907853269984665640564039457584007913129639936 := by
  have h1 := num_l ha; have h2 := num_l hb
  unfold num at h1 h2
  simp only [val]
  omega

theorem hi_lo (h n : Int) : loN h n + hiN h n * 115792089237316195423570985008687907853269984665640564039457584007913129639936 = h * n := by
  unfold loN hiN
  generalize h * n = p
  omega

theorem high_limbs {q0 q1 q2 q3 q4 q5 q6 q7 p : Int} (hq : Words [q0, q1, q2, q3, q4, q5, q6, q7]) (e : val [q0, q1, q2, q3, q4, q5, q6, q7] = p) (hp : 115792089237316195423570985008687907853269984665640564039457584007913129639936 ≤ p) : ¬ (q4 = 0 ∧ q5 = 0 ∧ q6 = 0 ∧ q7 = 0) := by
  rintro ⟨rfl, rfl, rfl, rfl⟩
  obtain ⟨_, _⟩ := hq q0 (by simp); obtain ⟨_, _⟩ := hq q1 (by simp); obtain ⟨_, _⟩ := hq q2 (by simp); obtain ⟨_, _⟩ := hq q3 (by simp)
  simp only [val] at e
  omega

end Go.Proofs.Ytkmkkcnlafbboaa

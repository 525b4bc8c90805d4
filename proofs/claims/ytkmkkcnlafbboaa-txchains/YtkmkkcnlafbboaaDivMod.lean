import Derived.Test.YtkmkkcnlafbboaaDivAny
import Derived.Test.YtkmkkcnlafbboaaQTail
import Derived.Test.YtkmkkcnlafbboaaCmp
import Derived.Test.YtkmkkcnlafbboaaTail
import Derived.Test.YtkmkkcnlafbboaaMulNum
import Derived.Test.YtkmkkcnlafbboaaHold
import Derived.Test.YtkmkkcnlafbboaaReduce
import Derived.Test.YtkmkkcnlafbboaaOut
namespace Go.Proofs.Ytkmkkcnlafbboaa
open Go.RowKit Go.Sort

theorem val8 {n : Int} (hn : Num n) : val [l0 n, l1 n, l2 n, l3 n, 0, 0, 0, 0] = n := by
  have := num_l hn
  unfold num at this
  simp only [val]
  omega
/-- A quotient below 2^256: its limbs. -/
theorem low_limbs {q0 q1 q2 q3 q4 q5 q6 q7 n : Int} (hq : Words [q0, q1, q2, q3, q4, q5, q6, q7]) (e : val [q0, q1, q2, q3, q4, q5, q6, q7] = n) (hn : Num n) : q0 = l0 n ∧ q1 = l1 n ∧ q2 = l2 n ∧ q3 = l3 n ∧ q4 = 0 ∧ q5 = 0 ∧ q6 = 0 ∧ q7 = 0 := by
  obtain ⟨_, _⟩ := hq q0 (by simp); obtain ⟨_, _⟩ := hq q1 (by simp); obtain ⟨_, _⟩ := hq q2 (by simp); obtain ⟨_, _⟩ := hq q3 (by simp)
  obtain ⟨_, _⟩ := hq q4 (by simp); obtain ⟨_, _⟩ := hq q5 (by simp); obtain ⟨_, _⟩ := hq q6 (by simp); obtain ⟨_, _⟩ := hq q7 (by simp)
  obtain ⟨_, _⟩ := hn
  simp only [val] at e
  unfold l0 l1 l2 l3
  omega

end Go.Proofs.Ytkmkkcnlafbboaa

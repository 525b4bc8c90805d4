import Derived.Test.YtfpiopjlcjckeabDoorFFermat
import Derived.Test.YtfpiopjlcjckeabDoorShl
/- Square roots modulo p: p leaves 3 when it is divided by 4. -/
namespace Go.Proofs.YtfpiopjlcjckeabDoor

def qN : Int := 28948022309329048855892746252171976963317496166410141009864396001977208667916
def hN : Int := 57896044618658097711785492504343953926634992332820282019728792003954417335831
theorem q_num : 4 * qN = pN + 1 := by decide
theorem h_num : 2 * hN = pN - 1 := by decide
theorem q_h : 2 * qN = hN + 1 := by decide
theorem p_odd : pN % 2 = 1 := by decide

/-- Euler's power. -/
def eulN (x : Int) : Int := powN pN x hN
theorem eul_none {x : Int} (h : modN pN x = 0) : eulN x = 0 := powN_none h (by decide)
theorem eul_some {x : Int} (x0 : 0 ≤ x) (h : modN pN x ≠ 0) : eulN x = 1 ∨ eulN x = pN - 1 := by
  obtain ⟨a, b⟩ := powN_lt fit_p x hN
  refine prm_p.one a b ?_
  have e := powN_mul pN x (a := hN) (b := hN) (by decide) (by decide)
  rw [show hN + hN = pN - 1 by decide, powN_fermat prm_p x0 h] at e
  exact e
theorem root_sq (x : Int) : modN pN (powN pN x qN * powN pN x qN) = modN pN (eulN x * x) := by
  rw [powN_mul pN x (by decide) (by decide), show qN + qN = hN + 1 by decide]
  exact (powN_next pN x (by decide)).symm
/-- The root's square is the number, or else. -/
theorem root_is {x : Int} (x0 : 0 ≤ x) : (modN pN (powN pN x qN * powN pN x qN) = modN pN x ↔ modN pN x = 0 ∨ eulN x = 1) := by
  rw [root_sq]
  by_cases hz : modN pN x = 0
  · constructor
    · exact fun _ => .inl hz
    · intro _
      rw [← modN_mul_r, hz, Int.mul_zero]; rfl
  · rcases eul_some x0 hz with h | h
    · rw [h, Int.one_mul]; simp
    · have t := modN_lt fit_p x
      have e : modN pN ((pN - 1) * x) = pN - modN pN x := by
        have e1 : (pN - 1) * x = pN - modN pN x + pN * (x - x / pN - 1) := by
          have := Int.emod_add_mul_ediv x pN
          unfold modN
          rw [Int.sub_mul, Int.mul_sub, Int.mul_sub]; omega
        rw [e1]
        unfold modN at t hz ⊢
        rw [Int.add_mul_emod_self_left]
        exact Int.emod_eq_of_lt (by omega) (by omega)
      rw [h, e]
      constructor
      · intro h2
        have := p_odd
        omega
      · intro h2
        rcases h2 with h2 | h2
        · exact absurd h2 hz
        · exact absurd h2 (by decide)

theorem shr_p2 : shrN pN 2 = 28948022309329048855892746252171976963317496166410141009864396001977208667915 := by decide
theorem shr_p1 : shrN pN 1 = hN := by decide
theorem shr_q2 : shrN (pN + 1) 2 = qN := by decide
theorem add_q : sumN 28948022309329048855892746252171976963317496166410141009864396001977208667915 1 = qN := by decide
theorem add_p : sumN pN 1 = pN + 1 := by decide
end Go.Proofs.YtfpiopjlcjckeabDoor

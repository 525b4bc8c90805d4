import Derived.Test.YtagcbcmbojggkaaDoorFList
import Derived.Test.YtagcbcmbojggkaaDoorFFermat
namespace Go.Proofs.YtagcbcmbojggkaaDoor
open Go.RowKit Go.Sort

/-- The answers, the last ones from i on turned. -/
def turnL (m : Int) (L : List Int) (i : Nat) : List Int := (List.range i).map (preN m L) ++ (L.drop i).map (invN m)
theorem turnL_len (m : Int) (L : List Int) {i : Nat} (h : i ≤ L.length) : (turnL m L i).length = L.length := by simp [turnL]; omega
theorem turnL_all (m : Int) (L : List Int) : turnL m L L.length = aheadL m L L.length := by simp [turnL, aheadL]
theorem turnL_none (m : Int) (L : List Int) : turnL m L 0 = L.map (invN m) := by simp [turnL]
theorem turnL_at (m : Int) (L : List Int) {i : Nat} (_h : i < L.length) : (turnL m L (i + 1)).getD i 0 = preN m L i := by
  unfold turnL
  rw [List.getD_eq_getElem?_getD, List.getElem?_append_left (by simp)]
  simp
theorem turnL_set (m : Int) (L : List Int) {i : Nat} (h : i < L.length) : (turnL m L (i + 1)).set i (invN m (L.getD i 0)) = turnL m L i := by
  unfold turnL
  rw [List.range_succ, List.map_append, List.append_assoc, List.set_append_right _ _ (by simp), List.length_map, List.length_range, Nat.sub_self]
  have e : L.drop i = L.getD i 0 :: L.drop (i + 1) := by
    rw [List.drop_eq_getElem_cons h]
    congr 1
    simp [List.getD, h]
  rw [e]
  rfl
/-- back is the inverse of the product of the first i. -/
def BackOf (m : Int) (L : List Int) (i : Nat) (b : Int) : Prop := Num b ∧ modN m (b * preN m L i) = 1
theorem pre_some {m c : Int} (_hf : Fit m c) {L : List Int} {i : Nat} {b : Int} (h : BackOf m L (i + 1) b) : modN m (L.getD i 0) ≠ 0 := by
  intro hz
  have e := h.2
  have e2 : preN m L (i + 1) = modN m (preN m L i * L.getD i 0) := rfl
  rw [e2, ← modN_mul_r (m := m) (preN m L i), hz, Int.mul_zero, show modN m 0 = 0 by unfold modN; simp, Int.mul_zero] at e
  exact absurd e (by unfold modN; simp)
/-- One step of the way back. -/
theorem back_step {m c : Int} (hf : Fit m c) (hp : Prm m) {L : List Int} {i : Nat} (x0 : 0 ≤ L.getD i 0) {b : Int} (h : BackOf m L (i + 1) b) :
    modN m (preN m L i * b) = invN m (L.getD i 0) ∧ BackOf m L i (modN m (b * L.getD i 0)) := by
  have hz := pre_some hf h
  have e2 : preN m L (i + 1) = modN m (preN m L i * L.getD i 0) := rfl
  have e := h.2
  rw [e2, modN_mul_r] at e
  have low := hf.low
  have e6 : BackOf m L i (modN m (b * L.getD i 0)) := ⟨modN_Num hf _, by rw [modN_mul_l, ← e]; congr 1; rw [Int.mul_assoc, Int.mul_comm (L.getD i 0)]⟩
  refine ⟨?_, e6⟩
  clear e6
  generalize L.getD i 0 = x at *
  generalize preN m L i = P at *
  have e3 : modN m (x * modN m (P * b)) = 1 := by
    rw [modN_mul_r, ← e]; congr 1; rw [← Int.mul_assoc, Int.mul_comm x P, Int.mul_comm (P * x) b]
  have e4 : modN m (x * invN m x) = 1 := by
    have q := powN_next m x (e := m - 2) (by omega)
    rw [show m - 2 + 1 = m - 1 by omega, powN_fermat hp x0 hz, Int.mul_comm] at q
    exact q
  have e5 := hp.cancel (a := x) hz (show x * modN m (P * b) % m = x * invN m x % m from e3.trans e4.symm)
  obtain ⟨y0, y1⟩ := modN_lt hf (P * b)
  obtain ⟨z0, z1⟩ : 0 ≤ invN m x ∧ invN m x < m := powN_lt hf x (m - 2)
  rw [Int.emod_eq_of_lt y0 y1, Int.emod_eq_of_lt z0 z1] at e5
  exact e5
/-- The product is 0 just if a factor is. -/
theorem pre_zero {m c : Int} (hf : Fit m c) (hp : Prm m) (L : List Int) : ∀ i, i ≤ L.length → (preN m L i = 0 ↔ ∃ j, j < i ∧ modN m (L.getD j 0) = 0)
  | 0, _ => by
    constructor
    · intro h; exact absurd h (by show ¬ (1 : Int) = 0; decide)
    · rintro ⟨j, hj, _⟩; omega
  | i + 1, h => by
    have ih := pre_zero hf hp L i (by omega)
    have e2 : preN m L (i + 1) = modN m (preN m L i * L.getD i 0) := rfl
    have pl : modN m (preN m L i) = preN m L i := by
      cases i with
      | zero => show (1 : Int) % m = 1; exact Int.emod_eq_of_lt (by decide) (by have := hf.low; omega)
      | succ i => exact modN_mod _
    constructor
    · intro hz
      rw [e2] at hz
      rcases hp.zero hz with h1 | h1
      · obtain ⟨j, hj, e⟩ := ih.1 (pl.symm.trans h1)
        exact ⟨j, by omega, e⟩
      · exact ⟨i, by omega, h1⟩
    · rintro ⟨j, hj, e⟩
      rw [e2]
      by_cases hji : j = i
      · subst hji
        rw [← modN_mul_r, e, Int.mul_zero]; unfold modN; simp
      · rw [ih.2 ⟨j, by omega, e⟩, Int.zero_mul]; unfold modN; simp
theorem back_first {m c : Int} (hf : Fit m c) (hp : Prm m) (L : List Int) (n : Nat) (h : preN m L n ≠ 0) : BackOf m L n (invN m (preN m L n)) := by
  refine ⟨powN_Num hf _ _, ?_⟩
  have low := hf.low
  have pl : modN m (preN m L n) = preN m L n := by
    cases n with
    | zero => show (1 : Int) % m = 1; exact Int.emod_eq_of_lt (by decide) (by omega)
    | succ i => exact modN_mod _
  have q := powN_next m (preN m L n) (e := m - 2) (by omega)
  rw [show m - 2 + 1 = m - 1 by omega, powN_fermat hp (preN_Num hf L n).1 (by rw [pl]; exact h)] at q
  exact q
end Go.Proofs.YtagcbcmbojggkaaDoor

import Derived.Test.YtjhljoanhlodeaaDoorKRDigest
namespace Go.Proofs.YtjhljoanhlodeaaDoor
open Go.RowKit Go.Sort

/-- What a fresh row of bytes is as an argument. -/
theorem own_arg {B : Nat} {W : World} {v : Value} {X : List (BitVec 8)} (h : Own B W v X) : ∃ a g c, v = .slice a X.length c ∧ At a g 0 X ∧ (a = none → c = 0) ∧ Byo W g 0 X := by
  rcases h.2 with ⟨e, hx⟩ | ⟨g, cap, cur, e, _, _, hle, _⟩
  · have hx' : X = [] := List.length_eq_zero_iff.1 hx
    subst hx'
    exact ⟨none, 0, 0, e, .inl rfl, fun _ => rfl, fun i hi => absurd hi (Nat.not_lt_zero _)⟩
  · subst e
    refine ⟨_, g, cap, rfl, .inr rfl, (fun h => nomatch h), fun i hi => ?_⟩
    rw [Nat.zero_add, h.row.cellAt i (by omega)]
    simp [byts, List.getD, hi]

end Go.Proofs.YtjhljoanhlodeaaDoor

import Derived.Test.YtecjfddolamknaaNbA
/- Layer 11: split, Of. -/
namespace Go.Proofs.Ytecjfddolamknaa
open Go.RowKit Go.Sort

theorem Az.cons {a : Option Addr} {b o : Nat} {X : List Int} (h : Az a b o X) (hx : 0 < X.length) : a = some ⟨b, o, none⟩ := by
  rcases h with e | e
  · rw [e] at hx; simp at hx
  · exact e
theorem Az.far {a : Option Addr} {b o g : Nat} {X : List Int} {w : World} (h : Az a b o X) (hz : Bz w b o X) (hg : w.heap.size ≤ g) : ∃ b', b' ≠ g ∧ Az a b' o X ∧ ∀ W, Bz W b o X → Bz W b' o X := by
  by_cases hx : X = []
  · subst hx
    exact ⟨g + 1, by omega, .inl rfl, fun W _ i hi => absurd hi (Nat.not_lt_zero _)⟩
  · refine ⟨b, ?_, h, fun W h => h⟩
    have := World.block_lt_of_cell? w _ (hz 0 (List.length_pos_iff.2 hx))
    simp at this
    omega
end Go.Proofs.Ytecjfddolamknaa

import Derived.Test.YtjlijohdobknoaaDoorFBin
namespace Go.Proofs.YtjlijohdobknoaaDoor
open Go.RowKit Go.Sort

theorem fkind_any (v : Int) : ∃ k : Int, (k = 0 ∨ k = 1) ∧ ∀ w, Calls Tryd.prog 4 #[.int .i64 v] w fun e w' => e = .returned (.int .i64 k) ∧ Below w.heap.size w w' := by
  by_cases h : v.tmod 2 = 0
  · refine ⟨0, .inl rfl, fun w => ?_⟩
    have t : (v.tmod 2 == 0) = true := by simp [h]
    clear h
    go_enter Tryd.func4, Tryd.ntmps4
    go_wp2
    simp [bodyPost, results, Tryd.results4, go_sem]
    exact Below.refl _ _
  · refine ⟨1, .inr rfl, fun w => ?_⟩
    have t : (v.tmod 2 == 0) = false := by simp [h]
    clear h
    go_enter Tryd.func4, Tryd.ntmps4
    go_wp2
    simp [bodyPost, results, Tryd.results4, go_sem]
    exact Below.refl _ _
end Go.Proofs.YtjlijohdobknoaaDoor

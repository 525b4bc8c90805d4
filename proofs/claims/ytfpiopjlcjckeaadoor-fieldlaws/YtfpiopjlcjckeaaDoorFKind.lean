import Derived.Test.YtfpiopjlcjckeaaDoorFBin
namespace Go.Proofs.YtfpiopjlcjckeaaDoor
open Go.RowKit Go.Sort

theorem fkind_any (v : Int) : ∃ k : Int, (k = 0 ∨ k = 1) ∧ ∀ w, Calls Tryd.prog 9 #[.int .i64 v] w fun e w' => e = .returned (.int .i64 k) ∧ Below w.heap.size w w' := by
  by_cases h : v.tmod 2 = 0
  · refine ⟨0, .inl rfl, fun w => ?_⟩
    have t : (v.tmod 2 == 0) = true := by simp [h]
    clear h
    go_enter Tryd.func9, Tryd.ntmps9
    go_wp2
    simp [bodyPost, results, Tryd.results9, go_sem]
    exact Below.refl _ _
  · refine ⟨1, .inr rfl, fun w => ?_⟩
    have t : (v.tmod 2 == 0) = false := by simp [h]
    clear h
    go_enter Tryd.func9, Tryd.ntmps9
    go_wp2
    simp [bodyPost, results, Tryd.results9, go_sem]
    exact Below.refl _ _
theorem fkind_kind (v : Int) : ∃ k m c : Int, Kind k m c ∧ ∀ w, Calls Tryd.prog 9 #[.int .i64 v] w fun e w' => e = .returned (.int .i64 k) ∧ Below w.heap.size w w' := by
  obtain ⟨k, hk, h⟩ := fkind_any v
  rcases hk with rfl | rfl
  · exact ⟨0, pN, pC, kind_p, h⟩
  · exact ⟨1, nN, nC, kind_n, h⟩
end Go.Proofs.YtfpiopjlcjckeaaDoor

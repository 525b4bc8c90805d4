import Derived.Test.YtfpiopjlcjckeaaDoorFSum
namespace Go.Proofs.YtfpiopjlcjckeaaDoor
open Go.RowKit Go.Sort

theorem Smm.grown {W : World} {b : Nat} {k : Int} (h : Smm W b k) : ∀ d os, ((grow (redrawn W d) os).cell? ⟨b, 0, none⟩ = some (.int .i64 k) ∧ (grow (redrawn W d) os).cell? ⟨b, 1, none⟩ = some (.bool false)) :=
  fun d os => (h.keep (below_regrown W d os)).1
theorem fnum_any (v : Int) (w : World) : Calls Tryd.prog 11 #[.int .i64 v] w fun e w' => e = .returned (.int .i64 v) ∧ Below w.heap.size w w' := by
  go_enter Tryd.func11, Tryd.ntmps11
  go_wp2
  simp [bodyPost, results, Tryd.results11, go_sem]
  repeat (first | with_reducible exact Below.refl _ _ | with_reducible refine Below.drew ?_ | with_reducible refine Below.alloc ?_ (by first | omega | (simp; done) | (simp; omega)) _)
end Go.Proofs.YtfpiopjlcjckeaaDoor

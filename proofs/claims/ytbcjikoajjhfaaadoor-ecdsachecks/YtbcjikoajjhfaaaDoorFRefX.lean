import Derived.Test.YtbcjikoajjhfaaaDoorFRef
namespace Go.Proofs.YtbcjikoajjhfaaaDoor
open Go.RowKit Go.Sort

set_option maxHeartbeats 1000000 in
theorem rgood_yes {k : Int} (hk : k = 0 ∨ k = 1) (w : World) : Calls Tryd.prog 108 #[.int .i64 k] w fun e w' => e = .returned (.bool true) ∧ Below w.heap.size w w' := by
  rcases hk with rfl | rfl
  · skip
    go_enter Tryd.func108, Tryd.ntmps108
    go_wp2
    simp [bodyPost, results, Tryd.results108, go_sem]
    repeat (first | with_reducible exact Below.refl _ _ | with_reducible refine Below.drew ?_ | with_reducible refine Below.alloc ?_ (by first | omega | (simp; done) | (simp; omega)) _ | with_reducible refine Below.setCell ?_ (by first | omega | (simp; done)) _)
  · skip
    go_enter Tryd.func108, Tryd.ntmps108
    go_wp2
    simp [bodyPost, results, Tryd.results108, go_sem]
    repeat (first | with_reducible exact Below.refl _ _ | with_reducible refine Below.drew ?_ | with_reducible refine Below.alloc ?_ (by first | omega | (simp; done) | (simp; omega)) _ | with_reducible refine Below.setCell ?_ (by first | omega | (simp; done)) _)

set_option maxHeartbeats 1000000 in
theorem rgood_no {k : Int} (h0 : k ≠ 0) (h1 : k ≠ 1) (w : World) : Calls Tryd.prog 108 #[.int .i64 k] w fun e w' => e = .returned (.bool false) ∧ Below w.heap.size w w' := by
  have t0 : (k == 0) = false := by simp [h0]
  have t1 : (k == 1) = false := by simp [h1]
  clear h0 h1
  go_enter Tryd.func108, Tryd.ntmps108
  go_wp2
  simp [bodyPost, results, Tryd.results108, go_sem]
  repeat (first | with_reducible exact Below.refl _ _ | with_reducible refine Below.drew ?_ | with_reducible refine Below.alloc ?_ (by first | omega | (simp; done) | (simp; omega)) _ | with_reducible refine Below.setCell ?_ (by first | omega | (simp; done)) _)

end Go.Proofs.YtbcjikoajjhfaaaDoor

import Derived.Test.YtncpjgpioajbeaaGreatDoorCmp
namespace Go.Proofs.YtncpjgpioajbeaaGreatDoor
open Go.RowKit

set_option maxHeartbeats 1000000 in
theorem split_any (p0 p1 p2 p3 p4 p5 p6 p7 : Int) (w : World) :
    Calls Tryz.prog 134 #[.agg #[.int .u64 p0, .int .u64 p1, .int .u64 p2, .int .u64 p3, .int .u64 p4, .int .u64 p5, .int .u64 p6, .int .u64 p7]] w fun e w' =>
      e = .returned (.tuple #[.agg #[.int .u64 p4, .int .u64 p5, .int .u64 p6, .int .u64 p7], .agg #[.int .u64 p0, .int .u64 p1, .int .u64 p2, .int .u64 p3]]) ∧ Below w.heap.size w w' := by
  go_enter Tryz.func134, Tryz.ntmps134
  go_wp2
  refine wp_loop_rounds 5 ?_
  rw [rounds_succ]; go_wp2; go_region; go_wp2
  rw [rounds_succ]; go_wp2; go_region; go_wp2
  rw [rounds_succ]; go_wp2; go_region; go_wp2
  rw [rounds_succ]; go_wp2; go_region; go_wp2
  rw [rounds_succ]; go_wp2; go_region; go_wp2
  simp [bodyPost, results, Tryz.results134, go_sem]
  repeat (first | with_reducible exact Below.refl _ _ | with_reducible refine Below.drew ?_ | with_reducible refine Below.alloc ?_ (by first | omega | (simp; done) | (simp; omega)) _)

end Go.Proofs.YtncpjgpioajbeaaGreatDoor

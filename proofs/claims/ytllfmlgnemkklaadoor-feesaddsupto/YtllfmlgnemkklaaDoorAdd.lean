import Derived.Test.YtllfmlgnemkklaaDoorLeaf
import Derived.LoopN
import Derived.BigRegion
import Derived.Deep.RegionWith
namespace Go.Proofs.YtllfmlgnemkklaaDoor
open Go.RowKit

set_option maxHeartbeats 1000000 in
theorem add_limbs {x0 x1 x2 x3 y0 y1 y2 y3 : Int} (hx0 : Word x0) (hx1 : Word x1) (hx2 : Word x2) (hx3 : Word x3) (hy0 : Word y0) (hy1 : Word y1) (hy2 : Word y2) (hy3 : Word y3) (w : World) :
    Calls Tryd.prog 51 #[.agg #[.int .u64 x0, .int .u64 x1, .int .u64 x2, .int .u64 x3], .agg #[.int .u64 y0, .int .u64 y1, .int .u64 y2, .int .u64 y3]] w fun e w' =>
      e = .returned (.tuple #[.agg #[.int .u64 (addS x0 y0 0), .int .u64 (addS x1 y1 (addC x0 y0 0)), .int .u64 (addS x2 y2 (addC x1 y1 (addC x0 y0 0))), .int .u64 (addS x3 y3 (addC x2 y2 (addC x1 y1 (addC x0 y0 0))))], .int .u64 (addC x3 y3 (addC x2 y2 (addC x1 y1 (addC x0 y0 0))))]) ∧ Below w.heap.size w w' := by
  have z : (0 : Int) ≤ 0 ∧ (0 : Int) ≤ 1 := by decide
  have c0 := addC_bit hx0 hy0 z
  have c1 := addC_bit hx1 hy1 c0
  have c2 := addC_bit hx2 hy2 c1
  have g0 := add64 hx0 hy0 z
  have g1 := add64 hx1 hy1 c0
  have g2 := add64 hx2 hy2 c1
  have g3 := add64 hx3 hy3 c2
  clear z c0 c1 c2
  go_enter Tryd.func51, Tryd.ntmps51
  go_wp2
  refine wp_loop_rounds 5 ?_
  rw [rounds_succ]; go_wp2; go_region; go_wp2
  rw [rounds_succ]; go_wp2; go_region; go_wp2
  rw [rounds_succ]; go_wp2; go_region; go_wp2
  rw [rounds_succ]; go_wp2; go_region; go_wp2
  rw [rounds_succ]; go_wp2
  simp [bodyPost, results, Tryd.results51, go_sem]
  repeat (first | with_reducible exact Below.refl _ _ | with_reducible refine Below.drew ?_ | with_reducible refine Below.alloc ?_ (by first | omega | (simp; done) | (simp; omega)) _)

theorem add_any {n m : Int} (hn : Num n) (hm : Num m) (w : World) :
    Calls Tryd.prog 51 #[.agg #[.int .u64 (l0 n), .int .u64 (l1 n), .int .u64 (l2 n), .int .u64 (l3 n)], .agg #[.int .u64 (l0 m), .int .u64 (l1 m), .int .u64 (l2 m), .int .u64 (l3 m)]] w fun e w' =>
      e = .returned (.tuple #[.agg #[.int .u64 (l0 (sumN n m)), .int .u64 (l1 (sumN n m)), .int .u64 (l2 (sumN n m)), .int .u64 (l3 (sumN n m))], .int .u64 (carN n m)]) ∧ Below w.heap.size w w' := by
  refine (add_limbs (l0_word n) (l1_word n) (l2_word n) (l3_word n) (l0_word m) (l1_word m) (l2_word m) (l3_word m) w).mono ?_
  obtain ⟨r0, r1, r2, r3, r4⟩ := add_num (l0 n) (l1 n) (l2 n) (l3 n) (l0 m) (l1 m) (l2 m) (l3 m)
  rw [num_l hn, num_l hm] at r0 r1 r2 r3 r4
  rw [r0, r1, r2, r3, r4]
  exact fun e w' h => h

set_option maxHeartbeats 1000000 in
theorem sub_limbs {x0 x1 x2 x3 y0 y1 y2 y3 : Int} (hx0 : Word x0) (hx1 : Word x1) (hx2 : Word x2) (hx3 : Word x3) (hy0 : Word y0) (hy1 : Word y1) (hy2 : Word y2) (hy3 : Word y3) (w : World) :
    Calls Tryd.prog 49 #[.agg #[.int .u64 x0, .int .u64 x1, .int .u64 x2, .int .u64 x3], .agg #[.int .u64 y0, .int .u64 y1, .int .u64 y2, .int .u64 y3]] w fun e w' =>
      e = .returned (.tuple #[.agg #[.int .u64 (subS x0 y0 0), .int .u64 (subS x1 y1 (subB x0 y0 0)), .int .u64 (subS x2 y2 (subB x1 y1 (subB x0 y0 0))), .int .u64 (subS x3 y3 (subB x2 y2 (subB x1 y1 (subB x0 y0 0))))], .int .u64 (subB x3 y3 (subB x2 y2 (subB x1 y1 (subB x0 y0 0))))]) ∧ Below w.heap.size w w' := by
  have g0 := sub64 hx0 hy0 (by decide : (0 : Int) ≤ 0 ∧ (0 : Int) ≤ 1)
  have g1 := sub64 hx1 hy1 (subB_bit x0 y0 0)
  have g2 := sub64 hx2 hy2 (subB_bit x1 y1 (subB x0 y0 0))
  have g3 := sub64 hx3 hy3 (subB_bit x2 y2 (subB x1 y1 (subB x0 y0 0)))
  go_enter Tryd.func49, Tryd.ntmps49
  go_wp2
  refine wp_loop_rounds 5 ?_
  rw [rounds_succ]; go_wp2; go_region; go_wp2
  rw [rounds_succ]; go_wp2; go_region; go_wp2
  rw [rounds_succ]; go_wp2; go_region; go_wp2
  rw [rounds_succ]; go_wp2; go_region; go_wp2
  rw [rounds_succ]; go_wp2
  simp [bodyPost, results, Tryd.results49, go_sem]
  repeat (first | with_reducible exact Below.refl _ _ | with_reducible refine Below.drew ?_ | with_reducible refine Below.alloc ?_ (by first | omega | (simp; done) | (simp; omega)) _)

theorem sub_any {n m : Int} (hn : Num n) (hm : Num m) (w : World) :
    Calls Tryd.prog 49 #[.agg #[.int .u64 (l0 n), .int .u64 (l1 n), .int .u64 (l2 n), .int .u64 (l3 n)], .agg #[.int .u64 (l0 m), .int .u64 (l1 m), .int .u64 (l2 m), .int .u64 (l3 m)]] w fun e w' =>
      e = .returned (.tuple #[.agg #[.int .u64 (l0 (difN n m)), .int .u64 (l1 (difN n m)), .int .u64 (l2 (difN n m)), .int .u64 (l3 (difN n m))], .int .u64 (borN n m)]) ∧ Below w.heap.size w w' := by
  refine (sub_limbs (l0_word n) (l1_word n) (l2_word n) (l3_word n) (l0_word m) (l1_word m) (l2_word m) (l3_word m) w).mono ?_
  obtain ⟨r0, r1, r2, r3, r4⟩ := sub_num (l0_word n) (l1_word n) (l2_word n) (l3_word n) (l0_word m) (l1_word m) (l2_word m) (l3_word m)
  rw [num_l hn, num_l hm] at r0 r1 r2 r3 r4
  rw [r0, r1, r2, r3, r4]
  exact fun e w' h => h

end Go.Proofs.YtllfmlgnemkklaaDoor

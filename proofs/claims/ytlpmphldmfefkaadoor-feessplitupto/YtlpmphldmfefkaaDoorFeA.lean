import Derived.Test.YtlpmphldmfefkaaDoorFeN
import Derived.Test.YtlpmphldmfefkaaDoorQAlloc
import Derived.Test.YtlpmphldmfefkaaDoorMul2
import Derived.Test.YtlpmphldmfefkaaDoorShl
import Derived.Deep.RegionHeld3
namespace Go.Proofs.YtlpmphldmfefkaaDoor
open Go.RowKit Go.Sort

set_option maxHeartbeats 2000000 in
theorem plus_yes {x y : Int} (A : Hid (∀ w, Calls Tryd.prog 16 #[.agg #[.int .u64 (l0 x), .int .u64 (l1 x), .int .u64 (l2 x), .int .u64 (l3 x)], .agg #[.int .u64 (l0 y), .int .u64 (l1 y), .int .u64 (l2 y), .int .u64 (l3 y)]] w fun e w' => e = .returned (.tuple #[.agg #[.int .u64 (l0 (x + y)), .int .u64 (l1 (x + y)), .int .u64 (l2 (x + y)), .int .u64 (l3 (x + y))], .int .u64 0]) ∧ Below w.heap.size w w')) (w : World) :
    Calls Tryd.prog 50 #[.agg #[.int .u64 (l0 x), .int .u64 (l1 x), .int .u64 (l2 x), .int .u64 (l3 x)], .agg #[.int .u64 (l0 y), .int .u64 (l1 y), .int .u64 (l2 y), .int .u64 (l3 y)]] w fun e w' => e = .returned (.tuple #[.agg #[.int .u64 (l0 (x + y)), .int .u64 (l1 (x + y)), .int .u64 (l2 (x + y)), .int .u64 (l3 (x + y))], .int .i64 0]) ∧ Below w.heap.size w w' := by
  have hz := build_zero
  go_enter Tryd.func50, Tryd.ntmps50
  go_wp2_with fail
  refine calls_world (fun W => Below w.heap.size w W ∧ Blank W (w.heap.size + 1 + 1)) ⟨by repeat (first | with_reducible exact Below.refl _ _ | with_reducible refine Below.alloc ?_ (by first | omega | (simp; done) | (simp; omega)) _), Blank.new (by simp)⟩ ?_
  rintro W ⟨B, hR⟩
  have o1 : w.heap.size ≤ w.heap.size + 1 + 1 := by omega
  generalize w.heap.size + 1 + 1 = br at *
  with_reducible refine (A.out _).mono ?_
  rintro e w1 ⟨rfl, hb⟩
  replace B := B.trans (hb.mono B.size)
  replace hR := hR.keep hb
  clear hb W
  have gR := fun o => (hR.alloc o).1.all4; have fR := fun o => (hR.alloc o).2.all4
  have c1 : br ≠ w1.heap.size := by have := hR.1.lt (by simp); omega
  have c2 := c1.symm
  go_wp2
  simp [bodyPost, results, Tryd.results50, go_sem, gR]
  repeat (first | with_reducible exact B | with_reducible refine Below.drew ?_ | with_reducible refine Below.setCell ?_ o1 _ | with_reducible refine Below.setCell ?_ o2 _ | with_reducible refine Below.alloc ?_ (by first | exact B.size | omega | (simp; done) | (simp; omega)) _)

set_option maxHeartbeats 2000000 in
theorem plus_no {x y : Int} (A : Hid (∀ w, Calls Tryd.prog 16 #[.agg #[.int .u64 (l0 x), .int .u64 (l1 x), .int .u64 (l2 x), .int .u64 (l3 x)], .agg #[.int .u64 (l0 y), .int .u64 (l1 y), .int .u64 (l2 y), .int .u64 (l3 y)]] w fun e w' => e = .returned (.tuple #[.agg #[.int .u64 (l0 (sumN x y)), .int .u64 (l1 (sumN x y)), .int .u64 (l2 (sumN x y)), .int .u64 (l3 (sumN x y))], .int .u64 1]) ∧ Below w.heap.size w w')) (w : World) :
    Calls Tryd.prog 50 #[.agg #[.int .u64 (l0 x), .int .u64 (l1 x), .int .u64 (l2 x), .int .u64 (l3 x)], .agg #[.int .u64 (l0 y), .int .u64 (l1 y), .int .u64 (l2 y), .int .u64 (l3 y)]] w fun e w' => e = .returned (.tuple #[.agg #[.int .u64 0, .int .u64 0, .int .u64 0, .int .u64 0], .int .i64 183]) ∧ Below w.heap.size w w' := by
  have hz := build_zero
  go_enter Tryd.func50, Tryd.ntmps50
  go_wp2_with fail
  refine calls_world (fun W => Below w.heap.size w W ∧ Blank W (w.heap.size + 1 + 1)) ⟨by repeat (first | with_reducible exact Below.refl _ _ | with_reducible refine Below.alloc ?_ (by first | omega | (simp; done) | (simp; omega)) _), Blank.new (by simp)⟩ ?_
  rintro W ⟨B, hR⟩
  have o1 : w.heap.size ≤ w.heap.size + 1 + 1 := by omega
  generalize w.heap.size + 1 + 1 = br at *
  with_reducible refine (A.out _).mono ?_
  rintro e w1 ⟨rfl, hb⟩
  replace B := B.trans (hb.mono B.size)
  replace hR := hR.keep hb
  clear hb W
  have gR := fun o => (hR.alloc o).1.all4; have fR := fun o => (hR.alloc o).2.all4
  have c1 : br ≠ w1.heap.size := by have := hR.1.lt (by simp); omega
  have c2 := c1.symm
  go_wp2
  simp [bodyPost, results, Tryd.results50, go_sem, gR]
  repeat (first | with_reducible exact B | with_reducible refine Below.drew ?_ | with_reducible refine Below.setCell ?_ o1 _ | with_reducible refine Below.setCell ?_ o2 _ | with_reducible refine Below.alloc ?_ (by first | exact B.size | omega | (simp; done) | (simp; omega)) _)

theorem plus_any {x y : Int} (hx : Num x) (hy : Num y) (w : World) :
    Calls Tryd.prog 50 #[.agg #[.int .u64 (l0 x), .int .u64 (l1 x), .int .u64 (l2 x), .int .u64 (l3 x)], .agg #[.int .u64 (l0 y), .int .u64 (l1 y), .int .u64 (l2 y), .int .u64 (l3 y)]] w fun e w' => e = .returned (.tuple #[.agg #[.int .u64 (l0 (wideV (x + y))), .int .u64 (l1 (wideV (x + y))), .int .u64 (l2 (wideV (x + y))), .int .u64 (l3 (wideV (x + y)))], .int .i64 (wideE (x + y))]) ∧ Below w.heap.size w w' := by
  obtain ⟨x0, x1⟩ := hx; obtain ⟨y0, y1⟩ := hy
  by_cases c : x + y < 115792089237316195423570985008687907853269984665640564039457584007913129639936
  · rw [show wideV (x + y) = x + y from if_pos c, show wideE (x + y) = 0 from if_pos c]
    refine plus_yes (fun w => ?_) w
    have := add_any ⟨x0, x1⟩ ⟨y0, y1⟩ w
    rw [show sumN x y = x + y from Int.emod_eq_of_lt (by omega) c, show carN x y = 0 by unfold carN; omega] at this
    exact this
  · rw [show wideV (x + y) = 0 from if_neg c, show wideE (x + y) = 183 from if_neg c]
    obtain ⟨z0, z1, z2, z3⟩ := zero_limbs
    rw [z0, z1, z2, z3]
    refine plus_no (fun w => ?_) w
    have := add_any ⟨x0, x1⟩ ⟨y0, y1⟩ w
    rw [show carN x y = 1 by unfold carN; omega] at this
    exact this

end Go.Proofs.YtlpmphldmfefkaaDoor

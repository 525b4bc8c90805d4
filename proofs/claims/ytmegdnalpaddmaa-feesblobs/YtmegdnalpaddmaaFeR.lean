import Derived.Test.YtmegdnalpaddmaaFeA
import Derived.Test.YtmegdnalpaddmaaRefDivs
import Derived.Test.YtmegdnalpaddmaaRefLongNum
import Derived.Test.YtmegdnalpaddmaaRefAddSub
namespace Go.Proofs.Ytmegdnalpaddmaa
open Go.RowKit Go.Sort

set_option maxHeartbeats 2000000 in
theorem rsum_walk {x y s k : Int} {t : Bool} (A : Hid (∀ w, Calls Try.prog 35 #[.agg #[.int .u64 (l0 x), .int .u64 (l1 x), .int .u64 (l2 x), .int .u64 (l3 x)], .agg #[.int .u64 (l0 y), .int .u64 (l1 y), .int .u64 (l2 y), .int .u64 (l3 y)]] w fun e w' => e = .returned (.tuple #[.agg #[.int .u64 (l0 s), .int .u64 (l1 s), .int .u64 (l2 s), .int .u64 (l3 s)], .int .u64 k]) ∧ Below w.heap.size w w')) (hk : (k == 0) = t) (w : World) :
    Calls Try.prog 34 #[.agg #[.int .u64 (l0 x), .int .u64 (l1 x), .int .u64 (l2 x), .int .u64 (l3 x)], .agg #[.int .u64 (l0 y), .int .u64 (l1 y), .int .u64 (l2 y), .int .u64 (l3 y)]] w fun e w' => e = .returned (.tuple #[.agg #[.int .u64 (l0 s), .int .u64 (l1 s), .int .u64 (l2 s), .int .u64 (l3 s)], .bool t]) ∧ Below w.heap.size w w' := by
  go_enter Try.func34, Try.ntmps34
  go_wp2_with fail
  refine calls_world (fun W => Below w.heap.size w W ∧ Blank W (w.heap.size + 1 + 1)) ⟨by repeat (first | with_reducible exact Below.refl _ _ | with_reducible refine Below.alloc ?_ (by first | omega | (simp; done) | (simp; omega)) _), Blank.new (by simp)⟩ ?_
  rintro W ⟨B, hR⟩
  have o1 : w.heap.size ≤ w.heap.size + 1 + 1 := by omega
  generalize w.heap.size + 1 + 1 = br at *
  with_reducible refine (A.out _).mono ?_
  rintro e w1 ⟨rfl, hb⟩
  replace B := B.trans (hb.mono B.size)
  replace hR := hR.keep hb
  clear hb W
  have gR := fun o => (hR.alloc o).1.all4; have fR := fun o => (hR.alloc o).2.all4
  have c1 : br ≠ w1.heap.size := by have := hR.1.lt (by simp); omega
  have c2 := c1.symm
  subst hk
  go_wp2
  simp [bodyPost, results, Try.results34, go_sem, gR]
  repeat (first | with_reducible exact B | with_reducible refine Below.drew ?_ | with_reducible refine Below.setCell ?_ o1 _ | with_reducible refine Below.alloc ?_ (by first | exact B.size | omega | (simp; done) | (simp; omega)) _)

theorem rsum_yes {x y : Int} (hx : Num x) (hy : Num y) (c : x + y < 115792089237316195423570985008687907853269984665640564039457584007913129639936) (w : World) :
    Calls Try.prog 34 #[.agg #[.int .u64 (l0 x), .int .u64 (l1 x), .int .u64 (l2 x), .int .u64 (l3 x)], .agg #[.int .u64 (l0 y), .int .u64 (l1 y), .int .u64 (l2 y), .int .u64 (l3 y)]] w fun e w' => e = .returned (.tuple #[.agg #[.int .u64 (l0 (x + y)), .int .u64 (l1 (x + y)), .int .u64 (l2 (x + y)), .int .u64 (l3 (x + y))], .bool true]) ∧ Below w.heap.size w w' := by
  obtain ⟨x0, x1⟩ := hx; obtain ⟨y0, y1⟩ := hy
  refine rsum_walk (k := 0) (fun w => ?_) rfl w
  have := radd_any ⟨x0, x1⟩ ⟨y0, y1⟩ w
  rw [show sumN x y = x + y from Int.emod_eq_of_lt (by omega) c, show carN x y = 0 by unfold carN; omega] at this
  exact this
theorem rsum_no {x y : Int} (hx : Num x) (hy : Num y) (c : ¬ x + y < 115792089237316195423570985008687907853269984665640564039457584007913129639936) (w : World) :
    Calls Try.prog 34 #[.agg #[.int .u64 (l0 x), .int .u64 (l1 x), .int .u64 (l2 x), .int .u64 (l3 x)], .agg #[.int .u64 (l0 y), .int .u64 (l1 y), .int .u64 (l2 y), .int .u64 (l3 y)]] w fun e w' => e = .returned (.tuple #[.agg #[.int .u64 (l0 (sumN x y)), .int .u64 (l1 (sumN x y)), .int .u64 (l2 (sumN x y)), .int .u64 (l3 (sumN x y))], .bool false]) ∧ Below w.heap.size w w' := by
  obtain ⟨x0, x1⟩ := hx; obtain ⟨y0, y1⟩ := hy
  refine rsum_walk (k := 1) (fun w => ?_) rfl w
  have := radd_any ⟨x0, x1⟩ ⟨y0, y1⟩ w
  rw [show carN x y = 1 by unfold carN; omega] at this
  exact this

end Go.Proofs.Ytmegdnalpaddmaa

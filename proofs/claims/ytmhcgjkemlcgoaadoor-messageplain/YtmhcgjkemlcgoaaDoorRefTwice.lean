import Derived.Test.YtmhcgjkemlcgoaaDoorRefAddSub
import Derived.Test.YtmhcgjkemlcgoaaDoorRefCmp
import Derived.Test.YtmhcgjkemlcgoaaDoorOut
import Derived.Test.YtmhcgjkemlcgoaaDoorLen
import Derived.Test.YtmhcgjkemlcgoaaDoorHold
import Derived.Test.YtmhcgjkemlcgoaaDoorCmp
import Derived.Test.YtmhcgjkemlcgoaaDoorTail
import Derived.Test.YtmhcgjkemlcgoaaDoorNum
namespace Go.Proofs.YtmhcgjkemlcgoaaDoor
open Go.RowKit

theorem twice_limbs (n : Int) : l0 (sumN n n) + 1 < 18446744073709551616 ∧ l0 (sumN n n + 1) = l0 (sumN n n) + 1 ∧ l1 (sumN n n + 1) = l1 (sumN n n) ∧ l2 (sumN n n + 1) = l2 (sumN n n) ∧ l3 (sumN n n + 1) = l3 (sumN n n) := by
  unfold sumN l0 l1 l2 l3
  refine ⟨by omega, by omega, by omega, by omega, by omega⟩

set_option maxHeartbeats 1000000 in
theorem twice_0 {n : Int} (hn : Num n) (w : World) :
    Calls Tryd.prog 36 #[.agg #[.int .u64 (l0 n), .int .u64 (l1 n), .int .u64 (l2 n), .int .u64 (l3 n)], .int .i64 0] w fun e w' => e = .returned (.tuple #[.agg #[.int .u64 (l0 (sumN n n)), .int .u64 (l1 (sumN n n)), .int .u64 (l2 (sumN n n)), .int .u64 (l3 (sumN n n))], .int .u64 (carN n n)]) ∧ Below w.heap.size w w' := by
  go_enter Tryd.func36, Tryd.ntmps36
  go_wp2_with fail
  refine calls_world (fun W => Below w.heap.size w W ∧ Blank W (w.heap.size + 1)) ⟨?_, Blank.new (by simp)⟩ ?_
  · repeat (first | with_reducible exact Below.refl _ _ | with_reducible refine Below.alloc ?_ (by first | omega | (simp; done) | (simp; omega)) _)
  rintro W ⟨B, hR⟩
  have o1 : w.heap.size ≤ w.heap.size + 1 := by omega
  generalize w.heap.size + 1 = br at *
  refine (radd_any hn hn _).mono ?_
  rintro e w1 ⟨rfl, hb⟩
  replace B := B.trans (hb.mono B.size)
  replace hR := hR.keep hb
  clear hb W
  have gR := fun o => (hR.alloc o).1.all4
  have fR := fun o => (hR.alloc o).2.all4
  go_wp2
  (try (go_region; go_wp2))
  simp [bodyPost, results, Tryd.results36, go_sem, gR]
  repeat (first | with_reducible exact B.alloc B.size _ | with_reducible refine Below.drew ?_ | with_reducible refine Below.setCell ?_ o1 _)

set_option maxHeartbeats 1000000 in
theorem twice_1 {n : Int} (hn : Num n) (w : World) :
    Calls Tryd.prog 36 #[.agg #[.int .u64 (l0 n), .int .u64 (l1 n), .int .u64 (l2 n), .int .u64 (l3 n)], .int .i64 1] w fun e w' => e = .returned (.tuple #[.agg #[.int .u64 (l0 (sumN n n + 1)), .int .u64 (l1 (sumN n n + 1)), .int .u64 (l2 (sumN n n + 1)), .int .u64 (l3 (sumN n n + 1))], .int .u64 (carN n n)]) ∧ Below w.heap.size w w' := by
  obtain ⟨t, e0, e1, e2, e3⟩ := twice_limbs n
  have t0 := (l0_word (sumN n n)).1
  rw [e0, e1, e2, e3]
  clear e0 e1 e2 e3
  go_enter Tryd.func36, Tryd.ntmps36
  go_wp2_with fail
  refine calls_world (fun W => Below w.heap.size w W ∧ Blank W (w.heap.size + 1)) ⟨?_, Blank.new (by simp)⟩ ?_
  · repeat (first | with_reducible exact Below.refl _ _ | with_reducible refine Below.alloc ?_ (by first | omega | (simp; done) | (simp; omega)) _)
  rintro W ⟨B, hR⟩
  have o1 : w.heap.size ≤ w.heap.size + 1 := by omega
  generalize w.heap.size + 1 = br at *
  refine (radd_any hn hn _).mono ?_
  rintro e w1 ⟨rfl, hb⟩
  replace B := B.trans (hb.mono B.size)
  replace hR := hR.keep hb
  clear hb W
  have gR := fun o => (hR.alloc o).1.all4
  have fR := fun o => (hR.alloc o).2.all4
  go_wp2
  (try (go_region; go_wp2))
  simp [bodyPost, results, Tryd.results36, go_sem, gR]
  repeat (first | with_reducible exact B.alloc B.size _ | with_reducible refine Below.drew ?_ | with_reducible refine Below.setCell ?_ o1 _)

end Go.Proofs.YtmhcgjkemlcgoaaDoor

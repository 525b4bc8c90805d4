import Derived.Test.YtncpjgpioajbeaaGreatDoorFNum
import Derived.Test.YtncpjgpioajbeaaGreatDoorVars
namespace Go.Proofs.YtncpjgpioajbeaaGreatDoor
open Go.RowKit

set_option maxHeartbeats 1000000 in
theorem once_any {m c n : Int} (hf : Fit m c) (hn : Num n) (w : World) :
    Calls Tryz.prog 87 #[.agg #[.int .u64 (l0 m), .int .u64 (l1 m), .int .u64 (l2 m), .int .u64 (l3 m), .int .u64 (l0 c), .int .u64 (l1 c), .int .u64 (l2 c), .int .u64 (l3 c)], .agg #[.int .u64 (l0 n), .int .u64 (l1 n), .int .u64 (l2 n), .int .u64 (l3 n)]] w fun e w' => e = .returned (.agg #[.int .u64 (l0 (modN m n)), .int .u64 (l1 (modN m n)), .int .u64 (l2 (modN m n)), .int .u64 (l3 (modN m n))]) ∧ Below w.heap.size w w' := by
  have hm := hf.num
  obtain ⟨q1, q2⟩ := once_num hf hn
  have key : (borN n m = 1 ∧ modN m n = n) ∨ (borN n m = 0 ∧ modN m n = difN n m) := by
    by_cases h : n < m
    · exact .inl ⟨by unfold borN; rw [if_pos h], q1 h⟩
    · exact .inr ⟨(q2 (by omega)).2, (q2 (by omega)).1⟩
  clear q1 q2
  rcases key with ⟨k1, k2⟩ | ⟨k1, k2⟩
  all_goals rw [k2]
  all_goals clear k2
  all_goals go_enter Tryz.func87, Tryz.ntmps87
  all_goals go_wp2_with fail
  all_goals refine calls_world (fun W => Below w.heap.size w W ∧ Hold W (w.heap.size + 1) n ∧ Blank W (w.heap.size + 1 + 1)) ⟨by repeat (first | with_reducible exact Below.refl _ _ | with_reducible refine Below.alloc ?_ (by first | omega | (simp; done) | (simp; omega)) _), (Hold.fresh (by simp)).alloc _, Blank.new (by simp)⟩ ?_
  all_goals rintro W ⟨B, hX, hR⟩
  all_goals have o1 : w.heap.size ≤ w.heap.size + 1 + 1 := by omega
  all_goals generalize w.heap.size + 1 + 1 = br at *
  all_goals generalize w.heap.size + 1 = bx at *
  all_goals with_reducible refine (sub_any hn hm _).mono ?_
  all_goals rintro e w1 ⟨rfl, hb⟩
  all_goals replace B := B.trans (hb.mono B.size)
  all_goals replace hR := hR.keep hb
  all_goals replace hX := hX.keep hb
  all_goals clear hb W
  all_goals have gX := hX.allocs
  all_goals have gR := fun o => (hR.alloc o).1.all4
  all_goals have fR := fun o => (hR.alloc o).2.all4
  all_goals have BB : Hid (∀ o, Below w.heap.size w (w1.alloc o)) := fun o => B.alloc B.size o
  all_goals clear B hX hR
  all_goals go_wp2
  all_goals simp [bodyPost, results, Tryz.results87, go_sem, *]
  all_goals repeat (first | with_reducible exact BB.out _ | with_reducible refine Below.drew ?_ | with_reducible refine Below.setCell ?_ (by with_reducible assumption) _)
end Go.Proofs.YtncpjgpioajbeaaGreatDoor

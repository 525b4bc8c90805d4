import Derived.Test.YtncpjgpioajbeaaGreatDoorCLift
import Derived.Test.YtncpjgpioajbeaaGreatDoorFRoots
import Derived.Test.YtncpjgpioajbeaaGreatDoorFRefX
import Derived.Test.YtncpjgpioajbeaaGreatDoorFRefY
namespace Go.Proofs.YtncpjgpioajbeaaGreatDoor
open Go.RowKit Go.Sort

set_option maxHeartbeats 2000000 in
theorem r5sub_any {x y : Int} (hx : Num x) (hy : Num y) (w : World) :
    Calls Tryz.prog 161 #[.agg #[.int .u64 (l0 x), .int .u64 (l1 x), .int .u64 (l2 x), .int .u64 (l3 x)], .agg #[.int .u64 (l0 y), .int .u64 (l1 y), .int .u64 (l2 y), .int .u64 (l3 y)]] w fun e w' => e = .returned (.agg #[.int .u64 (l0 (modN pN (x - y))), .int .u64 (l1 (modN pN (x - y))), .int .u64 (l2 (modN pN (x - y))), .int .u64 (l3 (modN pN (x - y)))]) ∧ Below w.heap.size w w' := by
  have C : Hid (∀ w, Calls Tryz.prog 168 #[.int .i64 0, .agg #[.int .u64 (l0 x), .int .u64 (l1 x), .int .u64 (l2 x), .int .u64 (l3 x)], .agg #[.int .u64 (l0 y), .int .u64 (l1 y), .int .u64 (l2 y), .int .u64 (l3 y)]] w fun e w' => e = .returned (.tuple #[.agg #[.int .u64 (l0 (modN pN (x - y))), .int .u64 (l1 (modN pN (x - y))), .int .u64 (l2 (modN pN (x - y))), .int .u64 (l3 (modN pN (x - y)))], .int .i64 0]) ∧ Below w.heap.size w w') := fun w => rSub_good (.inl rfl) hx hy w
  generalize modN pN (x - y) = r at *
  clear hx hy
  go_enter Tryz.func161, Tryz.ntmps161
  go_wp2_with fail
  refine calls_world (fun W => Below w.heap.size w W ∧ Blank W (w.heap.size + 1 + 1)) ⟨by repeat (first | with_reducible exact Below.refl _ _ | with_reducible refine Below.alloc ?_ (by first | omega | (simp; done) | (simp; omega)) _), Blank.new (by simp)⟩ ?_
  rintro W ⟨B, hR⟩
  have o3 : w.heap.size ≤ w.heap.size + 1 + 1 := by omega
  generalize w.heap.size + 1 + 1 = br at *
  with_reducible refine (C.out _).mono ?_
  rintro e w1 ⟨rfl, hb⟩
  replace B := B.trans (hb.mono B.size)
  replace hR := hR.keep hb
  have lr := hR.1.lt (by simp)
  have nr : w1.heap.size ≠ br := by omega
  have nr' := nr.symm
  clear hb W lr
  have gR := fun o => (hR.alloc o).1.all4
  have fR := fun o => (hR.alloc o).2.all4
  have BB : Hid (∀ o, Below w.heap.size w (w1.alloc o)) := fun o => B.alloc B.size o
  clear B hR
  go_wp2
  simp [bodyPost, results, Tryz.results161, go_sem, *]
  repeat (first | with_reducible exact BB.out _ | with_reducible refine Below.drew ?_ | with_reducible refine Below.setCell ?_ (by with_reducible assumption) _)

set_option maxHeartbeats 2000000 in
theorem r5mul_any {x y : Int} (hx : Num x) (hy : Num y) (w : World) :
    Calls Tryz.prog 140 #[.agg #[.int .u64 (l0 x), .int .u64 (l1 x), .int .u64 (l2 x), .int .u64 (l3 x)], .agg #[.int .u64 (l0 y), .int .u64 (l1 y), .int .u64 (l2 y), .int .u64 (l3 y)]] w fun e w' => e = .returned (.agg #[.int .u64 (l0 (modN pN (x * y))), .int .u64 (l1 (modN pN (x * y))), .int .u64 (l2 (modN pN (x * y))), .int .u64 (l3 (modN pN (x * y)))]) ∧ Below w.heap.size w w' := by
  have C : Hid (∀ w, Calls Tryz.prog 125 #[.int .i64 0, .agg #[.int .u64 (l0 x), .int .u64 (l1 x), .int .u64 (l2 x), .int .u64 (l3 x)], .agg #[.int .u64 (l0 y), .int .u64 (l1 y), .int .u64 (l2 y), .int .u64 (l3 y)]] w fun e w' => e = .returned (.tuple #[.agg #[.int .u64 (l0 (modN pN (x * y))), .int .u64 (l1 (modN pN (x * y))), .int .u64 (l2 (modN pN (x * y))), .int .u64 (l3 (modN pN (x * y)))], .int .i64 0]) ∧ Below w.heap.size w w') := fun w => rMul_good (.inl rfl) hx hy w
  generalize modN pN (x * y) = r at *
  clear hx hy
  go_enter Tryz.func140, Tryz.ntmps140
  go_wp2_with fail
  refine calls_world (fun W => Below w.heap.size w W ∧ Blank W (w.heap.size + 1 + 1)) ⟨by repeat (first | with_reducible exact Below.refl _ _ | with_reducible refine Below.alloc ?_ (by first | omega | (simp; done) | (simp; omega)) _), Blank.new (by simp)⟩ ?_
  rintro W ⟨B, hR⟩
  have o3 : w.heap.size ≤ w.heap.size + 1 + 1 := by omega
  generalize w.heap.size + 1 + 1 = br at *
  with_reducible refine (C.out _).mono ?_
  rintro e w1 ⟨rfl, hb⟩
  replace B := B.trans (hb.mono B.size)
  replace hR := hR.keep hb
  have lr := hR.1.lt (by simp)
  have nr : w1.heap.size ≠ br := by omega
  have nr' := nr.symm
  clear hb W lr
  have gR := fun o => (hR.alloc o).1.all4
  have fR := fun o => (hR.alloc o).2.all4
  have BB : Hid (∀ o, Below w.heap.size w (w1.alloc o)) := fun o => B.alloc B.size o
  clear B hR
  go_wp2
  simp [bodyPost, results, Tryz.results140, go_sem, *]
  repeat (first | with_reducible exact BB.out _ | with_reducible refine Below.drew ?_ | with_reducible refine Below.setCell ?_ (by with_reducible assumption) _)

end Go.Proofs.YtncpjgpioajbeaaGreatDoor

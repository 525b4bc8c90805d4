import Derived.Test.YtjppjieidjodfabDoorCRMul
import Derived.Test.YtjppjieidjodfabDoorCOps
namespace Go.Proofs.YtjppjieidjodfabDoor
open Go.RowKit Go.Sort

set_option maxRecDepth 100000 in
set_option maxHeartbeats 4000000 in
theorem r5over_walk {x y v r : Int} (CV : Hid (∀ w, Calls Tryd.prog 97 #[.int .i64 0, .agg #[.int .u64 (l0 y), .int .u64 (l1 y), .int .u64 (l2 y), .int .u64 (l3 y)]] w fun e w' => e = .returned (.tuple #[.agg #[.int .u64 (l0 v), .int .u64 (l1 v), .int .u64 (l2 v), .int .u64 (l3 v)], .int .i64 0]) ∧ Below w.heap.size w w')) (CM : Hid (∀ w, Calls Tryd.prog 53 #[.agg #[.int .u64 (l0 x), .int .u64 (l1 x), .int .u64 (l2 x), .int .u64 (l3 x)], .agg #[.int .u64 (l0 v), .int .u64 (l1 v), .int .u64 (l2 v), .int .u64 (l3 v)]] w fun e w' => e = .returned (.agg #[.int .u64 (l0 r), .int .u64 (l1 r), .int .u64 (l2 r), .int .u64 (l3 r)]) ∧ Below w.heap.size w w')) (w : World) :
    Calls Tryd.prog 87 #[.agg #[.int .u64 (l0 x), .int .u64 (l1 x), .int .u64 (l2 x), .int .u64 (l3 x)], .agg #[.int .u64 (l0 y), .int .u64 (l1 y), .int .u64 (l2 y), .int .u64 (l3 y)]] w fun e w' => e = .returned (.agg #[.int .u64 (l0 r), .int .u64 (l1 r), .int .u64 (l2 r), .int .u64 (l3 r)]) ∧ Below w.heap.size w w' := by
  go_enter Tryd.func87, Tryd.ntmps87
  go_wp2_with fail
  refine calls_world (fun W => Below w.heap.size w W ∧ Hold W w.heap.size x ∧ Blank W (w.heap.size + 1 + 1)) ⟨by repeat (first | with_reducible exact Below.refl _ _ | with_reducible refine Below.alloc ?_ (by first | omega | (simp; done) | (simp; omega)) _), ((Hold.new _ _ _).alloc _).alloc _, Blank.new (by simp)⟩ ?_
  rintro W ⟨B, hX, hR⟩
  have o3 : w.heap.size ≤ w.heap.size + 1 + 1 := by omega
  generalize w.heap.size + 1 + 1 = br at *
  with_reducible refine (CV.out _).mono ?_
  rintro e w1 ⟨rfl, hb⟩
  replace B := B.trans (hb.mono B.size)
  replace hX := hX.keep hb; replace hR := hR.keep hb
  clear hb W
  have ghX := hX.allocs
  go_wp2_with fail
  refine calls_world (fun W => Below w.heap.size w W ∧ Hold W w.heap.size x ∧ Blank W br ∧ Hold W w1.heap.size v) ⟨B.alloc B.size _, hX.alloc _, hR.alloc _, Hold.new _ _ _⟩ ?_
  clear B hX hR ghX
  rintro W ⟨B, hX, hR, hV⟩
  generalize w1.heap.size = bv at *
  with_reducible refine (CM.out _).mono ?_
  rintro e w9 ⟨rfl, hb⟩
  replace B := B.trans (hb.mono B.size)
  replace hX := hX.keep hb; replace hR := hR.keep hb; replace hV := hV.keep hb
  clear hb W hX hV
  have gR := hR.1.all4; have fR := hR.2.all4
  go_wp2
  simp [bodyPost, results, Tryd.results87, go_sem, *]
  repeat (first | with_reducible exact B | with_reducible refine Below.setCell ?_ o3 _)

set_option maxRecDepth 100000 in
set_option maxHeartbeats 4000000 in
theorem r5plus_l {x y x2 y2 : Int} {i2 : Bool} (w : World) :
    Calls Tryd.prog 47 #[.agg #[.int .u64 (l0 x), .int .u64 (l1 x), .int .u64 (l2 x), .int .u64 (l3 x), .int .u64 (l0 y), .int .u64 (l1 y), .int .u64 (l2 y), .int .u64 (l3 y), .bool true], .agg #[.int .u64 (l0 x2), .int .u64 (l1 x2), .int .u64 (l2 x2), .int .u64 (l3 x2), .int .u64 (l0 y2), .int .u64 (l1 y2), .int .u64 (l2 y2), .int .u64 (l3 y2), .bool i2]] w fun e w' => e = .returned (.agg #[.int .u64 (l0 x2), .int .u64 (l1 x2), .int .u64 (l2 x2), .int .u64 (l3 x2), .int .u64 (l0 y2), .int .u64 (l1 y2), .int .u64 (l2 y2), .int .u64 (l3 y2), .bool i2]) ∧ Below w.heap.size w w' := by
  go_enter Tryd.func47, Tryd.ntmps47
  go_wp2
  simp [bodyPost, results, Tryd.results47, go_sem]
  repeat (first | with_reducible exact Below.refl _ _ | with_reducible refine Below.alloc ?_ (by first | omega | (simp; done) | (simp; omega)) _ | with_reducible refine Below.setCell ?_ (by first | omega | (simp; done) | (simp; omega)) _)

set_option maxRecDepth 100000 in
set_option maxHeartbeats 4000000 in
theorem r5plus_r {x y x2 y2 : Int} (w : World) :
    Calls Tryd.prog 47 #[.agg #[.int .u64 (l0 x), .int .u64 (l1 x), .int .u64 (l2 x), .int .u64 (l3 x), .int .u64 (l0 y), .int .u64 (l1 y), .int .u64 (l2 y), .int .u64 (l3 y), .bool false], .agg #[.int .u64 (l0 x2), .int .u64 (l1 x2), .int .u64 (l2 x2), .int .u64 (l3 x2), .int .u64 (l0 y2), .int .u64 (l1 y2), .int .u64 (l2 y2), .int .u64 (l3 y2), .bool true]] w fun e w' => e = .returned (.agg #[.int .u64 (l0 x), .int .u64 (l1 x), .int .u64 (l2 x), .int .u64 (l3 x), .int .u64 (l0 y), .int .u64 (l1 y), .int .u64 (l2 y), .int .u64 (l3 y), .bool false]) ∧ Below w.heap.size w w' := by
  go_enter Tryd.func47, Tryd.ntmps47
  go_wp2
  simp [bodyPost, results, Tryd.results47, go_sem]
  repeat (first | with_reducible exact Below.refl _ _ | with_reducible refine Below.alloc ?_ (by first | omega | (simp; done) | (simp; omega)) _ | with_reducible refine Below.setCell ?_ (by first | omega | (simp; done) | (simp; omega)) _)

set_option maxRecDepth 100000 in
set_option maxHeartbeats 4000000 in
theorem r5plus_opp {x y x2 y2 n : Int} (CN : Hid (∀ w, Calls Tryd.prog 42 #[.agg #[.int .u64 (l0 x), .int .u64 (l1 x), .int .u64 (l2 x), .int .u64 (l3 x), .int .u64 (l0 y), .int .u64 (l1 y), .int .u64 (l2 y), .int .u64 (l3 y), .bool false]] w fun e w' => e = .returned (.agg #[.int .u64 (l0 x), .int .u64 (l1 x), .int .u64 (l2 x), .int .u64 (l3 x), .int .u64 (l0 n), .int .u64 (l1 n), .int .u64 (l2 n), .int .u64 (l3 n), .bool false]) ∧ Below w.heap.size w w')) (E5 : ∀ w, (Op.equalIn 10000 26 (.agg #[.int .u64 (l0 x2), .int .u64 (l1 x2), .int .u64 (l2 x2), .int .u64 (l3 x2), .int .u64 (l0 y2), .int .u64 (l1 y2), .int .u64 (l2 y2), .int .u64 (l3 y2), .bool false]) (.agg #[.int .u64 (l0 x), .int .u64 (l1 x), .int .u64 (l2 x), .int .u64 (l3 x), .int .u64 (l0 n), .int .u64 (l1 n), .int .u64 (l2 n), .int .u64 (l3 n), .bool false])).run Tryd.prog w = .ok true w) (CI : Hid (∀ w, Calls Tryd.prog 46 #[] w fun e w' => e = .returned (.agg #[.int .u64 (l0 0), .int .u64 (l1 0), .int .u64 (l2 0), .int .u64 (l3 0), .int .u64 (l0 0), .int .u64 (l1 0), .int .u64 (l2 0), .int .u64 (l3 0), .bool true]) ∧ Below w.heap.size w w')) (w : World) :
    Calls Tryd.prog 47 #[.agg #[.int .u64 (l0 x), .int .u64 (l1 x), .int .u64 (l2 x), .int .u64 (l3 x), .int .u64 (l0 y), .int .u64 (l1 y), .int .u64 (l2 y), .int .u64 (l3 y), .bool false], .agg #[.int .u64 (l0 x2), .int .u64 (l1 x2), .int .u64 (l2 x2), .int .u64 (l3 x2), .int .u64 (l0 y2), .int .u64 (l1 y2), .int .u64 (l2 y2), .int .u64 (l3 y2), .bool false]] w fun e w' => e = .returned (.agg #[.int .u64 (l0 0), .int .u64 (l1 0), .int .u64 (l2 0), .int .u64 (l3 0), .int .u64 (l0 0), .int .u64 (l1 0), .int .u64 (l2 0), .int .u64 (l3 0), .bool true]) ∧ Below w.heap.size w w' := by
  go_enter Tryd.func47, Tryd.ntmps47
  go_wp2_with fail
  refine wp_world (fun W => Below w.heap.size w W ∧ Pnt W w.heap.size x y false ∧ Pnt W (w.heap.size + 1) x2 y2 false ∧ Bk9 W (w.heap.size + 1 + 1)) ⟨by repeat (first | with_reducible exact Below.refl _ _ | with_reducible refine Below.alloc ?_ (by first | omega | (simp; done) | (simp; omega)) _), ((Pnt.new rfl).alloc _).alloc _, (Pnt.new (by simp)).alloc _, Bk9.new (by simp)⟩ ?_
  rintro W ⟨B, hP, hQ, hR⟩
  have o3 : w.heap.size ≤ w.heap.size + 1 + 1 := by omega
  generalize w.heap.size + 1 + 1 = br at *
  generalize w.heap.size + 1 = bq at *
  have ghP := hP.grown
  have ghQ := hQ.grown
  refine wp_region_quiet_below (by kernel_rfl) (by kernel_rfl) ?_
  repeat
    first
      | go_big_quiet_skip
      | (go_big_quiet_want; go_big_quiet_op; go_big_quiet_on)
      | (go_big_quiet_want
         go_big_quiet_op
         apply Exists.intro
         refine ⟨fun p => ?_, ?_⟩
         · (first | (go_at_call 42; with_reducible exact Calls.regrown_of (CN.out _)))
         go_big_quiet_on)
  refine wpQuiet_nil ?_
  rintro w1 ⟨p, rfl⟩
  have hb := below_regrown W p.d p.os
  generalize grow (redrawn W p.d) p.os = w1 at *
  replace B := B.trans (hb.mono B.size)
  replace hP := hP.keep hb; replace hQ := hQ.keep hb; replace hR := hR.keep hb
  clear hb W ghP ghQ 
  go_wp2_with fail
  refine calls_world (fun W => Below w.heap.size w W ∧ Bk9 W br) ⟨B, hR⟩ ?_
  clear B hP hQ hR
  rintro W ⟨B, hR⟩
  with_reducible refine (CI.out _).mono ?_
  rintro e w9 ⟨rfl, hb⟩
  replace B := B.trans (hb.mono B.size)
  replace hR := hR.keep hb
  clear hb W
  have gR := hR.cells; have fR := hR.free
  go_wp2
  simp [bodyPost, results, Tryd.results47, go_sem, gR]
  repeat (first | with_reducible exact B | with_reducible refine Below.setCell ?_ o3 _)

set_option maxRecDepth 100000 in
set_option maxHeartbeats 8000000 in
theorem r5plus_tan {x y x2 y2 n m a c u dd e1 v b1 b2 b3 : Int} (CN : Hid (∀ w, Calls Tryd.prog 42 #[.agg #[.int .u64 (l0 x), .int .u64 (l1 x), .int .u64 (l2 x), .int .u64 (l3 x), .int .u64 (l0 y), .int .u64 (l1 y), .int .u64 (l2 y), .int .u64 (l3 y), .bool false]] w fun e w' => e = .returned (.agg #[.int .u64 (l0 x), .int .u64 (l1 x), .int .u64 (l2 x), .int .u64 (l3 x), .int .u64 (l0 n), .int .u64 (l1 n), .int .u64 (l2 n), .int .u64 (l3 n), .bool false]) ∧ Below w.heap.size w w')) (E5 : ∀ w, (Op.equalIn 10000 26 (.agg #[.int .u64 (l0 x2), .int .u64 (l1 x2), .int .u64 (l2 x2), .int .u64 (l3 x2), .int .u64 (l0 y2), .int .u64 (l1 y2), .int .u64 (l2 y2), .int .u64 (l3 y2), .bool false]) (.agg #[.int .u64 (l0 x), .int .u64 (l1 x), .int .u64 (l2 x), .int .u64 (l3 x), .int .u64 (l0 n), .int .u64 (l1 n), .int .u64 (l2 n), .int .u64 (l3 n), .bool false])).run Tryd.prog w = .ok false w) (E8 : ∀ w, (Op.equalIn 10000 26 (.agg #[.int .u64 (l0 x), .int .u64 (l1 x), .int .u64 (l2 x), .int .u64 (l3 x), .int .u64 (l0 y), .int .u64 (l1 y), .int .u64 (l2 y), .int .u64 (l3 y), .bool false]) (.agg #[.int .u64 (l0 x2), .int .u64 (l1 x2), .int .u64 (l2 x2), .int .u64 (l3 x2), .int .u64 (l0 y2), .int .u64 (l1 y2), .int .u64 (l2 y2), .int .u64 (l3 y2), .bool false])).run Tryd.prog w = .ok true w)
    (B1 : Hid (∀ w, Calls Tryd.prog 53 #[.agg #[.int .u64 (l0 x), .int .u64 (l1 x), .int .u64 (l2 x), .int .u64 (l3 x)], .agg #[.int .u64 (l0 x), .int .u64 (l1 x), .int .u64 (l2 x), .int .u64 (l3 x)]] w fun e w' => e = .returned (.agg #[.int .u64 (l0 b1), .int .u64 (l1 b1), .int .u64 (l2 b1), .int .u64 (l3 b1)]) ∧ Below w.heap.size w w')) (B2 : Hid (∀ w, Calls Tryd.prog 88 #[.int .u64 3, .agg #[.int .u64 (l0 b1), .int .u64 (l1 b1), .int .u64 (l2 b1), .int .u64 (l3 b1)]] w fun e w' => e = .returned (.agg #[.int .u64 (l0 b2), .int .u64 (l1 b2), .int .u64 (l2 b2), .int .u64 (l3 b2)]) ∧ Below w.heap.size w w')) (B3 : Hid (∀ w, Calls Tryd.prog 88 #[.int .u64 2, .agg #[.int .u64 (l0 y), .int .u64 (l1 y), .int .u64 (l2 y), .int .u64 (l3 y)]] w fun e w' => e = .returned (.agg #[.int .u64 (l0 b3), .int .u64 (l1 b3), .int .u64 (l2 b3), .int .u64 (l3 b3)]) ∧ Below w.heap.size w w')) (B4 : Hid (∀ w, Calls Tryd.prog 87 #[.agg #[.int .u64 (l0 b2), .int .u64 (l1 b2), .int .u64 (l2 b2), .int .u64 (l3 b2)], .agg #[.int .u64 (l0 b3), .int .u64 (l1 b3), .int .u64 (l2 b3), .int .u64 (l3 b3)]] w fun e w' => e = .returned (.agg #[.int .u64 (l0 m), .int .u64 (l1 m), .int .u64 (l2 m), .int .u64 (l3 m)]) ∧ Below w.heap.size w w')) (A1 : Hid (∀ w, Calls Tryd.prog 53 #[.agg #[.int .u64 (l0 m), .int .u64 (l1 m), .int .u64 (l2 m), .int .u64 (l3 m)], .agg #[.int .u64 (l0 m), .int .u64 (l1 m), .int .u64 (l2 m), .int .u64 (l3 m)]] w fun e w' => e = .returned (.agg #[.int .u64 (l0 a), .int .u64 (l1 a), .int .u64 (l2 a), .int .u64 (l3 a)]) ∧ Below w.heap.size w w')) (A2 : Hid (∀ w, Calls Tryd.prog 82 #[.agg #[.int .u64 (l0 a), .int .u64 (l1 a), .int .u64 (l2 a), .int .u64 (l3 a)], .agg #[.int .u64 (l0 x), .int .u64 (l1 x), .int .u64 (l2 x), .int .u64 (l3 x)]] w fun e w' => e = .returned (.agg #[.int .u64 (l0 c), .int .u64 (l1 c), .int .u64 (l2 c), .int .u64 (l3 c)]) ∧ Below w.heap.size w w')) (A3 : Hid (∀ w, Calls Tryd.prog 82 #[.agg #[.int .u64 (l0 c), .int .u64 (l1 c), .int .u64 (l2 c), .int .u64 (l3 c)], .agg #[.int .u64 (l0 x2), .int .u64 (l1 x2), .int .u64 (l2 x2), .int .u64 (l3 x2)]] w fun e w' => e = .returned (.agg #[.int .u64 (l0 u), .int .u64 (l1 u), .int .u64 (l2 u), .int .u64 (l3 u)]) ∧ Below w.heap.size w w')) (A4 : Hid (∀ w, Calls Tryd.prog 82 #[.agg #[.int .u64 (l0 x), .int .u64 (l1 x), .int .u64 (l2 x), .int .u64 (l3 x)], .agg #[.int .u64 (l0 u), .int .u64 (l1 u), .int .u64 (l2 u), .int .u64 (l3 u)]] w fun e w' => e = .returned (.agg #[.int .u64 (l0 dd), .int .u64 (l1 dd), .int .u64 (l2 dd), .int .u64 (l3 dd)]) ∧ Below w.heap.size w w')) (A5 : Hid (∀ w, Calls Tryd.prog 53 #[.agg #[.int .u64 (l0 m), .int .u64 (l1 m), .int .u64 (l2 m), .int .u64 (l3 m)], .agg #[.int .u64 (l0 dd), .int .u64 (l1 dd), .int .u64 (l2 dd), .int .u64 (l3 dd)]] w fun e w' => e = .returned (.agg #[.int .u64 (l0 e1), .int .u64 (l1 e1), .int .u64 (l2 e1), .int .u64 (l3 e1)]) ∧ Below w.heap.size w w')) (A6 : Hid (∀ w, Calls Tryd.prog 82 #[.agg #[.int .u64 (l0 e1), .int .u64 (l1 e1), .int .u64 (l2 e1), .int .u64 (l3 e1)], .agg #[.int .u64 (l0 y), .int .u64 (l1 y), .int .u64 (l2 y), .int .u64 (l3 y)]] w fun e w' => e = .returned (.agg #[.int .u64 (l0 v), .int .u64 (l1 v), .int .u64 (l2 v), .int .u64 (l3 v)]) ∧ Below w.heap.size w w')) (w : World) :
    Calls Tryd.prog 47 #[.agg #[.int .u64 (l0 x), .int .u64 (l1 x), .int .u64 (l2 x), .int .u64 (l3 x), .int .u64 (l0 y), .int .u64 (l1 y), .int .u64 (l2 y), .int .u64 (l3 y), .bool false], .agg #[.int .u64 (l0 x2), .int .u64 (l1 x2), .int .u64 (l2 x2), .int .u64 (l3 x2), .int .u64 (l0 y2), .int .u64 (l1 y2), .int .u64 (l2 y2), .int .u64 (l3 y2), .bool false]] w fun e w' => e = .returned (.agg #[.int .u64 (l0 u), .int .u64 (l1 u), .int .u64 (l2 u), .int .u64 (l3 u), .int .u64 (l0 v), .int .u64 (l1 v), .int .u64 (l2 v), .int .u64 (l3 v), .bool false]) ∧ Below w.heap.size w w' := by
  go_enter Tryd.func47, Tryd.ntmps47
  go_wp2_with fail
  refine wp_world (fun W => Below w.heap.size w W ∧ Pnt W w.heap.size x y false ∧ Pnt W (w.heap.size + 1) x2 y2 false ∧ Bk9 W (w.heap.size + 1 + 1)) ⟨by repeat (first | with_reducible exact Below.refl _ _ | with_reducible refine Below.alloc ?_ (by first | omega | (simp; done) | (simp; omega)) _), ((Pnt.new rfl).alloc _).alloc _, (Pnt.new (by simp)).alloc _, Bk9.new (by simp)⟩ ?_
  rintro W ⟨B, hP, hQ, hR⟩
  have o3 : w.heap.size ≤ w.heap.size + 1 + 1 := by omega
  generalize w.heap.size + 1 + 1 = br at *
  generalize w.heap.size + 1 = bq at *
  have ghP := hP.grown
  have ghQ := hQ.grown
  refine wp_region_quiet_below (by kernel_rfl) (by kernel_rfl) ?_
  repeat
    first
      | go_big_quiet_skip
      | (go_big_quiet_want; go_big_quiet_op; go_big_quiet_on)
      | (go_big_quiet_want
         go_big_quiet_op
         apply Exists.intro
         refine ⟨fun p => ?_, ?_⟩
         · (first | (go_at_call 42; with_reducible exact Calls.regrown_of (CN.out _)))
         go_big_quiet_on)
  refine wpQuiet_nil ?_
  rintro w1 ⟨p, rfl⟩
  have hb := below_regrown W p.d p.os
  generalize grow (redrawn W p.d) p.os = w1 at *
  replace B := B.trans (hb.mono B.size)
  replace hP := hP.keep hb; replace hQ := hQ.keep hb; replace hR := hR.keep hb
  clear hb W ghP ghQ 
  have ghP := fun o => (hP.alloc o).cells
  have ghQ := fun o => (hQ.alloc o).cells
  go_wp2_with fail
  refine wp_world (fun W => Below w.heap.size w W ∧ Pnt W w.heap.size x y false ∧ Pnt W bq x2 y2 false ∧ Bk9 W br ∧ Blank W w1.heap.size) ⟨B.alloc B.size _, hP.alloc _, hQ.alloc _, hR.alloc _, Blank.new rfl⟩ ?_
  have np : w1.heap.size ≠ w.heap.size := Nat.ne_of_gt hP.lt
  have nq : w1.heap.size ≠ bq := Nat.ne_of_gt hQ.lt
  have nr : w1.heap.size ≠ br := Nat.ne_of_gt hR.lt
  have gm : w.heap.size ≤ w1.heap.size := B.size
  clear B hP hQ hR ghP ghQ
  generalize w1.heap.size = bm at *
  clear w1
  rintro W ⟨B, hP, hQ, hR, hM⟩
  have ghP := hP.grown
  have ghQ := hQ.grown
  refine below_tail 10 (by kernel_rfl) (by kernel_rfl) ?_
  simp only [List.take_succ_cons, List.take_zero, List.drop_succ_cons, List.drop_zero]
  repeat
    first
      | go_big_quiet_skip
      | (go_big_quiet_want; go_big_quiet_op; go_big_quiet_on)
      | (go_big_quiet_want
         go_big_quiet_op
         apply Exists.intro
         refine ⟨fun p => ?_, ?_⟩
         · (first | (go_at_call 53; with_reducible exact Calls.regrown_of (B1.out _)) | (go_at_call 88; with_reducible exact Calls.regrown_of (B2.out _)) | (go_at_call 88; with_reducible exact Calls.regrown_of (B3.out _)) | (go_at_call 87; with_reducible exact Calls.regrown_of (B4.out _)))
         go_big_quiet_on)
  refine wpQuiet_nil ?_
  rintro w2 ⟨p, rfl⟩
  have hb := below_regrown W p.d p.os
  generalize grow (redrawn W p.d) p.os = w2 at *
  replace B := B.trans (hb.mono B.size)
  replace hP := hP.keep hb; replace hQ := hQ.keep hb; replace hR := hR.keep hb; replace hM := hM.keep hb
  clear hb W ghP ghQ 
  have gM := hM.1.all4; have fM := hM.2.all4
  go_wp2_with fail
  refine wp_world (fun W => Below w.heap.size w W ∧ Pnt W w.heap.size x y false ∧ Pnt W bq x2 y2 false ∧ Bk9 W br ∧ Hold W bm m) ⟨below_set4 B gm _ _ _ _, hP.set4 np _ _ _ _, hQ.set4 nq _ _ _ _, hR.set4 nr _ _ _ _, Hold.sets4 (Blank.has hM)⟩ ?_
  clear B hP hQ hR hM gM fM np nq nr gm
  clear w2
  rintro W ⟨B, hP, hQ, hR, hM⟩
  refine alloc_tail (A := ?AA1) 9 (by kernel_rfl) (by kernel_rfl) rfl rfl (alloc_num _ _ _) (fun V hV => ?HH1) (fun V w1 hV hw => ?TT1)
  case HH1 =>
    have ghP := (hP.keep hV).grown
    have ghQ := (hQ.keep hV).grown
    have ghM := (hM.keep hV).grown
    unfold Gr
    simp only [List.take_succ_cons, List.take_zero]
    repeat
      first
        | go_big_quiet_skip
        | (go_big_quiet_want; go_big_quiet_op; go_big_quiet_on)
        | (go_big_quiet_want
           go_big_quiet_op
           apply Exists.intro
           refine ⟨fun p => ?_, ?_⟩
           · (first | (go_at_call 53; with_reducible exact Calls.regrown_of (A1.out _)) | (go_at_call 82; with_reducible exact Calls.regrown_of (A2.out _)) | (go_at_call 82; with_reducible exact Calls.regrown_of (A3.out _)))
           go_big_quiet_on)
    refine wpQuiet_nil ?_
    exact rfl
  case TT1 =>
    have hb := alloc_below hV hw
    have hN := (Blank.new rfl).keep hw
    have nhP : V.heap.size ≠ w.heap.size := Nat.ne_of_gt (Nat.lt_of_lt_of_le (hP.lt) hV.size)
    have nhQ : V.heap.size ≠ bq := Nat.ne_of_gt (Nat.lt_of_lt_of_le (hQ.lt) hV.size)
    have nhR : V.heap.size ≠ br := Nat.ne_of_gt (Nat.lt_of_lt_of_le (hR.lt) hV.size)
    have nhM : V.heap.size ≠ bm := Nat.ne_of_gt (Nat.lt_of_lt_of_le (World.block_lt_of_cell? _ _ hM.1) hV.size)
    have gn : w.heap.size ≤ V.heap.size := Nat.le_trans B.size hV.size
    replace B := B.trans (hb.mono B.size)
    replace hP := hP.keep hb; replace hQ := hQ.keep hb; replace hR := hR.keep hb; replace hM := hM.keep hb
    clear hb hw hV W
    generalize V.heap.size = bx at *
    clear V
    have gN := hN.1.all4; have qN := hN.2.all4
    have mhP := nhP.symm
    have mhQ := nhQ.symm
    have mhR := nhR.symm
    have mhM := nhM.symm
    simp only [List.drop_succ_cons, List.drop_zero, Act.put, List.setIfInBounds_toArray, List.set_cons_zero, List.set_cons_succ]
    go_wp2_with fail
    refine wp_world (fun W => Below w.heap.size w W ∧ Pnt W w.heap.size x y false ∧ Pnt W bq x2 y2 false ∧ Bk9 W br ∧ Hold W bm m ∧ Hold W bx u) ⟨below_set4 B gn _ _ _ _, hP.set4 nhP _ _ _ _, hQ.set4 nhQ _ _ _ _, hR.set4 nhR _ _ _ _, hM.set4 nhM _ _ _ _, Hold.sets4 (Blank.has hN)⟩ ?_
    clear B hN gN qN hP hQ hR hM nhP mhP nhQ mhQ nhR mhR nhM mhM  gn
    rintro W ⟨B, hP, hQ, hR, hM, hX⟩
    clear w1
    clear hQ
    refine alloc_tail (A := ?AA2) 9 (by kernel_rfl) (by kernel_rfl) rfl rfl (alloc_num _ _ _) (fun V hV => ?HH2) (fun V w1 hV hw => ?TT2)
    case HH2 =>
      have ghP := (hP.keep hV).grown
      have ghM := (hM.keep hV).grown
      have ghX := (hX.keep hV).grown
      unfold Gr
      simp only [List.take_succ_cons, List.take_zero]
      repeat
        first
          | go_big_quiet_skip
          | (go_big_quiet_want; go_big_quiet_op; go_big_quiet_on)
          | (go_big_quiet_want
             go_big_quiet_op
             apply Exists.intro
             refine ⟨fun p => ?_, ?_⟩
             · (first | (go_at_call 82; with_reducible exact Calls.regrown_of (A4.out _)) | (go_at_call 53; with_reducible exact Calls.regrown_of (A5.out _)) | (go_at_call 82; with_reducible exact Calls.regrown_of (A6.out _)))
             go_big_quiet_on)
      refine wpQuiet_nil ?_
      exact rfl
    case TT2 =>
      have hb := alloc_below hV hw
      have hN := (Blank.new rfl).keep hw
      have nhP : V.heap.size ≠ w.heap.size := Nat.ne_of_gt (Nat.lt_of_lt_of_le (hP.lt) hV.size)
      have nhR : V.heap.size ≠ br := Nat.ne_of_gt (Nat.lt_of_lt_of_le (hR.lt) hV.size)
      have nhM : V.heap.size ≠ bm := Nat.ne_of_gt (Nat.lt_of_lt_of_le (World.block_lt_of_cell? _ _ hM.1) hV.size)
      have nhX : V.heap.size ≠ bx := Nat.ne_of_gt (Nat.lt_of_lt_of_le (World.block_lt_of_cell? _ _ hX.1) hV.size)
      have gn : w.heap.size ≤ V.heap.size := Nat.le_trans B.size hV.size
      replace B := B.trans (hb.mono B.size)
      replace hP := hP.keep hb; replace hR := hR.keep hb; replace hM := hM.keep hb; replace hX := hX.keep hb
      clear hb hw hV W
      generalize V.heap.size = by1 at *
      clear V
      have gN := hN.1.all4; have qN := hN.2.all4
      have ghX := hX.cells
      have ghR := hR.cells; have qhR := hR.free
      have mhP := nhP.symm
      have mhR := nhR.symm
      have mhM := nhM.symm
      have mhX := nhX.symm
      simp only [List.drop_succ_cons, List.drop_zero, Act.put, List.setIfInBounds_toArray, List.set_cons_zero, List.set_cons_succ]
      go_wp2
      simp [bodyPost, results, Tryd.results47, go_sem, *]
      repeat (first | with_reducible exact B | with_reducible refine Below.setCell ?_ o3 _ | with_reducible refine Below.setCell ?_ gn _)

set_option maxRecDepth 100000 in
set_option maxHeartbeats 8000000 in
theorem r5plus_cho {x y x2 y2 n m a c u dd e1 v b1 b2 : Int} (CN : Hid (∀ w, Calls Tryd.prog 42 #[.agg #[.int .u64 (l0 x), .int .u64 (l1 x), .int .u64 (l2 x), .int .u64 (l3 x), .int .u64 (l0 y), .int .u64 (l1 y), .int .u64 (l2 y), .int .u64 (l3 y), .bool false]] w fun e w' => e = .returned (.agg #[.int .u64 (l0 x), .int .u64 (l1 x), .int .u64 (l2 x), .int .u64 (l3 x), .int .u64 (l0 n), .int .u64 (l1 n), .int .u64 (l2 n), .int .u64 (l3 n), .bool false]) ∧ Below w.heap.size w w')) (E5 : ∀ w, (Op.equalIn 10000 26 (.agg #[.int .u64 (l0 x2), .int .u64 (l1 x2), .int .u64 (l2 x2), .int .u64 (l3 x2), .int .u64 (l0 y2), .int .u64 (l1 y2), .int .u64 (l2 y2), .int .u64 (l3 y2), .bool false]) (.agg #[.int .u64 (l0 x), .int .u64 (l1 x), .int .u64 (l2 x), .int .u64 (l3 x), .int .u64 (l0 n), .int .u64 (l1 n), .int .u64 (l2 n), .int .u64 (l3 n), .bool false])).run Tryd.prog w = .ok false w) (E8 : ∀ w, (Op.equalIn 10000 26 (.agg #[.int .u64 (l0 x), .int .u64 (l1 x), .int .u64 (l2 x), .int .u64 (l3 x), .int .u64 (l0 y), .int .u64 (l1 y), .int .u64 (l2 y), .int .u64 (l3 y), .bool false]) (.agg #[.int .u64 (l0 x2), .int .u64 (l1 x2), .int .u64 (l2 x2), .int .u64 (l3 x2), .int .u64 (l0 y2), .int .u64 (l1 y2), .int .u64 (l2 y2), .int .u64 (l3 y2), .bool false])).run Tryd.prog w = .ok false w)
    (B1 : Hid (∀ w, Calls Tryd.prog 82 #[.agg #[.int .u64 (l0 y2), .int .u64 (l1 y2), .int .u64 (l2 y2), .int .u64 (l3 y2)], .agg #[.int .u64 (l0 y), .int .u64 (l1 y), .int .u64 (l2 y), .int .u64 (l3 y)]] w fun e w' => e = .returned (.agg #[.int .u64 (l0 b1), .int .u64 (l1 b1), .int .u64 (l2 b1), .int .u64 (l3 b1)]) ∧ Below w.heap.size w w')) (B2 : Hid (∀ w, Calls Tryd.prog 82 #[.agg #[.int .u64 (l0 x2), .int .u64 (l1 x2), .int .u64 (l2 x2), .int .u64 (l3 x2)], .agg #[.int .u64 (l0 x), .int .u64 (l1 x), .int .u64 (l2 x), .int .u64 (l3 x)]] w fun e w' => e = .returned (.agg #[.int .u64 (l0 b2), .int .u64 (l1 b2), .int .u64 (l2 b2), .int .u64 (l3 b2)]) ∧ Below w.heap.size w w')) (B4 : Hid (∀ w, Calls Tryd.prog 87 #[.agg #[.int .u64 (l0 b1), .int .u64 (l1 b1), .int .u64 (l2 b1), .int .u64 (l3 b1)], .agg #[.int .u64 (l0 b2), .int .u64 (l1 b2), .int .u64 (l2 b2), .int .u64 (l3 b2)]] w fun e w' => e = .returned (.agg #[.int .u64 (l0 m), .int .u64 (l1 m), .int .u64 (l2 m), .int .u64 (l3 m)]) ∧ Below w.heap.size w w')) (A1 : Hid (∀ w, Calls Tryd.prog 53 #[.agg #[.int .u64 (l0 m), .int .u64 (l1 m), .int .u64 (l2 m), .int .u64 (l3 m)], .agg #[.int .u64 (l0 m), .int .u64 (l1 m), .int .u64 (l2 m), .int .u64 (l3 m)]] w fun e w' => e = .returned (.agg #[.int .u64 (l0 a), .int .u64 (l1 a), .int .u64 (l2 a), .int .u64 (l3 a)]) ∧ Below w.heap.size w w')) (A2 : Hid (∀ w, Calls Tryd.prog 82 #[.agg #[.int .u64 (l0 a), .int .u64 (l1 a), .int .u64 (l2 a), .int .u64 (l3 a)], .agg #[.int .u64 (l0 x), .int .u64 (l1 x), .int .u64 (l2 x), .int .u64 (l3 x)]] w fun e w' => e = .returned (.agg #[.int .u64 (l0 c), .int .u64 (l1 c), .int .u64 (l2 c), .int .u64 (l3 c)]) ∧ Below w.heap.size w w')) (A3 : Hid (∀ w, Calls Tryd.prog 82 #[.agg #[.int .u64 (l0 c), .int .u64 (l1 c), .int .u64 (l2 c), .int .u64 (l3 c)], .agg #[.int .u64 (l0 x2), .int .u64 (l1 x2), .int .u64 (l2 x2), .int .u64 (l3 x2)]] w fun e w' => e = .returned (.agg #[.int .u64 (l0 u), .int .u64 (l1 u), .int .u64 (l2 u), .int .u64 (l3 u)]) ∧ Below w.heap.size w w')) (A4 : Hid (∀ w, Calls Tryd.prog 82 #[.agg #[.int .u64 (l0 x), .int .u64 (l1 x), .int .u64 (l2 x), .int .u64 (l3 x)], .agg #[.int .u64 (l0 u), .int .u64 (l1 u), .int .u64 (l2 u), .int .u64 (l3 u)]] w fun e w' => e = .returned (.agg #[.int .u64 (l0 dd), .int .u64 (l1 dd), .int .u64 (l2 dd), .int .u64 (l3 dd)]) ∧ Below w.heap.size w w')) (A5 : Hid (∀ w, Calls Tryd.prog 53 #[.agg #[.int .u64 (l0 m), .int .u64 (l1 m), .int .u64 (l2 m), .int .u64 (l3 m)], .agg #[.int .u64 (l0 dd), .int .u64 (l1 dd), .int .u64 (l2 dd), .int .u64 (l3 dd)]] w fun e w' => e = .returned (.agg #[.int .u64 (l0 e1), .int .u64 (l1 e1), .int .u64 (l2 e1), .int .u64 (l3 e1)]) ∧ Below w.heap.size w w')) (A6 : Hid (∀ w, Calls Tryd.prog 82 #[.agg #[.int .u64 (l0 e1), .int .u64 (l1 e1), .int .u64 (l2 e1), .int .u64 (l3 e1)], .agg #[.int .u64 (l0 y), .int .u64 (l1 y), .int .u64 (l2 y), .int .u64 (l3 y)]] w fun e w' => e = .returned (.agg #[.int .u64 (l0 v), .int .u64 (l1 v), .int .u64 (l2 v), .int .u64 (l3 v)]) ∧ Below w.heap.size w w')) (w : World) :
    Calls Tryd.prog 47 #[.agg #[.int .u64 (l0 x), .int .u64 (l1 x), .int .u64 (l2 x), .int .u64 (l3 x), .int .u64 (l0 y), .int .u64 (l1 y), .int .u64 (l2 y), .int .u64 (l3 y), .bool false], .agg #[.int .u64 (l0 x2), .int .u64 (l1 x2), .int .u64 (l2 x2), .int .u64 (l3 x2), .int .u64 (l0 y2), .int .u64 (l1 y2), .int .u64 (l2 y2), .int .u64 (l3 y2), .bool false]] w fun e w' => e = .returned (.agg #[.int .u64 (l0 u), .int .u64 (l1 u), .int .u64 (l2 u), .int .u64 (l3 u), .int .u64 (l0 v), .int .u64 (l1 v), .int .u64 (l2 v), .int .u64 (l3 v), .bool false]) ∧ Below w.heap.size w w' := by
  go_enter Tryd.func47, Tryd.ntmps47
  go_wp2_with fail
  refine wp_world (fun W => Below w.heap.size w W ∧ Pnt W w.heap.size x y false ∧ Pnt W (w.heap.size + 1) x2 y2 false ∧ Bk9 W (w.heap.size + 1 + 1)) ⟨by repeat (first | with_reducible exact Below.refl _ _ | with_reducible refine Below.alloc ?_ (by first | omega | (simp; done) | (simp; omega)) _), ((Pnt.new rfl).alloc _).alloc _, (Pnt.new (by simp)).alloc _, Bk9.new (by simp)⟩ ?_
  rintro W ⟨B, hP, hQ, hR⟩
  have o3 : w.heap.size ≤ w.heap.size + 1 + 1 := by omega
  generalize w.heap.size + 1 + 1 = br at *
  generalize w.heap.size + 1 = bq at *
  have ghP := hP.grown
  have ghQ := hQ.grown
  refine wp_region_quiet_below (by kernel_rfl) (by kernel_rfl) ?_
  repeat
    first
      | go_big_quiet_skip
      | (go_big_quiet_want; go_big_quiet_op; go_big_quiet_on)
      | (go_big_quiet_want
         go_big_quiet_op
         apply Exists.intro
         refine ⟨fun p => ?_, ?_⟩
         · (first | (go_at_call 42; with_reducible exact Calls.regrown_of (CN.out _)))
         go_big_quiet_on)
  refine wpQuiet_nil ?_
  rintro w1 ⟨p, rfl⟩
  have hb := below_regrown W p.d p.os
  generalize grow (redrawn W p.d) p.os = w1 at *
  replace B := B.trans (hb.mono B.size)
  replace hP := hP.keep hb; replace hQ := hQ.keep hb; replace hR := hR.keep hb
  clear hb W ghP ghQ 
  have ghP := fun o => (hP.alloc o).cells
  have ghQ := fun o => (hQ.alloc o).cells
  go_wp2_with fail
  refine wp_world (fun W => Below w.heap.size w W ∧ Pnt W w.heap.size x y false ∧ Pnt W bq x2 y2 false ∧ Bk9 W br ∧ Blank W w1.heap.size) ⟨B.alloc B.size _, hP.alloc _, hQ.alloc _, hR.alloc _, Blank.new rfl⟩ ?_
  have np : w1.heap.size ≠ w.heap.size := Nat.ne_of_gt hP.lt
  have nq : w1.heap.size ≠ bq := Nat.ne_of_gt hQ.lt
  have nr : w1.heap.size ≠ br := Nat.ne_of_gt hR.lt
  have gm : w.heap.size ≤ w1.heap.size := B.size
  clear B hP hQ hR ghP ghQ
  generalize w1.heap.size = bm at *
  clear w1
  rintro W ⟨B, hP, hQ, hR, hM⟩
  have ghP := hP.grown
  have ghQ := hQ.grown
  refine below_tail 11 (by kernel_rfl) (by kernel_rfl) ?_
  simp only [List.take_succ_cons, List.take_zero, List.drop_succ_cons, List.drop_zero]
  repeat
    first
      | go_big_quiet_skip
      | (go_big_quiet_want; go_big_quiet_op; go_big_quiet_on)
      | (go_big_quiet_want
         go_big_quiet_op
         apply Exists.intro
         refine ⟨fun p => ?_, ?_⟩
         · (first | (go_at_call 82; with_reducible exact Calls.regrown_of (B1.out _)) | (go_at_call 82; with_reducible exact Calls.regrown_of (B2.out _)) | (go_at_call 87; with_reducible exact Calls.regrown_of (B4.out _)))
         go_big_quiet_on)
  refine wpQuiet_nil ?_
  rintro w2 ⟨p, rfl⟩
  have hb := below_regrown W p.d p.os
  generalize grow (redrawn W p.d) p.os = w2 at *
  replace B := B.trans (hb.mono B.size)
  replace hP := hP.keep hb; replace hQ := hQ.keep hb; replace hR := hR.keep hb; replace hM := hM.keep hb
  clear hb W ghP ghQ 
  have gM := hM.1.all4; have fM := hM.2.all4
  go_wp2_with fail
  refine wp_world (fun W => Below w.heap.size w W ∧ Pnt W w.heap.size x y false ∧ Pnt W bq x2 y2 false ∧ Bk9 W br ∧ Hold W bm m) ⟨below_set4 B gm _ _ _ _, hP.set4 np _ _ _ _, hQ.set4 nq _ _ _ _, hR.set4 nr _ _ _ _, Hold.sets4 (Blank.has hM)⟩ ?_
  clear B hP hQ hR hM gM fM np nq nr gm
  clear w2
  rintro W ⟨B, hP, hQ, hR, hM⟩
  refine alloc_tail (A := ?AA1) 9 (by kernel_rfl) (by kernel_rfl) rfl rfl (alloc_num _ _ _) (fun V hV => ?HH1) (fun V w1 hV hw => ?TT1)
  case HH1 =>
    have ghP := (hP.keep hV).grown
    have ghQ := (hQ.keep hV).grown
    have ghM := (hM.keep hV).grown
    unfold Gr
    simp only [List.take_succ_cons, List.take_zero]
    repeat
      first
        | go_big_quiet_skip
        | (go_big_quiet_want; go_big_quiet_op; go_big_quiet_on)
        | (go_big_quiet_want
           go_big_quiet_op
           apply Exists.intro
           refine ⟨fun p => ?_, ?_⟩
           · (first | (go_at_call 53; with_reducible exact Calls.regrown_of (A1.out _)) | (go_at_call 82; with_reducible exact Calls.regrown_of (A2.out _)) | (go_at_call 82; with_reducible exact Calls.regrown_of (A3.out _)))
           go_big_quiet_on)
    refine wpQuiet_nil ?_
    exact rfl
  case TT1 =>
    have hb := alloc_below hV hw
    have hN := (Blank.new rfl).keep hw
    have nhP : V.heap.size ≠ w.heap.size := Nat.ne_of_gt (Nat.lt_of_lt_of_le (hP.lt) hV.size)
    have nhQ : V.heap.size ≠ bq := Nat.ne_of_gt (Nat.lt_of_lt_of_le (hQ.lt) hV.size)
    have nhR : V.heap.size ≠ br := Nat.ne_of_gt (Nat.lt_of_lt_of_le (hR.lt) hV.size)
    have nhM : V.heap.size ≠ bm := Nat.ne_of_gt (Nat.lt_of_lt_of_le (World.block_lt_of_cell? _ _ hM.1) hV.size)
    have gn : w.heap.size ≤ V.heap.size := Nat.le_trans B.size hV.size
    replace B := B.trans (hb.mono B.size)
    replace hP := hP.keep hb; replace hQ := hQ.keep hb; replace hR := hR.keep hb; replace hM := hM.keep hb
    clear hb hw hV W
    generalize V.heap.size = bx at *
    clear V
    have gN := hN.1.all4; have qN := hN.2.all4
    have mhP := nhP.symm
    have mhQ := nhQ.symm
    have mhR := nhR.symm
    have mhM := nhM.symm
    simp only [List.drop_succ_cons, List.drop_zero, Act.put, List.setIfInBounds_toArray, List.set_cons_zero, List.set_cons_succ]
    go_wp2_with fail
    refine wp_world (fun W => Below w.heap.size w W ∧ Pnt W w.heap.size x y false ∧ Pnt W bq x2 y2 false ∧ Bk9 W br ∧ Hold W bm m ∧ Hold W bx u) ⟨below_set4 B gn _ _ _ _, hP.set4 nhP _ _ _ _, hQ.set4 nhQ _ _ _ _, hR.set4 nhR _ _ _ _, hM.set4 nhM _ _ _ _, Hold.sets4 (Blank.has hN)⟩ ?_
    clear B hN gN qN hP hQ hR hM nhP mhP nhQ mhQ nhR mhR nhM mhM  gn
    rintro W ⟨B, hP, hQ, hR, hM, hX⟩
    clear w1
    clear hQ
    refine alloc_tail (A := ?AA2) 9 (by kernel_rfl) (by kernel_rfl) rfl rfl (alloc_num _ _ _) (fun V hV => ?HH2) (fun V w1 hV hw => ?TT2)
    case HH2 =>
      have ghP := (hP.keep hV).grown
      have ghM := (hM.keep hV).grown
      have ghX := (hX.keep hV).grown
      unfold Gr
      simp only [List.take_succ_cons, List.take_zero]
      repeat
        first
          | go_big_quiet_skip
          | (go_big_quiet_want; go_big_quiet_op; go_big_quiet_on)
          | (go_big_quiet_want
             go_big_quiet_op
             apply Exists.intro
             refine ⟨fun p => ?_, ?_⟩
             · (first | (go_at_call 82; with_reducible exact Calls.regrown_of (A4.out _)) | (go_at_call 53; with_reducible exact Calls.regrown_of (A5.out _)) | (go_at_call 82; with_reducible exact Calls.regrown_of (A6.out _)))
             go_big_quiet_on)
      refine wpQuiet_nil ?_
      exact rfl
    case TT2 =>
      have hb := alloc_below hV hw
      have hN := (Blank.new rfl).keep hw
      have nhP : V.heap.size ≠ w.heap.size := Nat.ne_of_gt (Nat.lt_of_lt_of_le (hP.lt) hV.size)
      have nhR : V.heap.size ≠ br := Nat.ne_of_gt (Nat.lt_of_lt_of_le (hR.lt) hV.size)
      have nhM : V.heap.size ≠ bm := Nat.ne_of_gt (Nat.lt_of_lt_of_le (World.block_lt_of_cell? _ _ hM.1) hV.size)
      have nhX : V.heap.size ≠ bx := Nat.ne_of_gt (Nat.lt_of_lt_of_le (World.block_lt_of_cell? _ _ hX.1) hV.size)
      have gn : w.heap.size ≤ V.heap.size := Nat.le_trans B.size hV.size
      replace B := B.trans (hb.mono B.size)
      replace hP := hP.keep hb; replace hR := hR.keep hb; replace hM := hM.keep hb; replace hX := hX.keep hb
      clear hb hw hV W
      generalize V.heap.size = by1 at *
      clear V
      have gN := hN.1.all4; have qN := hN.2.all4
      have ghX := hX.cells
      have ghR := hR.cells; have qhR := hR.free
      have mhP := nhP.symm
      have mhR := nhR.symm
      have mhM := nhM.symm
      have mhX := nhX.symm
      simp only [List.drop_succ_cons, List.drop_zero, Act.put, List.setIfInBounds_toArray, List.set_cons_zero, List.set_cons_succ]
      go_wp2
      simp [bodyPost, results, Tryd.results47, go_sem, *]
      repeat (first | with_reducible exact B | with_reducible refine Below.setCell ?_ o3 _ | with_reducible refine Below.setCell ?_ gn _)
end Go.Proofs.YtjppjieidjodfabDoor

namespace Go.Proofs.YtjppjieidjodfabDoor
open Go.RowKit Go.Sort

theorem r5over_any {x y : Int} (hx : Num x) (hy : Num y) (h : modN pN y ≠ 0) : Hid (∀ w, Calls Tryd.prog 87 #[.agg #[.int .u64 (l0 x), .int .u64 (l1 x), .int .u64 (l2 x), .int .u64 (l3 x)], .agg #[.int .u64 (l0 y), .int .u64 (l1 y), .int .u64 (l2 y), .int .u64 (l3 y)]] w fun e w' => e = .returned (.agg #[.int .u64 (l0 (modN pN (x * invN pN y))), .int .u64 (l1 (modN pN (x * invN pN y))), .int .u64 (l2 (modN pN (x * invN pN y))), .int .u64 (l3 (modN pN (x * invN pN y)))]) ∧ Below w.heap.size w w') := fun w =>
  r5over_walk (fun w => rInverse_good (.inl rfl) hy h w) (fun w => r5mul_any hx (powN_Num fit_p _ _) w) w
theorem fp_neg0 (y : Int) : EC.fp (modN pN (0 - y)) = -EC.fp y := by
  rw [EC.fp_mod, EC.fp_sub, EC.fp_zero]
  generalize EC.fp y = Y
  grind -lia -linarith
theorem eqp {x y x2 y2 : Int} (hx : Num x) (hy : Num y) (hx2 : Num x2) (hy2 : Num y2) {v : Bool} (e : (decide (x = x2) && decide (y = y2)) = v) : ∀ w, (Op.equalIn 10000 26 (.agg #[.int .u64 (l0 x), .int .u64 (l1 x), .int .u64 (l2 x), .int .u64 (l3 x), .int .u64 (l0 y), .int .u64 (l1 y), .int .u64 (l2 y), .int .u64 (l3 y), .bool false]) (.agg #[.int .u64 (l0 x2), .int .u64 (l1 x2), .int .u64 (l2 x2), .int .u64 (l3 x2), .int .u64 (l0 y2), .int .u64 (l1 y2), .int .u64 (l2 y2), .int .u64 (l3 y2), .bool false])).run Tryd.prog w = .ok v w := fun w => by
  rw [eq_pt_any hx hy hx2 hy2, ← e]
  simp
theorem same_x {x y x2 y2 : Int} (hp : Vd x y false) (hq : Vd x2 y2 false) (h1 : ¬ (x2 = x ∧ y2 = modN pN (0 - y))) (h2 : ¬ (x = x2 ∧ y = y2)) : EC.fp x ≠ EC.fp x2 := fun e => by
  have ex := EC.fp_inj hp.1 hq.1 e
  subst ex
  have o1 : EC.fp y * EC.fp y = EC.fp x * EC.fp x * EC.fp x + 7 := hp.2.2
  have o2 : EC.fp y2 * EC.fp y2 = EC.fp x * EC.fp x * EC.fp x + 7 := hq.2.2
  by_cases hd : EC.fp y2 - EC.fp y = 0
  · refine h2 ⟨rfl, EC.fp_inj hp.2.1 hq.2.1 ?_⟩
    generalize EC.fp y2 = Y2 at *; generalize EC.fp y = Y at *
    grind -lia -linarith
  · have h0 : (EC.fp y2 - EC.fp y) * (EC.fp y2 + EC.fp y) = 0 := by
      generalize EC.fp y2 = Y2 at *; generalize EC.fp y = Y at *; generalize EC.fp x = X at *
      grind -lia -linarith
    have h3 := EC.mul0 h0 hd
    refine h1 ⟨rfl, EC.fp_inj hq.2.1 (EC.low_mod _) ?_⟩
    rw [fp_neg0]
    generalize EC.fp y2 = Y2 at *; generalize EC.fp y = Y at *
    grind -lia -linarith
set_option maxHeartbeats 4000000 in
theorem r5plus_any {x y x2 y2 x' y' : Int} {i i2 j : Bool} (hp : Vd x y i) (hq : Vd x2 y2 i2) (hj : Vd x' y' j) (ej : ptOf x' y' j = (ptOf x y i).add (ptOf x2 y2 i2)) : Hid (∀ w, Calls Tryd.prog 47 #[.agg #[.int .u64 (l0 x), .int .u64 (l1 x), .int .u64 (l2 x), .int .u64 (l3 x), .int .u64 (l0 y), .int .u64 (l1 y), .int .u64 (l2 y), .int .u64 (l3 y), .bool i], .agg #[.int .u64 (l0 x2), .int .u64 (l1 x2), .int .u64 (l2 x2), .int .u64 (l3 x2), .int .u64 (l0 y2), .int .u64 (l1 y2), .int .u64 (l2 y2), .int .u64 (l3 y2), .bool i2]] w fun e w' => e = .returned (.agg #[.int .u64 (l0 x'), .int .u64 (l1 x'), .int .u64 (l2 x'), .int .u64 (l3 x'), .int .u64 (l0 y'), .int .u64 (l1 y'), .int .u64 (l2 y'), .int .u64 (l3 y'), .bool j]) ∧ Below w.heap.size w w') := by
  cases i with
  | true =>
    obtain ⟨rfl, rfl, rfl⟩ := hj.inj hq ej
    exact fun w => r5plus_l w
  | false =>
    cases i2 with
    | true =>
      obtain ⟨rfl, rfl, rfl⟩ := hj.inj hp (ej.trans (EC.add_o _))
      exact fun w => r5plus_r w
    | false =>
      have nx := hp.1.num; have ny := hp.2.1.num; have nx2 := hq.1.num; have ny2 := hq.2.1.num
      have CN : Hid (∀ w, Calls Tryd.prog 42 #[.agg #[.int .u64 (l0 x), .int .u64 (l1 x), .int .u64 (l2 x), .int .u64 (l3 x), .int .u64 (l0 y), .int .u64 (l1 y), .int .u64 (l2 y), .int .u64 (l3 y), .bool false]] w fun e w' => e = .returned (.agg #[.int .u64 (l0 x), .int .u64 (l1 x), .int .u64 (l2 x), .int .u64 (l3 x), .int .u64 (l0 (modN pN (0 - y))), .int .u64 (l1 (modN pN (0 - y))), .int .u64 (l2 (modN pN (0 - y))), .int .u64 (l3 (modN pN (0 - y))), .bool false]) ∧ Below w.heap.size w w') := fun w => r5neg_any ny w
      have ea : (ptOf x y false).add (ptOf x2 y2 false) = _ := EC.add_aa (EC.fp x) (EC.fp y) (EC.fp x2) (EC.fp y2)
      by_cases h1 : x2 = x ∧ y2 = modN pN (0 - y)
      · have e0 : ptOf x' y' j = ptOf 0 0 true := by
          rw [ej, ea, if_pos ⟨by rw [h1.1], by rw [h1.2, fp_neg0]; generalize EC.fp y = Y; grind -lia -linarith⟩]
          rfl
        obtain ⟨rfl, rfl, rfl⟩ := hj.inj (show Vd 0 0 true from ⟨rfl, rfl⟩) e0
        exact fun w => r5plus_opp CN (eqp nx2 ny2 nx (modN_Num fit_p _) (by rw [decide_eq_true h1.1, decide_eq_true h1.2]; rfl)) (fun w => r5identity_any w) w
      · have E5 := eqp nx2 ny2 nx (modN_Num fit_p _) (v := false) (y2 := modN pN (0 - y)) (by
          by_cases hx : x2 = x
          · rw [decide_eq_true hx, decide_eq_false fun hy => h1 ⟨hx, hy⟩]; rfl
          · rw [decide_eq_false hx]; rfl)
        have nadd : ¬ (EC.fp x = EC.fp x2 ∧ EC.fp y = -EC.fp y2) := fun ⟨e1, e2⟩ => h1 ⟨(EC.fp_inj hp.1 hq.1 e1).symm, EC.fp_inj hq.2.1 (EC.low_mod _) (by rw [fp_neg0, e2]; generalize EC.fp y2 = Y; grind -lia -linarith)⟩
        rw [if_neg nadd] at ea
        rw [ea] at ej
        have fin : ∀ mm, EC.fp mm = EC.slope (EC.fp x) (EC.fp y) (EC.fp x2) (EC.fp y2) → ∀ u v, u = modN pN (modN pN (modN pN (mm * mm) - x) - x2) → v = modN pN (modN pN (mm * modN pN (x - u)) - y) → u = x' ∧ v = y' ∧ false = j := fun mm em u v eu ev => by
          have e1 : ptOf u v false = ptOf x' y' j := by
            rw [ej]
            show EC.Pt.a _ _ = _
            rw [ev, eu]
            simp only [EC.fp_mod, EC.fp_mul, EC.fp_sub]
            rw [em]
          refine Vd.inj (i := false) ?_ hj e1
          have hon := hj.on
          rw [← e1] at hon
          exact ⟨by rw [eu]; exact EC.low_mod _, by rw [ev]; exact EC.low_mod _, hon⟩
        by_cases h2 : x = x2 ∧ y = y2
        · have E8 := eqp nx ny nx2 ny2 (v := true) (by rw [decide_eq_true h2.1, decide_eq_true h2.2]; rfl)
          have y0 : y ≠ 0 := fun e => h1 ⟨h2.1.symm, by rw [← h2.2, e]; rfl⟩
          have f2 : EC.fp 2 = 2 := by decide +kernel
          have f3 : EC.fp 3 = 3 := by decide +kernel
          have b0 : modN pN (modN pN (2 * y)) ≠ 0 := fun e => by
            have e1 : EC.fp 2 * EC.fp y = 0 := by rw [← EC.fp_mul, ← EC.fp_mod, ← EC.fp_mod, e, EC.fp_zero]
            rw [f2] at e1
            exact fp_nz hp.2.1 y0 (EC.mul0 e1 EC.two)
          obtain ⟨r1, r2, r3⟩ := fin (modN pN (modN pN (3 * modN pN (x * x)) * invN pN (modN pN (2 * y)))) (by
            have ei : EC.fp (invN pN (modN pN (2 * y))) = EC.iv (EC.fp (modN pN (2 * y))) := EC.fp_inv (EC.low_mod _)
            unfold EC.slope
            rw [if_pos (by rw [h2.1]), EC.fp_mod, EC.fp_mul, ei]
            simp only [EC.fp_mod, EC.fp_mul]
            rw [f2, f3]) _ _ rfl rfl
          subst r3
          rw [← r1, ← r2]
          exact fun w => r5plus_tan CN E5 E8 (fun w => r5mul_any nx nx w) (fun w => r5times_any ⟨by decide, by decide⟩ (modN_Num fit_p _) w) (fun w => r5times_any ⟨by decide, by decide⟩ ny w) (r5over_any (modN_Num fit_p _) (modN_Num fit_p _) b0)
            (fun w => r5mul_any (modN_Num fit_p _) (modN_Num fit_p _) w) (fun w => r5sub_any (modN_Num fit_p _) nx w) (fun w => r5sub_any (modN_Num fit_p _) nx2 w) (fun w => r5sub_any nx (modN_Num fit_p _) w) (fun w => r5mul_any (modN_Num fit_p _) (modN_Num fit_p _) w) (fun w => r5sub_any (modN_Num fit_p _) ny w) w
        · have E8 := eqp nx ny nx2 ny2 (v := false) (by
            by_cases hx : x = x2
            · rw [decide_eq_true hx, decide_eq_false fun hy => h2 ⟨hx, hy⟩]; rfl
            · rw [decide_eq_false hx]; rfl)
          have hx := same_x hp hq h1 h2
          have b0 : modN pN (modN pN (x2 - x)) ≠ 0 := fun e => hx (by
            have e1 : EC.fp x2 - EC.fp x = 0 := by rw [← EC.fp_sub, ← EC.fp_mod, ← EC.fp_mod, e, EC.fp_zero]
            generalize EC.fp x2 = X2 at *; generalize EC.fp x = X at *
            grind -lia -linarith)
          obtain ⟨r1, r2, r3⟩ := fin (modN pN (modN pN (y2 - y) * invN pN (modN pN (x2 - x)))) (by
            have ei : EC.fp (invN pN (modN pN (x2 - x))) = EC.iv (EC.fp (modN pN (x2 - x))) := EC.fp_inv (EC.low_mod _)
            unfold EC.slope
            rw [if_neg hx, EC.fp_mod, EC.fp_mul, ei]
            simp only [EC.fp_mod, EC.fp_sub]) _ _ rfl rfl
          subst r3
          rw [← r1, ← r2]
          exact fun w => r5plus_cho CN E5 E8 (fun w => r5sub_any ny2 ny w) (fun w => r5sub_any nx2 nx w) (r5over_any (modN_Num fit_p _) (modN_Num fit_p _) b0)
            (fun w => r5mul_any (modN_Num fit_p _) (modN_Num fit_p _) w) (fun w => r5sub_any (modN_Num fit_p _) nx w) (fun w => r5sub_any (modN_Num fit_p _) nx2 w) (fun w => r5sub_any nx (modN_Num fit_p _) w) (fun w => r5mul_any (modN_Num fit_p _) (modN_Num fit_p _) w) (fun w => r5sub_any (modN_Num fit_p _) ny w) w

set_option maxRecDepth 100000 in
set_option maxHeartbeats 4000000 in
theorem r5add_walk {x y x2 y2 x' y' : Int} {i i2 j : Bool} (C0 : Hid (∀ w, Calls Tryd.prog 26 #[.agg #[.int .u64 (l0 x), .int .u64 (l1 x), .int .u64 (l2 x), .int .u64 (l3 x), .int .u64 (l0 y), .int .u64 (l1 y), .int .u64 (l2 y), .int .u64 (l3 y), .bool i]] w fun e w' => e = .returned (.bool true) ∧ Below w.heap.size w w')) (C1 : Hid (∀ w, Calls Tryd.prog 26 #[.agg #[.int .u64 (l0 x2), .int .u64 (l1 x2), .int .u64 (l2 x2), .int .u64 (l3 x2), .int .u64 (l0 y2), .int .u64 (l1 y2), .int .u64 (l2 y2), .int .u64 (l3 y2), .bool i2]] w fun e w' => e = .returned (.bool true) ∧ Below w.heap.size w w')) (C2 : Hid (∀ w, Calls Tryd.prog 47 #[.agg #[.int .u64 (l0 x), .int .u64 (l1 x), .int .u64 (l2 x), .int .u64 (l3 x), .int .u64 (l0 y), .int .u64 (l1 y), .int .u64 (l2 y), .int .u64 (l3 y), .bool i], .agg #[.int .u64 (l0 x2), .int .u64 (l1 x2), .int .u64 (l2 x2), .int .u64 (l3 x2), .int .u64 (l0 y2), .int .u64 (l1 y2), .int .u64 (l2 y2), .int .u64 (l3 y2), .bool i2]] w fun e w' => e = .returned (.agg #[.int .u64 (l0 x'), .int .u64 (l1 x'), .int .u64 (l2 x'), .int .u64 (l3 x'), .int .u64 (l0 y'), .int .u64 (l1 y'), .int .u64 (l2 y'), .int .u64 (l3 y'), .bool j]) ∧ Below w.heap.size w w')) (w : World) :
    Calls Tryd.prog 20 #[.agg #[.int .u64 (l0 x), .int .u64 (l1 x), .int .u64 (l2 x), .int .u64 (l3 x), .int .u64 (l0 y), .int .u64 (l1 y), .int .u64 (l2 y), .int .u64 (l3 y), .bool i], .agg #[.int .u64 (l0 x2), .int .u64 (l1 x2), .int .u64 (l2 x2), .int .u64 (l3 x2), .int .u64 (l0 y2), .int .u64 (l1 y2), .int .u64 (l2 y2), .int .u64 (l3 y2), .bool i2]] w fun e w' => e = .returned (.tuple #[.agg #[.int .u64 (l0 x'), .int .u64 (l1 x'), .int .u64 (l2 x'), .int .u64 (l3 x'), .int .u64 (l0 y'), .int .u64 (l1 y'), .int .u64 (l2 y'), .int .u64 (l3 y'), .bool j], .int .i64 0]) ∧ Below w.heap.size w w' := by
  go_enter Tryd.func20, Tryd.ntmps20
  go_wp2_with fail
  refine calls_world (fun W => Below w.heap.size w W ∧ Pnt W w.heap.size x y i ∧ Pnt W (w.heap.size + 1) x2 y2 i2 ∧ Bk9 W (w.heap.size + 1 + 1)) ⟨by repeat (first | with_reducible exact Below.refl _ _ | with_reducible refine Below.alloc ?_ (by first | omega | (simp; done) | (simp; omega)) _), ((Pnt.new rfl).alloc _).alloc _, (Pnt.new (by simp)).alloc _, Bk9.new (by simp)⟩ ?_
  rintro W ⟨B, hP, hQ, hR⟩
  have o3 : w.heap.size ≤ w.heap.size + 1 + 1 := by omega
  generalize w.heap.size + 1 + 1 = br at *
  generalize w.heap.size + 1 = bq at *
  with_reducible refine (C0.out _).mono ?_
  rintro e w1 ⟨rfl, hb⟩
  replace B := B.trans (hb.mono B.size)
  replace hP := hP.keep hb; replace hQ := hQ.keep hb; replace hR := hR.keep hb
  clear hb W
  have ghQ := hQ.cells
  go_wp2_with fail
  refine calls_world (fun W => Below w.heap.size w W ∧ Pnt W w.heap.size x y i ∧ Pnt W bq x2 y2 i2 ∧ Bk9 W br) ⟨B, hP, hQ, hR⟩ ?_
  clear B hP hQ hR ghQ
  rintro W ⟨B, hP, hQ, hR⟩
  with_reducible refine (C1.out _).mono ?_
  rintro e w2 ⟨rfl, hb⟩
  replace B := B.trans (hb.mono B.size)
  replace hP := hP.keep hb; replace hQ := hQ.keep hb; replace hR := hR.keep hb
  clear hb W
  have ghP := hP.cells
  have ghQ := hQ.cells
  go_wp2_with fail
  refine calls_world (fun W => Below w.heap.size w W ∧ Pnt W w.heap.size x y i ∧ Pnt W bq x2 y2 i2 ∧ Bk9 W br) ⟨B, hP, hQ, hR⟩ ?_
  clear B hP hQ hR ghP ghQ
  rintro W ⟨B, hP, hQ, hR⟩
  with_reducible refine (C2.out _).mono ?_
  rintro e w9 ⟨rfl, hb⟩
  replace B := B.trans (hb.mono B.size)
  replace hP := hP.keep hb; replace hQ := hQ.keep hb; replace hR := hR.keep hb
  clear hb W hP hQ
  have gR := hR.cells; have fR := hR.free
  go_wp2
  simp [bodyPost, results, Tryd.results20, go_sem, gR]
  repeat (first | with_reducible exact B | with_reducible refine Below.setCell ?_ o3 _)

set_option maxRecDepth 100000 in
set_option maxHeartbeats 4000000 in
theorem r5add_bad0 {x y x2 y2 : Int} {i i2 : Bool} (C0 : Hid (∀ w, Calls Tryd.prog 26 #[.agg #[.int .u64 (l0 x), .int .u64 (l1 x), .int .u64 (l2 x), .int .u64 (l3 x), .int .u64 (l0 y), .int .u64 (l1 y), .int .u64 (l2 y), .int .u64 (l3 y), .bool i]] w fun e w' => e = .returned (.bool false) ∧ Below w.heap.size w w')) (w : World) :
    Calls Tryd.prog 20 #[.agg #[.int .u64 (l0 x), .int .u64 (l1 x), .int .u64 (l2 x), .int .u64 (l3 x), .int .u64 (l0 y), .int .u64 (l1 y), .int .u64 (l2 y), .int .u64 (l3 y), .bool i], .agg #[.int .u64 (l0 x2), .int .u64 (l1 x2), .int .u64 (l2 x2), .int .u64 (l3 x2), .int .u64 (l0 y2), .int .u64 (l1 y2), .int .u64 (l2 y2), .int .u64 (l3 y2), .bool i2]] w fun e w' => e = .returned (.tuple #[.agg #[.int .u64 (l0 0), .int .u64 (l1 0), .int .u64 (l2 0), .int .u64 (l3 0), .int .u64 (l0 0), .int .u64 (l1 0), .int .u64 (l2 0), .int .u64 (l3 0), .bool false], .int .i64 50]) ∧ Below w.heap.size w w' := by
  obtain ⟨z0, z1, z2, z3⟩ := zero_limbs
  rw [z0, z1, z2, z3]
  clear z0 z1 z2 z3
  go_enter Tryd.func20, Tryd.ntmps20
  go_wp2_with fail
  refine calls_world (fun W => Below w.heap.size w W ∧ Pnt W w.heap.size x y i ∧ Pnt W (w.heap.size + 1) x2 y2 i2 ∧ Bk9 W (w.heap.size + 1 + 1)) ⟨by repeat (first | with_reducible exact Below.refl _ _ | with_reducible refine Below.alloc ?_ (by first | omega | (simp; done) | (simp; omega)) _), ((Pnt.new rfl).alloc _).alloc _, (Pnt.new (by simp)).alloc _, Bk9.new (by simp)⟩ ?_
  rintro W ⟨B, hP, hQ, hR⟩
  have o3 : w.heap.size ≤ w.heap.size + 1 + 1 := by omega
  generalize w.heap.size + 1 + 1 = br at *
  generalize w.heap.size + 1 = bq at *
  with_reducible refine (C0.out _).mono ?_
  rintro e w9 ⟨rfl, hb⟩
  replace B := B.trans (hb.mono B.size)
  replace hP := hP.keep hb; replace hQ := hQ.keep hb; replace hR := hR.keep hb
  clear hb W hP hQ
  have gR := hR.cells; have fR := hR.free
  go_wp2
  simp [bodyPost, results, Tryd.results20, go_sem, gR]
  repeat (first | with_reducible exact B | with_reducible refine Below.setCell ?_ o3 _)

set_option maxRecDepth 100000 in
set_option maxHeartbeats 4000000 in
theorem r5add_bad1 {x y x2 y2 : Int} {i i2 : Bool} (C0 : Hid (∀ w, Calls Tryd.prog 26 #[.agg #[.int .u64 (l0 x), .int .u64 (l1 x), .int .u64 (l2 x), .int .u64 (l3 x), .int .u64 (l0 y), .int .u64 (l1 y), .int .u64 (l2 y), .int .u64 (l3 y), .bool i]] w fun e w' => e = .returned (.bool true) ∧ Below w.heap.size w w')) (C1 : Hid (∀ w, Calls Tryd.prog 26 #[.agg #[.int .u64 (l0 x2), .int .u64 (l1 x2), .int .u64 (l2 x2), .int .u64 (l3 x2), .int .u64 (l0 y2), .int .u64 (l1 y2), .int .u64 (l2 y2), .int .u64 (l3 y2), .bool i2]] w fun e w' => e = .returned (.bool false) ∧ Below w.heap.size w w')) (w : World) :
    Calls Tryd.prog 20 #[.agg #[.int .u64 (l0 x), .int .u64 (l1 x), .int .u64 (l2 x), .int .u64 (l3 x), .int .u64 (l0 y), .int .u64 (l1 y), .int .u64 (l2 y), .int .u64 (l3 y), .bool i], .agg #[.int .u64 (l0 x2), .int .u64 (l1 x2), .int .u64 (l2 x2), .int .u64 (l3 x2), .int .u64 (l0 y2), .int .u64 (l1 y2), .int .u64 (l2 y2), .int .u64 (l3 y2), .bool i2]] w fun e w' => e = .returned (.tuple #[.agg #[.int .u64 (l0 0), .int .u64 (l1 0), .int .u64 (l2 0), .int .u64 (l3 0), .int .u64 (l0 0), .int .u64 (l1 0), .int .u64 (l2 0), .int .u64 (l3 0), .bool false], .int .i64 50]) ∧ Below w.heap.size w w' := by
  obtain ⟨z0, z1, z2, z3⟩ := zero_limbs
  rw [z0, z1, z2, z3]
  clear z0 z1 z2 z3
  go_enter Tryd.func20, Tryd.ntmps20
  go_wp2_with fail
  refine calls_world (fun W => Below w.heap.size w W ∧ Pnt W w.heap.size x y i ∧ Pnt W (w.heap.size + 1) x2 y2 i2 ∧ Bk9 W (w.heap.size + 1 + 1)) ⟨by repeat (first | with_reducible exact Below.refl _ _ | with_reducible refine Below.alloc ?_ (by first | omega | (simp; done) | (simp; omega)) _), ((Pnt.new rfl).alloc _).alloc _, (Pnt.new (by simp)).alloc _, Bk9.new (by simp)⟩ ?_
  rintro W ⟨B, hP, hQ, hR⟩
  have o3 : w.heap.size ≤ w.heap.size + 1 + 1 := by omega
  generalize w.heap.size + 1 + 1 = br at *
  generalize w.heap.size + 1 = bq at *
  with_reducible refine (C0.out _).mono ?_
  rintro e w1 ⟨rfl, hb⟩
  replace B := B.trans (hb.mono B.size)
  replace hP := hP.keep hb; replace hQ := hQ.keep hb; replace hR := hR.keep hb
  clear hb W
  have ghQ := hQ.cells
  go_wp2_with fail
  refine calls_world (fun W => Below w.heap.size w W ∧ Pnt W w.heap.size x y i ∧ Pnt W bq x2 y2 i2 ∧ Bk9 W br) ⟨B, hP, hQ, hR⟩ ?_
  clear B hP hQ hR ghQ
  rintro W ⟨B, hP, hQ, hR⟩
  with_reducible refine (C1.out _).mono ?_
  rintro e w9 ⟨rfl, hb⟩
  replace B := B.trans (hb.mono B.size)
  replace hP := hP.keep hb; replace hQ := hQ.keep hb; replace hR := hR.keep hb
  clear hb W hP hQ
  have gR := hR.cells; have fR := hR.free
  go_wp2
  simp [bodyPost, results, Tryd.results20, go_sem, gR]
  repeat (first | with_reducible exact B | with_reducible refine Below.setCell ?_ o3 _)

set_option maxRecDepth 100000 in
set_option maxHeartbeats 4000000 in
theorem r5double_walk {x y x' y' e0 : Int} {i j : Bool} (C0 : Hid (∀ w, Calls Tryd.prog 20 #[.agg #[.int .u64 (l0 x), .int .u64 (l1 x), .int .u64 (l2 x), .int .u64 (l3 x), .int .u64 (l0 y), .int .u64 (l1 y), .int .u64 (l2 y), .int .u64 (l3 y), .bool i], .agg #[.int .u64 (l0 x), .int .u64 (l1 x), .int .u64 (l2 x), .int .u64 (l3 x), .int .u64 (l0 y), .int .u64 (l1 y), .int .u64 (l2 y), .int .u64 (l3 y), .bool i]] w fun e w' => e = .returned (.tuple #[.agg #[.int .u64 (l0 x'), .int .u64 (l1 x'), .int .u64 (l2 x'), .int .u64 (l3 x'), .int .u64 (l0 y'), .int .u64 (l1 y'), .int .u64 (l2 y'), .int .u64 (l3 y'), .bool j], .int .i64 e0]) ∧ Below w.heap.size w w')) (w : World) :
    Calls Tryd.prog 22 #[.agg #[.int .u64 (l0 x), .int .u64 (l1 x), .int .u64 (l2 x), .int .u64 (l3 x), .int .u64 (l0 y), .int .u64 (l1 y), .int .u64 (l2 y), .int .u64 (l3 y), .bool i]] w fun e w' => e = .returned (.tuple #[.agg #[.int .u64 (l0 x'), .int .u64 (l1 x'), .int .u64 (l2 x'), .int .u64 (l3 x'), .int .u64 (l0 y'), .int .u64 (l1 y'), .int .u64 (l2 y'), .int .u64 (l3 y'), .bool j], .int .i64 e0]) ∧ Below w.heap.size w w' := by
  go_enter Tryd.func22, Tryd.ntmps22
  go_wp2_with fail
  refine calls_world (fun W => Below w.heap.size w W ∧ Pnt W w.heap.size x y i ∧ Bk9 W (w.heap.size + 1)) ⟨by repeat (first | with_reducible exact Below.refl _ _ | with_reducible refine Below.alloc ?_ (by first | omega | (simp; done) | (simp; omega)) _), (Pnt.new rfl).alloc _, Bk9.new (by simp)⟩ ?_
  rintro W ⟨B, hP, hR⟩
  have o3 : w.heap.size ≤ w.heap.size + 1 := by omega
  generalize w.heap.size + 1 = br at *
  with_reducible refine (C0.out _).mono ?_
  rintro e w9 ⟨rfl, hb⟩
  replace B := B.trans (hb.mono B.size)
  replace hP := hP.keep hb; replace hR := hR.keep hb
  clear hb W hP
  have gR := hR.cells; have fR := hR.free
  go_wp2
  simp [bodyPost, results, Tryd.results22, go_sem, gR]
  repeat (first | with_reducible exact B | with_reducible refine Below.setCell ?_ o3 _)

set_option maxRecDepth 100000 in
set_option maxHeartbeats 4000000 in
theorem r5negp_walk {x y x' y' : Int} {i j : Bool} (C0 : Hid (∀ w, Calls Tryd.prog 26 #[.agg #[.int .u64 (l0 x), .int .u64 (l1 x), .int .u64 (l2 x), .int .u64 (l3 x), .int .u64 (l0 y), .int .u64 (l1 y), .int .u64 (l2 y), .int .u64 (l3 y), .bool i]] w fun e w' => e = .returned (.bool true) ∧ Below w.heap.size w w')) (C1 : Hid (∀ w, Calls Tryd.prog 42 #[.agg #[.int .u64 (l0 x), .int .u64 (l1 x), .int .u64 (l2 x), .int .u64 (l3 x), .int .u64 (l0 y), .int .u64 (l1 y), .int .u64 (l2 y), .int .u64 (l3 y), .bool i]] w fun e w' => e = .returned (.agg #[.int .u64 (l0 x'), .int .u64 (l1 x'), .int .u64 (l2 x'), .int .u64 (l3 x'), .int .u64 (l0 y'), .int .u64 (l1 y'), .int .u64 (l2 y'), .int .u64 (l3 y'), .bool j]) ∧ Below w.heap.size w w')) (w : World) :
    Calls Tryd.prog 24 #[.agg #[.int .u64 (l0 x), .int .u64 (l1 x), .int .u64 (l2 x), .int .u64 (l3 x), .int .u64 (l0 y), .int .u64 (l1 y), .int .u64 (l2 y), .int .u64 (l3 y), .bool i]] w fun e w' => e = .returned (.tuple #[.agg #[.int .u64 (l0 x'), .int .u64 (l1 x'), .int .u64 (l2 x'), .int .u64 (l3 x'), .int .u64 (l0 y'), .int .u64 (l1 y'), .int .u64 (l2 y'), .int .u64 (l3 y'), .bool j], .int .i64 0]) ∧ Below w.heap.size w w' := by
  go_enter Tryd.func24, Tryd.ntmps24
  go_wp2_with fail
  refine calls_world (fun W => Below w.heap.size w W ∧ Pnt W w.heap.size x y i ∧ Bk9 W (w.heap.size + 1)) ⟨by repeat (first | with_reducible exact Below.refl _ _ | with_reducible refine Below.alloc ?_ (by first | omega | (simp; done) | (simp; omega)) _), (Pnt.new rfl).alloc _, Bk9.new (by simp)⟩ ?_
  rintro W ⟨B, hP, hR⟩
  have o3 : w.heap.size ≤ w.heap.size + 1 := by omega
  generalize w.heap.size + 1 = br at *
  with_reducible refine (C0.out _).mono ?_
  rintro e w1 ⟨rfl, hb⟩
  replace B := B.trans (hb.mono B.size)
  replace hP := hP.keep hb; replace hR := hR.keep hb
  clear hb W
  have ghP := hP.cells
  go_wp2_with fail
  refine calls_world (fun W => Below w.heap.size w W ∧ Pnt W w.heap.size x y i ∧ Bk9 W br) ⟨B, hP, hR⟩ ?_
  clear B hP hR ghP
  rintro W ⟨B, hP, hR⟩
  with_reducible refine (C1.out _).mono ?_
  rintro e w9 ⟨rfl, hb⟩
  replace B := B.trans (hb.mono B.size)
  replace hP := hP.keep hb; replace hR := hR.keep hb
  clear hb W hP
  have gR := hR.cells; have fR := hR.free
  go_wp2
  simp [bodyPost, results, Tryd.results24, go_sem, gR]
  repeat (first | with_reducible exact B | with_reducible refine Below.setCell ?_ o3 _)

set_option maxRecDepth 100000 in
set_option maxHeartbeats 4000000 in
theorem r5negp_bad {x y : Int} {i : Bool} (C0 : Hid (∀ w, Calls Tryd.prog 26 #[.agg #[.int .u64 (l0 x), .int .u64 (l1 x), .int .u64 (l2 x), .int .u64 (l3 x), .int .u64 (l0 y), .int .u64 (l1 y), .int .u64 (l2 y), .int .u64 (l3 y), .bool i]] w fun e w' => e = .returned (.bool false) ∧ Below w.heap.size w w')) (w : World) :
    Calls Tryd.prog 24 #[.agg #[.int .u64 (l0 x), .int .u64 (l1 x), .int .u64 (l2 x), .int .u64 (l3 x), .int .u64 (l0 y), .int .u64 (l1 y), .int .u64 (l2 y), .int .u64 (l3 y), .bool i]] w fun e w' => e = .returned (.tuple #[.agg #[.int .u64 (l0 0), .int .u64 (l1 0), .int .u64 (l2 0), .int .u64 (l3 0), .int .u64 (l0 0), .int .u64 (l1 0), .int .u64 (l2 0), .int .u64 (l3 0), .bool false], .int .i64 50]) ∧ Below w.heap.size w w' := by
  obtain ⟨z0, z1, z2, z3⟩ := zero_limbs
  rw [z0, z1, z2, z3]
  clear z0 z1 z2 z3
  go_enter Tryd.func24, Tryd.ntmps24
  go_wp2_with fail
  refine calls_world (fun W => Below w.heap.size w W ∧ Pnt W w.heap.size x y i ∧ Bk9 W (w.heap.size + 1)) ⟨by repeat (first | with_reducible exact Below.refl _ _ | with_reducible refine Below.alloc ?_ (by first | omega | (simp; done) | (simp; omega)) _), (Pnt.new rfl).alloc _, Bk9.new (by simp)⟩ ?_
  rintro W ⟨B, hP, hR⟩
  have o3 : w.heap.size ≤ w.heap.size + 1 := by omega
  generalize w.heap.size + 1 = br at *
  with_reducible refine (C0.out _).mono ?_
  rintro e w9 ⟨rfl, hb⟩
  replace B := B.trans (hb.mono B.size)
  replace hP := hP.keep hb; replace hR := hR.keep hb
  clear hb W hP
  have gR := hR.cells; have fR := hR.free
  go_wp2
  simp [bodyPost, results, Tryd.results24, go_sem, gR]
  repeat (first | with_reducible exact B | with_reducible refine Below.setCell ?_ o3 _)

set_option maxRecDepth 100000 in
set_option maxHeartbeats 4000000 in
theorem cdouble_bad {x y : Int} {i : Bool} (C0 : Hid (∀ w, Mds w → Calls Tryd.prog 25 #[.agg #[.int .u64 (l0 x), .int .u64 (l1 x), .int .u64 (l2 x), .int .u64 (l3 x), .int .u64 (l0 y), .int .u64 (l1 y), .int .u64 (l2 y), .int .u64 (l3 y), .bool i]] w fun e w' => e = .returned (.bool false) ∧ Below w.heap.size w w')) (w : World) (hm : Mds w) :
    Calls Tryd.prog 21 #[.agg #[.int .u64 (l0 x), .int .u64 (l1 x), .int .u64 (l2 x), .int .u64 (l3 x), .int .u64 (l0 y), .int .u64 (l1 y), .int .u64 (l2 y), .int .u64 (l3 y), .bool i]] w fun e w' => e = .returned (.tuple #[.agg #[.int .u64 (l0 0), .int .u64 (l1 0), .int .u64 (l2 0), .int .u64 (l3 0), .int .u64 (l0 0), .int .u64 (l1 0), .int .u64 (l2 0), .int .u64 (l3 0), .bool false], .int .i64 50]) ∧ Below w.heap.size w w' := by
  obtain ⟨z0, z1, z2, z3⟩ := zero_limbs
  rw [z0, z1, z2, z3]
  clear z0 z1 z2 z3
  go_enter Tryd.func21, Tryd.ntmps21
  go_wp2_with fail
  refine calls_world (fun W => Below w.heap.size w W ∧ Mds W ∧ Pnt W w.heap.size x y i ∧ Bk9 W (w.heap.size + 1)) ⟨by repeat (first | with_reducible exact Below.refl _ _ | with_reducible refine Below.alloc ?_ (by first | omega | (simp; done) | (simp; omega)) _), (hm.alloc _).alloc _, (Pnt.new rfl).alloc _, Bk9.new (by simp)⟩ ?_
  rintro W ⟨B, hD, hP, hR⟩
  have o3 : w.heap.size ≤ w.heap.size + 1 := by omega
  generalize w.heap.size + 1 = br at *
  with_reducible refine (C0.out _ hD).mono ?_
  rintro e w9 ⟨rfl, hb⟩
  replace B := B.trans (hb.mono B.size)
  replace hD := hD.keep hb; replace hP := hP.keep hb; replace hR := hR.keep hb
  clear hb W hD hP
  have gR := hR.cells; have fR := hR.free
  go_wp2
  simp [bodyPost, results, Tryd.results21, go_sem, gR]
  repeat (first | with_reducible exact B | with_reducible refine Below.setCell ?_ o3 _)

set_option maxRecDepth 100000 in
set_option maxHeartbeats 4000000 in
theorem cneg_bad {x y : Int} {i : Bool} (C0 : Hid (∀ w, Mds w → Calls Tryd.prog 25 #[.agg #[.int .u64 (l0 x), .int .u64 (l1 x), .int .u64 (l2 x), .int .u64 (l3 x), .int .u64 (l0 y), .int .u64 (l1 y), .int .u64 (l2 y), .int .u64 (l3 y), .bool i]] w fun e w' => e = .returned (.bool false) ∧ Below w.heap.size w w')) (w : World) (hm : Mds w) :
    Calls Tryd.prog 23 #[.agg #[.int .u64 (l0 x), .int .u64 (l1 x), .int .u64 (l2 x), .int .u64 (l3 x), .int .u64 (l0 y), .int .u64 (l1 y), .int .u64 (l2 y), .int .u64 (l3 y), .bool i]] w fun e w' => e = .returned (.tuple #[.agg #[.int .u64 (l0 0), .int .u64 (l1 0), .int .u64 (l2 0), .int .u64 (l3 0), .int .u64 (l0 0), .int .u64 (l1 0), .int .u64 (l2 0), .int .u64 (l3 0), .bool false], .int .i64 50]) ∧ Below w.heap.size w w' := by
  obtain ⟨z0, z1, z2, z3⟩ := zero_limbs
  rw [z0, z1, z2, z3]
  clear z0 z1 z2 z3
  go_enter Tryd.func23, Tryd.ntmps23
  go_wp2_with fail
  refine calls_world (fun W => Below w.heap.size w W ∧ Mds W ∧ Pnt W w.heap.size x y i ∧ Bk9 W (w.heap.size + 1)) ⟨by repeat (first | with_reducible exact Below.refl _ _ | with_reducible refine Below.alloc ?_ (by first | omega | (simp; done) | (simp; omega)) _), (hm.alloc _).alloc _, (Pnt.new rfl).alloc _, Bk9.new (by simp)⟩ ?_
  rintro W ⟨B, hD, hP, hR⟩
  have o3 : w.heap.size ≤ w.heap.size + 1 := by omega
  generalize w.heap.size + 1 = br at *
  with_reducible refine (C0.out _ hD).mono ?_
  rintro e w9 ⟨rfl, hb⟩
  replace B := B.trans (hb.mono B.size)
  replace hD := hD.keep hb; replace hP := hP.keep hb; replace hR := hR.keep hb
  clear hb W hD hP
  have gR := hR.cells; have fR := hR.free
  go_wp2
  simp [bodyPost, results, Tryd.results23, go_sem, gR]
  repeat (first | with_reducible exact B | with_reducible refine Below.setCell ?_ o3 _)

set_option maxRecDepth 100000 in
set_option maxHeartbeats 4000000 in
theorem r5neg_id {x y : Int} (w : World) : Calls Tryd.prog 42 #[.agg #[.int .u64 (l0 x), .int .u64 (l1 x), .int .u64 (l2 x), .int .u64 (l3 x), .int .u64 (l0 y), .int .u64 (l1 y), .int .u64 (l2 y), .int .u64 (l3 y), .bool true]] w fun e w' => e = .returned (.agg #[.int .u64 (l0 x), .int .u64 (l1 x), .int .u64 (l2 x), .int .u64 (l3 x), .int .u64 (l0 y), .int .u64 (l1 y), .int .u64 (l2 y), .int .u64 (l3 y), .bool true]) ∧ Below w.heap.size w w' := by
  go_enter Tryd.func42, Tryd.ntmps42
  go_wp2
  simp [bodyPost, results, Tryd.results42, go_sem]
  repeat (first | with_reducible exact Below.refl _ _ | with_reducible refine Below.alloc ?_ (by first | omega | (simp; done) | (simp; omega)) _ | with_reducible refine Below.setCell ?_ (by first | omega | (simp; done) | (simp; omega)) _)
theorem r5neg_gen {x y : Int} {i : Bool} (h : Vd x y i) : Hid (∀ w, Calls Tryd.prog 42 #[.agg #[.int .u64 (l0 x), .int .u64 (l1 x), .int .u64 (l2 x), .int .u64 (l3 x), .int .u64 (l0 y), .int .u64 (l1 y), .int .u64 (l2 y), .int .u64 (l3 y), .bool i]] w fun e w' => e = .returned (.agg #[.int .u64 (l0 x), .int .u64 (l1 x), .int .u64 (l2 x), .int .u64 (l3 x), .int .u64 (l0 (modN pN (0 - y))), .int .u64 (l1 (modN pN (0 - y))), .int .u64 (l2 (modN pN (0 - y))), .int .u64 (l3 (modN pN (0 - y))), .bool i]) ∧ Below w.heap.size w w') := by
  cases i with
  | true =>
    obtain ⟨rfl, rfl⟩ := h
    exact fun w => r5neg_id w
  | false => exact fun w => r5neg_any h.2.1.num w
end Go.Proofs.YtjppjieidjodfabDoor

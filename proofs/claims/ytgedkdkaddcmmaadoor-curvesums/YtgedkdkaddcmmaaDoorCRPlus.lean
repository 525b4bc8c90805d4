import Derived.Test.YtgedkdkaddcmmaaDoorCBlend
namespace Go.Proofs.YtgedkdkaddcmmaaDoor
open Go.RowKit Go.Sort

set_option maxRecDepth 100000 in
set_option maxHeartbeats 4000000 in
theorem r5over_walk {x y v r : Int} (CV : Hid (∀ w, Calls Tryd.prog 45 #[.int .i64 0, .agg #[.int .u64 (l0 y), .int .u64 (l1 y), .int .u64 (l2 y), .int .u64 (l3 y)]] w fun e w' => e = .returned (.tuple #[.agg #[.int .u64 (l0 v), .int .u64 (l1 v), .int .u64 (l2 v), .int .u64 (l3 v)], .int .i64 0]) ∧ Below w.heap.size w w')) (CM : Hid (∀ w, Calls Tryd.prog 25 #[.agg #[.int .u64 (l0 x), .int .u64 (l1 x), .int .u64 (l2 x), .int .u64 (l3 x)], .agg #[.int .u64 (l0 v), .int .u64 (l1 v), .int .u64 (l2 v), .int .u64 (l3 v)]] w fun e w' => e = .returned (.agg #[.int .u64 (l0 r), .int .u64 (l1 r), .int .u64 (l2 r), .int .u64 (l3 r)]) ∧ Below w.heap.size w w')) (w : World) :
    Calls Tryd.prog 28 #[.agg #[.int .u64 (l0 x), .int .u64 (l1 x), .int .u64 (l2 x), .int .u64 (l3 x)], .agg #[.int .u64 (l0 y), .int .u64 (l1 y), .int .u64 (l2 y), .int .u64 (l3 y)]] w fun e w' => e = .returned (.agg #[.int .u64 (l0 r), .int .u64 (l1 r), .int .u64 (l2 r), .int .u64 (l3 r)]) ∧ Below w.heap.size w w' := by
  go_enter Tryd.func28, Tryd.ntmps28
  go_wp2_with fail
  refine calls_world (fun W => Below w.heap.size w W ∧ Hold W w.heap.size x ∧ Blank W (w.heap.size + 1 + 1)) ⟨by repeat (first | with_reducible exact Below.refl _ _ | with_reducible refine Below.alloc ?_ (by first | omega | (simp; done) | (simp; omega)) _), ((Hold.new _ _ _).alloc _).alloc _, Blank.new (by simp)⟩ ?_
  rintro W ⟨B, hX, hR⟩
  have o3 : w.heap.size ≤ w.heap.size + 1 + 1 := by omega
  generalize w.heap.size + 1 + 1 = br at *
  with_reducible refine (CV.out _).mono ?_
  rintro e w1 ⟨rfl, hb⟩
  replace B := B.trans (hb.mono B.size)
  replace hX := hX.keep hb; replace hR := hR.keep hb
  clear hb W
  have ghX := hX.allocs
  go_wp2_with fail
  refine calls_world (fun W => Below w.heap.size w W ∧ Hold W w.heap.size x ∧ Blank W br ∧ Hold W w1.heap.size v) ⟨B.alloc B.size _, hX.alloc _, hR.alloc _, Hold.new _ _ _⟩ ?_
  clear B hX hR ghX
  rintro W ⟨B, hX, hR, hV⟩
  generalize w1.heap.size = bv at *
  with_reducible refine (CM.out _).mono ?_
  rintro e w9 ⟨rfl, hb⟩
  replace B := B.trans (hb.mono B.size)
  replace hX := hX.keep hb; replace hR := hR.keep hb; replace hV := hV.keep hb
  clear hb W hX hV
  have gR := hR.1.all4; have fR := hR.2.all4
  go_wp2
  simp [bodyPost, results, Tryd.results28, go_sem, *]
  repeat (first | with_reducible exact B | with_reducible refine Below.setCell ?_ o3 _)

set_option maxRecDepth 100000 in
set_option maxHeartbeats 4000000 in
theorem r5plus_l {x y x2 y2 : Int} {i2 : Bool} (w : World) :
    Calls Tryd.prog 13 #[.agg #[.int .u64 (l0 x), .int .u64 (l1 x), .int .u64 (l2 x), .int .u64 (l3 x), .int .u64 (l0 y), .int .u64 (l1 y), .int .u64 (l2 y), .int .u64 (l3 y), .bool true], .agg #[.int .u64 (l0 x2), .int .u64 (l1 x2), .int .u64 (l2 x2), .int .u64 (l3 x2), .int .u64 (l0 y2), .int .u64 (l1 y2), .int .u64 (l2 y2), .int .u64 (l3 y2), .bool i2]] w fun e w' => e = .returned (.agg #[.int .u64 (l0 x2), .int .u64 (l1 x2), .int .u64 (l2 x2), .int .u64 (l3 x2), .int .u64 (l0 y2), .int .u64 (l1 y2), .int .u64 (l2 y2), .int .u64 (l3 y2), .bool i2]) ∧ Below w.heap.size w w' := by
  go_enter Tryd.func13, Tryd.ntmps13
  go_wp2
  simp [bodyPost, results, Tryd.results13, go_sem]
  repeat (first | with_reducible exact Below.refl _ _ | with_reducible refine Below.alloc ?_ (by first | omega | (simp; done) | (simp; omega)) _ | with_reducible refine Below.setCell ?_ (by first | omega | (simp; done) | (simp; omega)) _)

set_option maxRecDepth 100000 in
set_option maxHeartbeats 4000000 in
theorem r5plus_r {x y x2 y2 : Int} (w : World) :
    Calls Tryd.prog 13 #[.agg #[.int .u64 (l0 x), .int .u64 (l1 x), .int .u64 (l2 x), .int .u64 (l3 x), .int .u64 (l0 y), .int .u64 (l1 y), .int .u64 (l2 y), .int .u64 (l3 y), .bool false], .agg #[.int .u64 (l0 x2), .int .u64 (l1 x2), .int .u64 (l2 x2), .int .u64 (l3 x2), .int .u64 (l0 y2), .int .u64 (l1 y2), .int .u64 (l2 y2), .int .u64 (l3 y2), .bool true]] w fun e w' => e = .returned (.agg #[.int .u64 (l0 x), .int .u64 (l1 x), .int .u64 (l2 x), .int .u64 (l3 x), .int .u64 (l0 y), .int .u64 (l1 y), .int .u64 (l2 y), .int .u64 (l3 y), .bool false]) ∧ Below w.heap.size w w' := by
  go_enter Tryd.func13, Tryd.ntmps13
  go_wp2
  simp [bodyPost, results, Tryd.results13, go_sem]
  repeat (first | with_reducible exact Below.refl _ _ | with_reducible refine Below.alloc ?_ (by first | omega | (simp; done) | (simp; omega)) _ | with_reducible refine Below.setCell ?_ (by first | omega | (simp; done) | (simp; omega)) _)

set_option maxRecDepth 100000 in
set_option maxHeartbeats 4000000 in
theorem r5plus_opp {x y x2 y2 n : Int} (CN : Hid (∀ w, Calls Tryd.prog 27 #[.agg #[.int .u64 (l0 x), .int .u64 (l1 x), .int .u64 (l2 x), .int .u64 (l3 x), .int .u64 (l0 y), .int .u64 (l1 y), .int .u64 (l2 y), .int .u64 (l3 y), .bool false]] w fun e w' => e = .returned (.agg #[.int .u64 (l0 x), .int .u64 (l1 x), .int .u64 (l2 x), .int .u64 (l3 x), .int .u64 (l0 n), .int .u64 (l1 n), .int .u64 (l2 n), .int .u64 (l3 n), .bool false]) ∧ Below w.heap.size w w')) (E5 : ∀ w, (Op.equalIn 10000 27 (.agg #[.int .u64 (l0 x2), .int .u64 (l1 x2), .int .u64 (l2 x2), .int .u64 (l3 x2), .int .u64 (l0 y2), .int .u64 (l1 y2), .int .u64 (l2 y2), .int .u64 (l3 y2), .bool false]) (.agg #[.int .u64 (l0 x), .int .u64 (l1 x), .int .u64 (l2 x), .int .u64 (l3 x), .int .u64 (l0 n), .int .u64 (l1 n), .int .u64 (l2 n), .int .u64 (l3 n), .bool false])).run Tryd.prog w = .ok true w) (CI : Hid (∀ w, Calls Tryd.prog 12 #[] w fun e w' => e = .returned (.agg #[.int .u64 (l0 0), .int .u64 (l1 0), .int .u64 (l2 0), .int .u64 (l3 0), .int .u64 (l0 0), .int .u64 (l1 0), .int .u64 (l2 0), .int .u64 (l3 0), .bool true]) ∧ Below w.heap.size w w')) (w : World) :
    Calls Tryd.prog 13 #[.agg #[.int .u64 (l0 x), .int .u64 (l1 x), .int .u64 (l2 x), .int .u64 (l3 x), .int .u64 (l0 y), .int .u64 (l1 y), .int .u64 (l2 y), .int .u64 (l3 y), .bool false], .agg #[.int .u64 (l0 x2), .int .u64 (l1 x2), .int .u64 (l2 x2), .int .u64 (l3 x2), .int .u64 (l0 y2), .int .u64 (l1 y2), .int .u64 (l2 y2), .int .u64 (l3 y2), .bool false]] w fun e w' => e = .returned (.agg #[.int .u64 (l0 0), .int .u64 (l1 0), .int .u64 (l2 0), .int .u64 (l3 0), .int .u64 (l0 0), .int .u64 (l1 0), .int .u64 (l2 0), .int .u64 (l3 0), .bool true]) ∧ Below w.heap.size w w' := by
  go_enter Tryd.func13, Tryd.ntmps13
  go_wp2_with fail
  refine wp_world (fun W => Below w.heap.size w W ∧ Pnt W w.heap.size x y false ∧ Pnt W (w.heap.size + 1) x2 y2 false ∧ Bk9 W (w.heap.size + 1 + 1)) ⟨by repeat (first | with_reducible exact Below.refl _ _ | with_reducible refine Below.alloc ?_ (by first | omega | (simp; done) | (simp; omega)) _), ((Pnt.new rfl).alloc _).alloc _, (Pnt.new (by simp)).alloc _, Bk9.new (by simp)⟩ ?_
  rintro W ⟨B, hP, hQ, hR⟩
  have o3 : w.heap.size ≤ w.heap.size + 1 + 1 := by omega
  generalize w.heap.size + 1 + 1 = br at *
  generalize w.heap.size + 1 = bq at *
  have ghP := hP.grown
  have ghQ := hQ.grown
  refine wp_region_quiet_below (by kernel_rfl) (by kernel_rfl) ?_
  repeat
    first
      | go_big_quiet_skip
      | (go_big_quiet_want; go_big_quiet_op; go_big_quiet_on)
      | (go_big_quiet_want
         go_big_quiet_op
         apply Exists.intro
         refine ⟨fun p => ?_, ?_⟩
         · (first | (go_at_call 27; with_reducible exact Calls.regrown_of (CN.out _)))
         go_big_quiet_on)
  refine wpQuiet_nil ?_
  rintro w1 ⟨p, rfl⟩
  have hb := below_regrown W p.d p.os
  generalize grow (redrawn W p.d) p.os = w1 at *
  replace B := B.trans (hb.mono B.size)
  replace hP := hP.keep hb; replace hQ := hQ.keep hb; replace hR := hR.keep hb
  clear hb W ghP ghQ 
  go_wp2_with fail
  refine calls_world (fun W => Below w.heap.size w W ∧ Bk9 W br) ⟨B, hR⟩ ?_
  clear B hP hQ hR
  rintro W ⟨B, hR⟩
  with_reducible refine (CI.out _).mono ?_
  rintro e w9 ⟨rfl, hb⟩
  replace B := B.trans (hb.mono B.size)
  replace hR := hR.keep hb
  clear hb W
  have gR := hR.cells; have fR := hR.free
  go_wp2
  simp [bodyPost, results, Tryd.results13, go_sem, gR]
  repeat (first | with_reducible exact B | with_reducible refine Below.setCell ?_ o3 _)

set_option maxRecDepth 100000 in
set_option maxHeartbeats 8000000 in
theorem r5plus_tan {x y x2 y2 n m a c u dd e1 v b1 b2 b3 : Int} (CN : Hid (∀ w, Calls Tryd.prog 27 #[.agg #[.int .u64 (l0 x), .int .u64 (l1 x), .int .u64 (l2 x), .int .u64 (l3 x), .int .u64 (l0 y), .int .u64 (l1 y), .int .u64 (l2 y), .int .u64 (l3 y), .bool false]] w fun e w' => e = .returned (.agg #[.int .u64 (l0 x), .int .u64 (l1 x), .int .u64 (l2 x), .int .u64 (l3 x), .int .u64 (l0 n), .int .u64 (l1 n), .int .u64 (l2 n), .int .u64 (l3 n), .bool false]) ∧ Below w.heap.size w w')) (E5 : ∀ w, (Op.equalIn 10000 27 (.agg #[.int .u64 (l0 x2), .int .u64 (l1 x2), .int .u64 (l2 x2), .int .u64 (l3 x2), .int .u64 (l0 y2), .int .u64 (l1 y2), .int .u64 (l2 y2), .int .u64 (l3 y2), .bool false]) (.agg #[.int .u64 (l0 x), .int .u64 (l1 x), .int .u64 (l2 x), .int .u64 (l3 x), .int .u64 (l0 n), .int .u64 (l1 n), .int .u64 (l2 n), .int .u64 (l3 n), .bool false])).run Tryd.prog w = .ok false w) (E8 : ∀ w, (Op.equalIn 10000 27 (.agg #[.int .u64 (l0 x), .int .u64 (l1 x), .int .u64 (l2 x), .int .u64 (l3 x), .int .u64 (l0 y), .int .u64 (l1 y), .int .u64 (l2 y), .int .u64 (l3 y), .bool false]) (.agg #[.int .u64 (l0 x2), .int .u64 (l1 x2), .int .u64 (l2 x2), .int .u64 (l3 x2), .int .u64 (l0 y2), .int .u64 (l1 y2), .int .u64 (l2 y2), .int .u64 (l3 y2), .bool false])).run Tryd.prog w = .ok true w)
    (B1 : Hid (∀ w, Calls Tryd.prog 25 #[.agg #[.int .u64 (l0 x), .int .u64 (l1 x), .int .u64 (l2 x), .int .u64 (l3 x)], .agg #[.int .u64 (l0 x), .int .u64 (l1 x), .int .u64 (l2 x), .int .u64 (l3 x)]] w fun e w' => e = .returned (.agg #[.int .u64 (l0 b1), .int .u64 (l1 b1), .int .u64 (l2 b1), .int .u64 (l3 b1)]) ∧ Below w.heap.size w w')) (B2 : Hid (∀ w, Calls Tryd.prog 29 #[.int .u64 3, .agg #[.int .u64 (l0 b1), .int .u64 (l1 b1), .int .u64 (l2 b1), .int .u64 (l3 b1)]] w fun e w' => e = .returned (.agg #[.int .u64 (l0 b2), .int .u64 (l1 b2), .int .u64 (l2 b2), .int .u64 (l3 b2)]) ∧ Below w.heap.size w w')) (B3 : Hid (∀ w, Calls Tryd.prog 29 #[.int .u64 2, .agg #[.int .u64 (l0 y), .int .u64 (l1 y), .int .u64 (l2 y), .int .u64 (l3 y)]] w fun e w' => e = .returned (.agg #[.int .u64 (l0 b3), .int .u64 (l1 b3), .int .u64 (l2 b3), .int .u64 (l3 b3)]) ∧ Below w.heap.size w w')) (B4 : Hid (∀ w, Calls Tryd.prog 28 #[.agg #[.int .u64 (l0 b2), .int .u64 (l1 b2), .int .u64 (l2 b2), .int .u64 (l3 b2)], .agg #[.int .u64 (l0 b3), .int .u64 (l1 b3), .int .u64 (l2 b3), .int .u64 (l3 b3)]] w fun e w' => e = .returned (.agg #[.int .u64 (l0 m), .int .u64 (l1 m), .int .u64 (l2 m), .int .u64 (l3 m)]) ∧ Below w.heap.size w w')) (A1 : Hid (∀ w, Calls Tryd.prog 25 #[.agg #[.int .u64 (l0 m), .int .u64 (l1 m), .int .u64 (l2 m), .int .u64 (l3 m)], .agg #[.int .u64 (l0 m), .int .u64 (l1 m), .int .u64 (l2 m), .int .u64 (l3 m)]] w fun e w' => e = .returned (.agg #[.int .u64 (l0 a), .int .u64 (l1 a), .int .u64 (l2 a), .int .u64 (l3 a)]) ∧ Below w.heap.size w w')) (A2 : Hid (∀ w, Calls Tryd.prog 30 #[.agg #[.int .u64 (l0 a), .int .u64 (l1 a), .int .u64 (l2 a), .int .u64 (l3 a)], .agg #[.int .u64 (l0 x), .int .u64 (l1 x), .int .u64 (l2 x), .int .u64 (l3 x)]] w fun e w' => e = .returned (.agg #[.int .u64 (l0 c), .int .u64 (l1 c), .int .u64 (l2 c), .int .u64 (l3 c)]) ∧ Below w.heap.size w w')) (A3 : Hid (∀ w, Calls Tryd.prog 30 #[.agg #[.int .u64 (l0 c), .int .u64 (l1 c), .int .u64 (l2 c), .int .u64 (l3 c)], .agg #[.int .u64 (l0 x2), .int .u64 (l1 x2), .int .u64 (l2 x2), .int .u64 (l3 x2)]] w fun e w' => e = .returned (.agg #[.int .u64 (l0 u), .int .u64 (l1 u), .int .u64 (l2 u), .int .u64 (l3 u)]) ∧ Below w.heap.size w w')) (A4 : Hid (∀ w, Calls Tryd.prog 30 #[.agg #[.int .u64 (l0 x), .int .u64 (l1 x), .int .u64 (l2 x), .int .u64 (l3 x)], .agg #[.int .u64 (l0 u), .int .u64 (l1 u), .int .u64 (l2 u), .int .u64 (l3 u)]] w fun e w' => e = .returned (.agg #[.int .u64 (l0 dd), .int .u64 (l1 dd), .int .u64 (l2 dd), .int .u64 (l3 dd)]) ∧ Below w.heap.size w w')) (A5 : Hid (∀ w, Calls Tryd.prog 25 #[.agg #[.int .u64 (l0 m), .int .u64 (l1 m), .int .u64 (l2 m), .int .u64 (l3 m)], .agg #[.int .u64 (l0 dd), .int .u64 (l1 dd), .int .u64 (l2 dd), .int .u64 (l3 dd)]] w fun e w' => e = .returned (.agg #[.int .u64 (l0 e1), .int .u64 (l1 e1), .int .u64 (l2 e1), .int .u64 (l3 e1)]) ∧ Below w.heap.size w w')) (A6 : Hid (∀ w, Calls Tryd.prog 30 #[.agg #[.int .u64 (l0 e1), .int .u64 (l1 e1), .int .u64 (l2 e1), .int .u64 (l3 e1)], .agg #[.int .u64 (l0 y), .int .u64 (l1 y), .int .u64 (l2 y), .int .u64 (l3 y)]] w fun e w' => e = .returned (.agg #[.int .u64 (l0 v), .int .u64 (l1 v), .int .u64 (l2 v), .int .u64 (l3 v)]) ∧ Below w.heap.size w w')) (w : World) :
    Calls Tryd.prog 13 #[.agg #[.int .u64 (l0 x), .int .u64 (l1 x), .int .u64 (l2 x), .int .u64 (l3 x), .int .u64 (l0 y), .int .u64 (l1 y), .int .u64 (l2 y), .int .u64 (l3 y), .bool false], .agg #[.int .u64 (l0 x2), .int .u64 (l1 x2), .int .u64 (l2 x2), .int .u64 (l3 x2), .int .u64 (l0 y2), .int .u64 (l1 y2), .int .u64 (l2 y2), .int .u64 (l3 y2), .bool false]] w fun e w' => e = .returned (.agg #[.int .u64 (l0 u), .int .u64 (l1 u), .int .u64 (l2 u), .int .u64 (l3 u), .int .u64 (l0 v), .int .u64 (l1 v), .int .u64 (l2 v), .int .u64 (l3 v), .bool false]) ∧ Below w.heap.size w w' := by
  go_enter Tryd.func13, Tryd.ntmps13
  go_wp2_with fail
  refine wp_world (fun W => Below w.heap.size w W ∧ Pnt W w.heap.size x y false ∧ Pnt W (w.heap.size + 1) x2 y2 false ∧ Bk9 W (w.heap.size + 1 + 1)) ⟨by repeat (first | with_reducible exact Below.refl _ _ | with_reducible refine Below.alloc ?_ (by first | omega | (simp; done) | (simp; omega)) _), ((Pnt.new rfl).alloc _).alloc _, (Pnt.new (by simp)).alloc _, Bk9.new (by simp)⟩ ?_
  rintro W ⟨B, hP, hQ, hR⟩
  have o3 : w.heap.size ≤ w.heap.size + 1 + 1 := by omega
  generalize w.heap.size + 1 + 1 = br at *
  generalize w.heap.size + 1 = bq at *
  have ghP := hP.grown
  have ghQ := hQ.grown
  refine wp_region_quiet_below (by kernel_rfl) (by kernel_rfl) ?_
  repeat
    first
      | go_big_quiet_skip
      | (go_big_quiet_want; go_big_quiet_op; go_big_quiet_on)
      | (go_big_quiet_want
         go_big_quiet_op
         apply Exists.intro
         refine ⟨fun p => ?_, ?_⟩
         · (first | (go_at_call 27; with_reducible exact Calls.regrown_of (CN.out _)))
         go_big_quiet_on)
  refine wpQuiet_nil ?_
  rintro w1 ⟨p, rfl⟩
  have hb := below_regrown W p.d p.os
  generalize grow (redrawn W p.d) p.os = w1 at *
  replace B := B.trans (hb.mono B.size)
  replace hP := hP.keep hb; replace hQ := hQ.keep hb; replace hR := hR.keep hb
  clear hb W ghP ghQ 
  have ghP := fun o => (hP.alloc o).cells
  have ghQ := fun o => (hQ.alloc o).cells
  go_wp2_with fail
  refine wp_world (fun W => Below w.heap.size w W ∧ Pnt W w.heap.size x y false ∧ Pnt W bq x2 y2 false ∧ Bk9 W br ∧ Blank W w1.heap.size) ⟨B.alloc B.size _, hP.alloc _, hQ.alloc _, hR.alloc _, Blank.new rfl⟩ ?_
  have np : w1.heap.size ≠ w.heap.size := Nat.ne_of_gt hP.lt
  have nq : w1.heap.size ≠ bq := Nat.ne_of_gt hQ.lt
  have nr : w1.heap.size ≠ br := Nat.ne_of_gt hR.lt
  have gm : w.heap.size ≤ w1.heap.size := B.size
  clear B hP hQ hR ghP ghQ
  generalize w1.heap.size = bm at *
  clear w1
  rintro W ⟨B, hP, hQ, hR, hM⟩
  have ghP := hP.grown
  have ghQ := hQ.grown
  refine below_tail 10 (by kernel_rfl) (by kernel_rfl) ?_
  simp only [List.take_succ_cons, List.take_zero, List.drop_succ_cons, List.drop_zero]
  repeat
    first
      | go_big_quiet_skip
      | (go_big_quiet_want; go_big_quiet_op; go_big_quiet_on)
      | (go_big_quiet_want
         go_big_quiet_op
         apply Exists.intro
         refine ⟨fun p => ?_, ?_⟩
         · (first | (go_at_call 25; with_reducible exact Calls.regrown_of (B1.out _)) | (go_at_call 29; with_reducible exact Calls.regrown_of (B2.out _)) | (go_at_call 29; with_reducible exact Calls.regrown_of (B3.out _)) | (go_at_call 28; with_reducible exact Calls.regrown_of (B4.out _)))
         go_big_quiet_on)
  refine wpQuiet_nil ?_
  rintro w2 ⟨p, rfl⟩
  have hb := below_regrown W p.d p.os
  generalize grow (redrawn W p.d) p.os = w2 at *
  replace B := B.trans (hb.mono B.size)
  replace hP := hP.keep hb; replace hQ := hQ.keep hb; replace hR := hR.keep hb; replace hM := hM.keep hb
  clear hb W ghP ghQ 
  have gM := hM.1.all4; have fM := hM.2.all4
  go_wp2_with fail
  refine wp_world (fun W => Below w.heap.size w W ∧ Pnt W w.heap.size x y false ∧ Pnt W bq x2 y2 false ∧ Bk9 W br ∧ Hold W bm m) ⟨below_set4 B gm _ _ _ _, hP.set4 np _ _ _ _, hQ.set4 nq _ _ _ _, hR.set4 nr _ _ _ _, Hold.sets4 (Blank.has hM)⟩ ?_
  clear B hP hQ hR hM gM fM np nq nr gm
  clear w2
  rintro W ⟨B, hP, hQ, hR, hM⟩
  refine alloc_tail (A := ?AA1) 9 (by kernel_rfl) (by kernel_rfl) rfl rfl (alloc_num _ _ _) (fun V hV => ?HH1) (fun V w1 hV hw => ?TT1)
  case HH1 =>
    have ghP := (hP.keep hV).grown
    have ghQ := (hQ.keep hV).grown
    have ghM := (hM.keep hV).grown
    unfold Gr
    simp only [List.take_succ_cons, List.take_zero]
    repeat
      first
        | go_big_quiet_skip
        | (go_big_quiet_want; go_big_quiet_op; go_big_quiet_on)
        | (go_big_quiet_want
           go_big_quiet_op
           apply Exists.intro
           refine ⟨fun p => ?_, ?_⟩
           · (first | (go_at_call 25; with_reducible exact Calls.regrown_of (A1.out _)) | (go_at_call 30; with_reducible exact Calls.regrown_of (A2.out _)) | (go_at_call 30; with_reducible exact Calls.regrown_of (A3.out _)))
           go_big_quiet_on)
    refine wpQuiet_nil ?_
    exact rfl
  case TT1 =>
    have hb := alloc_below hV hw
    have hN := (Blank.new rfl).keep hw
    have nhP : V.heap.size ≠ w.heap.size := Nat.ne_of_gt (Nat.lt_of_lt_of_le (hP.lt) hV.size)
    have nhQ : V.heap.size ≠ bq := Nat.ne_of_gt (Nat.lt_of_lt_of_le (hQ.lt) hV.size)
    have nhR : V.heap.size ≠ br := Nat.ne_of_gt (Nat.lt_of_lt_of_le (hR.lt) hV.size)
    have nhM : V.heap.size ≠ bm := Nat.ne_of_gt (Nat.lt_of_lt_of_le (World.block_lt_of_cell? _ _ hM.1) hV.size)
    have gn : w.heap.size ≤ V.heap.size := Nat.le_trans B.size hV.size
    replace B := B.trans (hb.mono B.size)
    replace hP := hP.keep hb; replace hQ := hQ.keep hb; replace hR := hR.keep hb; replace hM := hM.keep hb
    clear hb hw hV W
    generalize V.heap.size = bx at *
    clear V
    have gN := hN.1.all4; have qN := hN.2.all4
    have mhP := nhP.symm
    have mhQ := nhQ.symm
    have mhR := nhR.symm
    have mhM := nhM.symm
    simp only [List.drop_succ_cons, List.drop_zero, Act.put, List.setIfInBounds_toArray, List.set_cons_zero, List.set_cons_succ]
    go_wp2_with fail
    refine wp_world (fun W => Below w.heap.size w W ∧ Pnt W w.heap.size x y false ∧ Pnt W bq x2 y2 false ∧ Bk9 W br ∧ Hold W bm m ∧ Hold W bx u) ⟨below_set4 B gn _ _ _ _, hP.set4 nhP _ _ _ _, hQ.set4 nhQ _ _ _ _, hR.set4 nhR _ _ _ _, hM.set4 nhM _ _ _ _, Hold.sets4 (Blank.has hN)⟩ ?_
    clear B hN gN qN hP hQ hR hM nhP mhP nhQ mhQ nhR mhR nhM mhM  gn
    rintro W ⟨B, hP, hQ, hR, hM, hX⟩
    clear w1
    clear hQ
    refine alloc_tail (A := ?AA2) 9 (by kernel_rfl) (by kernel_rfl) rfl rfl (alloc_num _ _ _) (fun V hV => ?HH2) (fun V w1 hV hw => ?TT2)
    case HH2 =>
      have ghP := (hP.keep hV).grown
      have ghM := (hM.keep hV).grown
      have ghX := (hX.keep hV).grown
      unfold Gr
      simp only [List.take_succ_cons, List.take_zero]
      repeat
        first
          | go_big_quiet_skip
          | (go_big_quiet_want; go_big_quiet_op; go_big_quiet_on)
          | (go_big_quiet_want
             go_big_quiet_op
             apply Exists.intro
             refine ⟨fun p => ?_, ?_⟩
             · (first | (go_at_call 30; with_reducible exact Calls.regrown_of (A4.out _)) | (go_at_call 25; with_reducible exact Calls.regrown_of (A5.out _)) | (go_at_call 30; with_reducible exact Calls.regrown_of (A6.out _)))
             go_big_quiet_on)
      refine wpQuiet_nil ?_
      exact rfl
    case TT2 =>
      have hb := alloc_below hV hw
      have hN := (Blank.new rfl).keep hw
      have nhP : V.heap.size ≠ w.heap.size := Nat.ne_of_gt (Nat.lt_of_lt_of_le (hP.lt) hV.size)
      have nhR : V.heap.size ≠ br := Nat.ne_of_gt (Nat.lt_of_lt_of_le (hR.lt) hV.size)
      have nhM : V.heap.size ≠ bm := Nat.ne_of_gt (Nat.lt_of_lt_of_le (World.block_lt_of_cell? _ _ hM.1) hV.size)
      have nhX : V.heap.size ≠ bx := Nat.ne_of_gt (Nat.lt_of_lt_of_le (World.block_lt_of_cell? _ _ hX.1) hV.size)
      have gn : w.heap.size ≤ V.heap.size := Nat.le_trans B.size hV.size
      replace B := B.trans (hb.mono B.size)
      replace hP := hP.keep hb; replace hR := hR.keep hb; replace hM := hM.keep hb; replace hX := hX.keep hb
      clear hb hw hV W
      generalize V.heap.size = by1 at *
      clear V
      have gN := hN.1.all4; have qN := hN.2.all4
      have ghX := hX.cells
      have ghR := hR.cells; have qhR := hR.free
      have mhP := nhP.symm
      have mhR := nhR.symm
      have mhM := nhM.symm
      have mhX := nhX.symm
      simp only [List.drop_succ_cons, List.drop_zero, Act.put, List.setIfInBounds_toArray, List.set_cons_zero, List.set_cons_succ]
      go_wp2
      simp [bodyPost, results, Tryd.results13, go_sem, *]
      repeat (first | with_reducible exact B | with_reducible refine Below.setCell ?_ o3 _ | with_reducible refine Below.setCell ?_ gn _)

set_option maxRecDepth 100000 in
set_option maxHeartbeats 8000000 in
theorem r5plus_cho {x y x2 y2 n m a c u dd e1 v b1 b2 : Int} (CN : Hid (∀ w, Calls Tryd.prog 27 #[.agg #[.int .u64 (l0 x), .int .u64 (l1 x), .int .u64 (l2 x), .int .u64 (l3 x), .int .u64 (l0 y), .int .u64 (l1 y), .int .u64 (l2 y), .int .u64 (l3 y), .bool false]] w fun e w' => e = .returned (.agg #[.int .u64 (l0 x), .int .u64 (l1 x), .int .u64 (l2 x), .int .u64 (l3 x), .int .u64 (l0 n), .int .u64 (l1 n), .int .u64 (l2 n), .int .u64 (l3 n), .bool false]) ∧ Below w.heap.size w w')) (E5 : ∀ w, (Op.equalIn 10000 27 (.agg #[.int .u64 (l0 x2), .int .u64 (l1 x2), .int .u64 (l2 x2), .int .u64 (l3 x2), .int .u64 (l0 y2), .int .u64 (l1 y2), .int .u64 (l2 y2), .int .u64 (l3 y2), .bool false]) (.agg #[.int .u64 (l0 x), .int .u64 (l1 x), .int .u64 (l2 x), .int .u64 (l3 x), .int .u64 (l0 n), .int .u64 (l1 n), .int .u64 (l2 n), .int .u64 (l3 n), .bool false])).run Tryd.prog w = .ok false w) (E8 : ∀ w, (Op.equalIn 10000 27 (.agg #[.int .u64 (l0 x), .int .u64 (l1 x), .int .u64 (l2 x), .int .u64 (l3 x), .int .u64 (l0 y), .int .u64 (l1 y), .int .u64 (l2 y), .int .u64 (l3 y), .bool false]) (.agg #[.int .u64 (l0 x2), .int .u64 (l1 x2), .int .u64 (l2 x2), .int .u64 (l3 x2), .int .u64 (l0 y2), .int .u64 (l1 y2), .int .u64 (l2 y2), .int .u64 (l3 y2), .bool false])).run Tryd.prog w = .ok false w)
    (B1 : Hid (∀ w, Calls Tryd.prog 30 #[.agg #[.int .u64 (l0 y2), .int .u64 (l1 y2), .int .u64 (l2 y2), .int .u64 (l3 y2)], .agg #[.int .u64 (l0 y), .int .u64 (l1 y), .int .u64 (l2 y), .int .u64 (l3 y)]] w fun e w' => e = .returned (.agg #[.int .u64 (l0 b1), .int .u64 (l1 b1), .int .u64 (l2 b1), .int .u64 (l3 b1)]) ∧ Below w.heap.size w w')) (B2 : Hid (∀ w, Calls Tryd.prog 30 #[.agg #[.int .u64 (l0 x2), .int .u64 (l1 x2), .int .u64 (l2 x2), .int .u64 (l3 x2)], .agg #[.int .u64 (l0 x), .int .u64 (l1 x), .int .u64 (l2 x), .int .u64 (l3 x)]] w fun e w' => e = .returned (.agg #[.int .u64 (l0 b2), .int .u64 (l1 b2), .int .u64 (l2 b2), .int .u64 (l3 b2)]) ∧ Below w.heap.size w w')) (B4 : Hid (∀ w, Calls Tryd.prog 28 #[.agg #[.int .u64 (l0 b1), .int .u64 (l1 b1), .int .u64 (l2 b1), .int .u64 (l3 b1)], .agg #[.int .u64 (l0 b2), .int .u64 (l1 b2), .int .u64 (l2 b2), .int .u64 (l3 b2)]] w fun e w' => e = .returned (.agg #[.int .u64 (l0 m), .int .u64 (l1 m), .int .u64 (l2 m), .int .u64 (l3 m)]) ∧ Below w.heap.size w w')) (A1 : Hid (∀ w, Calls Tryd.prog 25 #[.agg #[.int .u64 (l0 m), .int .u64 (l1 m), .int .u64 (l2 m), .int .u64 (l3 m)], .agg #[.int .u64 (l0 m), .int .u64 (l1 m), .int .u64 (l2 m), .int .u64 (l3 m)]] w fun e w' => e = .returned (.agg #[.int .u64 (l0 a), .int .u64 (l1 a), .int .u64 (l2 a), .int .u64 (l3 a)]) ∧ Below w.heap.size w w')) (A2 : Hid (∀ w, Calls Tryd.prog 30 #[.agg #[.int .u64 (l0 a), .int .u64 (l1 a), .int .u64 (l2 a), .int .u64 (l3 a)], .agg #[.int .u64 (l0 x), .int .u64 (l1 x), .int .u64 (l2 x), .int .u64 (l3 x)]] w fun e w' => e = .returned (.agg #[.int .u64 (l0 c), .int .u64 (l1 c), .int .u64 (l2 c), .int .u64 (l3 c)]) ∧ Below w.heap.size w w')) (A3 : Hid (∀ w, Calls Tryd.prog 30 #[.agg #[.int .u64 (l0 c), .int .u64 (l1 c), .int .u64 (l2 c), .int .u64 (l3 c)], .agg #[.int .u64 (l0 x2), .int .u64 (l1 x2), .int .u64 (l2 x2), .int .u64 (l3 x2)]] w fun e w' => e = .returned (.agg #[.int .u64 (l0 u), .int .u64 (l1 u), .int .u64 (l2 u), .int .u64 (l3 u)]) ∧ Below w.heap.size w w')) (A4 : Hid (∀ w, Calls Tryd.prog 30 #[.agg #[.int .u64 (l0 x), .int .u64 (l1 x), .int .u64 (l2 x), .int .u64 (l3 x)], .agg #[.int .u64 (l0 u), .int .u64 (l1 u), .int .u64 (l2 u), .int .u64 (l3 u)]] w fun e w' => e = .returned (.agg #[.int .u64 (l0 dd), .int .u64 (l1 dd), .int .u64 (l2 dd), .int .u64 (l3 dd)]) ∧ Below w.heap.size w w')) (A5 : Hid (∀ w, Calls Tryd.prog 25 #[.agg #[.int .u64 (l0 m), .int .u64 (l1 m), .int .u64 (l2 m), .int .u64 (l3 m)], .agg #[.int .u64 (l0 dd), .int .u64 (l1 dd), .int .u64 (l2 dd), .int .u64 (l3 dd)]] w fun e w' => e = .returned (.agg #[.int .u64 (l0 e1), .int .u64 (l1 e1), .int .u64 (l2 e1), .int .u64 (l3 e1)]) ∧ Below w.heap.size w w')) (A6 : Hid (∀ w, Calls Tryd.prog 30 #[.agg #[.int .u64 (l0 e1), .int .u64 (l1 e1), .int .u64 (l2 e1), .int .u64 (l3 e1)], .agg #[.int .u64 (l0 y), .int .u64 (l1 y), .int .u64 (l2 y), .int .u64 (l3 y)]] w fun e w' => e = .returned (.agg #[.int .u64 (l0 v), .int .u64 (l1 v), .int .u64 (l2 v), .int .u64 (l3 v)]) ∧ Below w.heap.size w w')) (w : World) :
    Calls Tryd.prog 13 #[.agg #[.int .u64 (l0 x), .int .u64 (l1 x), .int .u64 (l2 x), .int .u64 (l3 x), .int .u64 (l0 y), .int .u64 (l1 y), .int .u64 (l2 y), .int .u64 (l3 y), .bool false], .agg #[.int .u64 (l0 x2), .int .u64 (l1 x2), .int .u64 (l2 x2), .int .u64 (l3 x2), .int .u64 (l0 y2), .int .u64 (l1 y2), .int .u64 (l2 y2), .int .u64 (l3 y2), .bool false]] w fun e w' => e = .returned (.agg #[.int .u64 (l0 u), .int .u64 (l1 u), .int .u64 (l2 u), .int .u64 (l3 u), .int .u64 (l0 v), .int .u64 (l1 v), .int .u64 (l2 v), .int .u64 (l3 v), .bool false]) ∧ Below w.heap.size w w' := by
  go_enter Tryd.func13, Tryd.ntmps13
  go_wp2_with fail
  refine wp_world (fun W => Below w.heap.size w W ∧ Pnt W w.heap.size x y false ∧ Pnt W (w.heap.size + 1) x2 y2 false ∧ Bk9 W (w.heap.size + 1 + 1)) ⟨by repeat (first | with_reducible exact Below.refl _ _ | with_reducible refine Below.alloc ?_ (by first | omega | (simp; done) | (simp; omega)) _), ((Pnt.new rfl).alloc _).alloc _, (Pnt.new (by simp)).alloc _, Bk9.new (by simp)⟩ ?_
  rintro W ⟨B, hP, hQ, hR⟩
  have o3 : w.heap.size ≤ w.heap.size + 1 + 1 := by omega
  generalize w.heap.size + 1 + 1 = br at *
  generalize w.heap.size + 1 = bq at *
  have ghP := hP.grown
  have ghQ := hQ.grown
  refine wp_region_quiet_below (by kernel_rfl) (by kernel_rfl) ?_
  repeat
    first
      | go_big_quiet_skip
      | (go_big_quiet_want; go_big_quiet_op; go_big_quiet_on)
      | (go_big_quiet_want
         go_big_quiet_op
         apply Exists.intro
         refine ⟨fun p => ?_, ?_⟩
         · (first | (go_at_call 27; with_reducible exact Calls.regrown_of (CN.out _)))
         go_big_quiet_on)
  refine wpQuiet_nil ?_
  rintro w1 ⟨p, rfl⟩
  have hb := below_regrown W p.d p.os
  generalize grow (redrawn W p.d) p.os = w1 at *
  replace B := B.trans (hb.mono B.size)
  replace hP := hP.keep hb; replace hQ := hQ.keep hb; replace hR := hR.keep hb
  clear hb W ghP ghQ 
  have ghP := fun o => (hP.alloc o).cells
  have ghQ := fun o => (hQ.alloc o).cells
  go_wp2_with fail
  refine wp_world (fun W => Below w.heap.size w W ∧ Pnt W w.heap.size x y false ∧ Pnt W bq x2 y2 false ∧ Bk9 W br ∧ Blank W w1.heap.size) ⟨B.alloc B.size _, hP.alloc _, hQ.alloc _, hR.alloc _, Blank.new rfl⟩ ?_
  have np : w1.heap.size ≠ w.heap.size := Nat.ne_of_gt hP.lt
  have nq : w1.heap.size ≠ bq := Nat.ne_of_gt hQ.lt
  have nr : w1.heap.size ≠ br := Nat.ne_of_gt hR.lt
  have gm : w.heap.size ≤ w1.heap.size := B.size
  clear B hP hQ hR ghP ghQ
  generalize w1.heap.size = bm at *
  clear w1
  rintro W ⟨B, hP, hQ, hR, hM⟩
  have ghP := hP.grown
  have ghQ := hQ.grown
  refine below_tail 11 (by kernel_rfl) (by kernel_rfl) ?_
  simp only [List.take_succ_cons, List.take_zero, List.drop_succ_cons, List.drop_zero]
  repeat
    first
      | go_big_quiet_skip
      | (go_big_quiet_want; go_big_quiet_op; go_big_quiet_on)
      | (go_big_quiet_want
         go_big_quiet_op
         apply Exists.intro
         refine ⟨fun p => ?_, ?_⟩
         · (first | (go_at_call 30; with_reducible exact Calls.regrown_of (B1.out _)) | (go_at_call 30; with_reducible exact Calls.regrown_of (B2.out _)) | (go_at_call 28; with_reducible exact Calls.regrown_of (B4.out _)))
         go_big_quiet_on)
  refine wpQuiet_nil ?_
  rintro w2 ⟨p, rfl⟩
  have hb := below_regrown W p.d p.os
  generalize grow (redrawn W p.d) p.os = w2 at *
  replace B := B.trans (hb.mono B.size)
  replace hP := hP.keep hb; replace hQ := hQ.keep hb; replace hR := hR.keep hb; replace hM := hM.keep hb
  clear hb W ghP ghQ 
  have gM := hM.1.all4; have fM := hM.2.all4
  go_wp2_with fail
  refine wp_world (fun W => Below w.heap.size w W ∧ Pnt W w.heap.size x y false ∧ Pnt W bq x2 y2 false ∧ Bk9 W br ∧ Hold W bm m) ⟨below_set4 B gm _ _ _ _, hP.set4 np _ _ _ _, hQ.set4 nq _ _ _ _, hR.set4 nr _ _ _ _, Hold.sets4 (Blank.has hM)⟩ ?_
  clear B hP hQ hR hM gM fM np nq nr gm
  clear w2
  rintro W ⟨B, hP, hQ, hR, hM⟩
  refine alloc_tail (A := ?AA1) 9 (by kernel_rfl) (by kernel_rfl) rfl rfl (alloc_num _ _ _) (fun V hV => ?HH1) (fun V w1 hV hw => ?TT1)
  case HH1 =>
    have ghP := (hP.keep hV).grown
    have ghQ := (hQ.keep hV).grown
    have ghM := (hM.keep hV).grown
    unfold Gr
    simp only [List.take_succ_cons, List.take_zero]
    repeat
      first
        | go_big_quiet_skip
        | (go_big_quiet_want; go_big_quiet_op; go_big_quiet_on)
        | (go_big_quiet_want
           go_big_quiet_op
           apply Exists.intro
           refine ⟨fun p => ?_, ?_⟩
           · (first | (go_at_call 25; with_reducible exact Calls.regrown_of (A1.out _)) | (go_at_call 30; with_reducible exact Calls.regrown_of (A2.out _)) | (go_at_call 30; with_reducible exact Calls.regrown_of (A3.out _)))
           go_big_quiet_on)
    refine wpQuiet_nil ?_
    exact rfl
  case TT1 =>
    have hb := alloc_below hV hw
    have hN := (Blank.new rfl).keep hw
    have nhP : V.heap.size ≠ w.heap.size := Nat.ne_of_gt (Nat.lt_of_lt_of_le (hP.lt) hV.size)
    have nhQ : V.heap.size ≠ bq := Nat.ne_of_gt (Nat.lt_of_lt_of_le (hQ.lt) hV.size)
    have nhR : V.heap.size ≠ br := Nat.ne_of_gt (Nat.lt_of_lt_of_le (hR.lt) hV.size)
    have nhM : V.heap.size ≠ bm := Nat.ne_of_gt (Nat.lt_of_lt_of_le (World.block_lt_of_cell? _ _ hM.1) hV.size)
    have gn : w.heap.size ≤ V.heap.size := Nat.le_trans B.size hV.size
    replace B := B.trans (hb.mono B.size)
    replace hP := hP.keep hb; replace hQ := hQ.keep hb; replace hR := hR.keep hb; replace hM := hM.keep hb
    clear hb hw hV W
    generalize V.heap.size = bx at *
    clear V
    have gN := hN.1.all4; have qN := hN.2.all4
    have mhP := nhP.symm
    have mhQ := nhQ.symm
    have mhR := nhR.symm
    have mhM := nhM.symm
    simp only [List.drop_succ_cons, List.drop_zero, Act.put, List.setIfInBounds_toArray, List.set_cons_zero, List.set_cons_succ]
    go_wp2_with fail
    refine wp_world (fun W => Below w.heap.size w W ∧ Pnt W w.heap.size x y false ∧ Pnt W bq x2 y2 false ∧ Bk9 W br ∧ Hold W bm m ∧ Hold W bx u) ⟨below_set4 B gn _ _ _ _, hP.set4 nhP _ _ _ _, hQ.set4 nhQ _ _ _ _, hR.set4 nhR _ _ _ _, hM.set4 nhM _ _ _ _, Hold.sets4 (Blank.has hN)⟩ ?_
    clear B hN gN qN hP hQ hR hM nhP mhP nhQ mhQ nhR mhR nhM mhM  gn
    rintro W ⟨B, hP, hQ, hR, hM, hX⟩
    clear w1
    clear hQ
    refine alloc_tail (A := ?AA2) 9 (by kernel_rfl) (by kernel_rfl) rfl rfl (alloc_num _ _ _) (fun V hV => ?HH2) (fun V w1 hV hw => ?TT2)
    case HH2 =>
      have ghP := (hP.keep hV).grown
      have ghM := (hM.keep hV).grown
      have ghX := (hX.keep hV).grown
      unfold Gr
      simp only [List.take_succ_cons, List.take_zero]
      repeat
        first
          | go_big_quiet_skip
          | (go_big_quiet_want; go_big_quiet_op; go_big_quiet_on)
          | (go_big_quiet_want
             go_big_quiet_op
             apply Exists.intro
             refine ⟨fun p => ?_, ?_⟩
             · (first | (go_at_call 30; with_reducible exact Calls.regrown_of (A4.out _)) | (go_at_call 25; with_reducible exact Calls.regrown_of (A5.out _)) | (go_at_call 30; with_reducible exact Calls.regrown_of (A6.out _)))
             go_big_quiet_on)
      refine wpQuiet_nil ?_
      exact rfl
    case TT2 =>
      have hb := alloc_below hV hw
      have hN := (Blank.new rfl).keep hw
      have nhP : V.heap.size ≠ w.heap.size := Nat.ne_of_gt (Nat.lt_of_lt_of_le (hP.lt) hV.size)
      have nhR : V.heap.size ≠ br := Nat.ne_of_gt (Nat.lt_of_lt_of_le (hR.lt) hV.size)
      have nhM : V.heap.size ≠ bm := Nat.ne_of_gt (Nat.lt_of_lt_of_le (World.block_lt_of_cell? _ _ hM.1) hV.size)
      have nhX : V.heap.size ≠ bx := Nat.ne_of_gt (Nat.lt_of_lt_of_le (World.block_lt_of_cell? _ _ hX.1) hV.size)
      have gn : w.heap.size ≤ V.heap.size := Nat.le_trans B.size hV.size
      replace B := B.trans (hb.mono B.size)
      replace hP := hP.keep hb; replace hR := hR.keep hb; replace hM := hM.keep hb; replace hX := hX.keep hb
      clear hb hw hV W
      generalize V.heap.size = by1 at *
      clear V
      have gN := hN.1.all4; have qN := hN.2.all4
      have ghX := hX.cells
      have ghR := hR.cells; have qhR := hR.free
      have mhP := nhP.symm
      have mhR := nhR.symm
      have mhM := nhM.symm
      have mhX := nhX.symm
      simp only [List.drop_succ_cons, List.drop_zero, Act.put, List.setIfInBounds_toArray, List.set_cons_zero, List.set_cons_succ]
      go_wp2
      simp [bodyPost, results, Tryd.results13, go_sem, *]
      repeat (first | with_reducible exact B | with_reducible refine Below.setCell ?_ o3 _ | with_reducible refine Below.setCell ?_ gn _)
end Go.Proofs.YtgedkdkaddcmmaaDoor

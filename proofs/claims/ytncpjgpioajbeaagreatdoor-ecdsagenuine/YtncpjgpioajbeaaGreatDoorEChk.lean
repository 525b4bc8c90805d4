import Derived.Test.YtncpjgpioajbeaaGreatDoorCPnt
import Derived.Test.YtncpjgpioajbeaaGreatDoorFUn
import Derived.Test.YtncpjgpioajbeaaGreatDoorRefShl
import Derived.Test.YtncpjgpioajbeaaGreatDoorRefCmp
import Derived.Test.YtncpjgpioajbeaaGreatDoorFRefX
import Derived.Test.YtncpjgpioajbeaaGreatDoorFRefY
namespace Go.Proofs.YtncpjgpioajbeaaGreatDoor
open Go.RowKit Go.Sort

set_option maxHeartbeats 2000000 in
theorem eorder_walk {n : Int} (O : Hid (∀ w, Mds w → Calls Tryz.prog 16 #[.int .i64 1] w fun e w' => e = .returned (.tuple #[.agg #[.int .u64 (l0 n), .int .u64 (l1 n), .int .u64 (l2 n), .int .u64 (l3 n)], .int .i64 0]) ∧ Below w.heap.size w w')) (w : World) (hm : Mds w) :
    Calls Tryz.prog 71 #[] w fun e w' => e = .returned (.agg #[.int .u64 (l0 n), .int .u64 (l1 n), .int .u64 (l2 n), .int .u64 (l3 n)]) ∧ Below w.heap.size w w' := by
  go_enter Tryz.func71, Tryz.ntmps71
  go_wp2_with fail
  refine calls_world (fun W => Below w.heap.size w W ∧ Mds W ∧ Blank W w.heap.size) ⟨by repeat (first | with_reducible exact Below.refl _ _ | with_reducible refine Below.alloc ?_ (by first | omega | (simp; done) | (simp; omega)) _), hm.alloc _, Blank.new rfl⟩ ?_
  rintro W ⟨B, hD, hR⟩
  with_reducible refine (O.out _ hD).mono ?_
  rintro e w1 ⟨rfl, hb⟩
  replace B := B.trans (hb.mono B.size)
  replace hR := hR.keep hb
  have lr := hR.1.lt (by simp)
  have nr : w1.heap.size ≠ w.heap.size := by omega
  have nr' := nr.symm
  have o3 : w.heap.size ≤ w.heap.size := Nat.le_refl _
  clear hb W hD
  have gR := fun o => (hR.alloc o).1.all4
  have fR := fun o => (hR.alloc o).2.all4
  have gR0 := hR.1.all4
  have fR0 := hR.2.all4
  have BB : Hid (Below w.heap.size w w1) := B
  clear B hR
  go_wp2
  simp [bodyPost, results, Tryz.results71, go_sem, *]
  repeat (first | with_reducible exact BB.out | with_reducible refine Below.setCell ?_ o3 _ | with_reducible refine Below.alloc ?_ (by first | omega | (simp; omega)) _)

theorem ezero_walk {x : Int} {v : Bool} (E : ∀ w, (Op.equalIn 10000 24 (.agg #[.int .u64 (l0 x), .int .u64 (l1 x), .int .u64 (l2 x), .int .u64 (l3 x)]) (.agg #[.int .u64 0, .int .u64 0, .int .u64 0, .int .u64 0])).run Tryz.prog w = .ok v w) (w : World) : Calls Tryz.prog 34 #[.agg #[.int .u64 (l0 x), .int .u64 (l1 x), .int .u64 (l2 x), .int .u64 (l3 x)]] w fun e w' => e = .returned (.bool v) ∧ Below w.heap.size w w' := by
  go_enter Tryz.func34, Tryz.ntmps34
  go_wp2
  simp [bodyPost, results, Tryz.results34, go_sem]
  repeat (first | with_reducible exact Below.refl _ _ | with_reducible refine Below.alloc ?_ (by first | omega | (simp; done) | (simp; omega)) _ | with_reducible refine Below.setCell ?_ (by first | omega | (simp; done) | (simp; omega)) _)

set_option maxRecDepth 100000 in
set_option maxHeartbeats 4000000 in
theorem ebelow_walk {x n q : Int} {v : Bool} (O : Hid (∀ w, Mds w → Calls Tryz.prog 71 #[] w fun e w' => e = .returned (.agg #[.int .u64 (l0 n), .int .u64 (l1 n), .int .u64 (l2 n), .int .u64 (l3 n)]) ∧ Below w.heap.size w w')) (C : Hid (∀ w, Calls Tryz.prog 17 #[.agg #[.int .u64 (l0 x), .int .u64 (l1 x), .int .u64 (l2 x), .int .u64 (l3 x)], .agg #[.int .u64 (l0 n), .int .u64 (l1 n), .int .u64 (l2 n), .int .u64 (l3 n)]] w fun e w' => e = .returned (.int .i64 q) ∧ Below w.heap.size w w')) (hv : decide (q < 0) = v) (w : World) (hm : Mds w) :
    Calls Tryz.prog 35 #[.agg #[.int .u64 (l0 x), .int .u64 (l1 x), .int .u64 (l2 x), .int .u64 (l3 x)]] w fun e w' => e = .returned (.bool v) ∧ Below w.heap.size w w' := by
  go_enter Tryz.func35, Tryz.ntmps35
  go_wp2_with fail
  refine wp_world (fun W => Below w.heap.size w W ∧ Mds W ∧ Hold W w.heap.size x) ⟨by repeat (first | with_reducible exact Below.refl _ _ | with_reducible refine Below.alloc ?_ (by first | omega | (simp; done) | (simp; omega)) _), hm.alloc _, Hold.fresh (by simp)⟩ ?_
  rintro W ⟨B, hD, hX⟩
  have ghX := hX.grown
  have hDg : ∀ d os, Mds (grow (redrawn W d) os) := fun d os => hD.keep (below_regrown W d os)
  refine wp_region_quiet_below (by kernel_rfl) (by kernel_rfl) ?_
  repeat
    first
      | go_big_quiet_skip
      | (go_big_quiet_want; go_big_quiet_op; go_big_quiet_on)
      | (go_big_quiet_want
         go_big_quiet_op
         apply Exists.intro
         refine ⟨fun p => ?_, ?_⟩
         · (first | (go_at_call 71; with_reducible exact Calls.regrown_of (O.out _ (hDg p.d p.os))) | (go_at_call 17; with_reducible exact Calls.regrown_of (C.out _)))
         go_big_quiet_on)
  refine wpQuiet_nil ?_
  rintro w1 ⟨p, rfl⟩
  have hb := below_regrown W p.d p.os
  generalize grow (redrawn W p.d) p.os = w1 at *
  replace B := B.trans (hb.mono B.size)
  replace hD := hD.keep hb; replace hX := hX.keep hb
  clear hb W ghX hDg
  clear hD hX
  go_wp2
  simp [bodyPost, results, Tryz.results35, go_sem]
  exact B

set_option maxRecDepth 100000 in
set_option maxHeartbeats 4000000 in
theorem elow_walk {x n h q : Int} {v : Bool} (O : Hid (∀ w, Mds w → Calls Tryz.prog 71 #[] w fun e w' => e = .returned (.agg #[.int .u64 (l0 n), .int .u64 (l1 n), .int .u64 (l2 n), .int .u64 (l3 n)]) ∧ Below w.heap.size w w')) (C0 : Hid (∀ w, Calls Tryz.prog 82 #[.agg #[.int .u64 (l0 n), .int .u64 (l1 n), .int .u64 (l2 n), .int .u64 (l3 n)], .int .i64 1] w fun e w' => e = .returned (.agg #[.int .u64 (l0 h), .int .u64 (l1 h), .int .u64 (l2 h), .int .u64 (l3 h)]) ∧ Below w.heap.size w w')) (C : Hid (∀ w, Calls Tryz.prog 17 #[.agg #[.int .u64 (l0 x), .int .u64 (l1 x), .int .u64 (l2 x), .int .u64 (l3 x)], .agg #[.int .u64 (l0 h), .int .u64 (l1 h), .int .u64 (l2 h), .int .u64 (l3 h)]] w fun e w' => e = .returned (.int .i64 q) ∧ Below w.heap.size w w')) (hv : decide (q ≤ 0) = v) (w : World) (hm : Mds w) :
    Calls Tryz.prog 46 #[.agg #[.int .u64 (l0 x), .int .u64 (l1 x), .int .u64 (l2 x), .int .u64 (l3 x)]] w fun e w' => e = .returned (.bool v) ∧ Below w.heap.size w w' := by
  go_enter Tryz.func46, Tryz.ntmps46
  go_wp2_with fail
  refine wp_world (fun W => Below w.heap.size w W ∧ Mds W ∧ Hold W w.heap.size x) ⟨by repeat (first | with_reducible exact Below.refl _ _ | with_reducible refine Below.alloc ?_ (by first | omega | (simp; done) | (simp; omega)) _), hm.alloc _, Hold.fresh (by simp)⟩ ?_
  rintro W ⟨B, hD, hX⟩
  have ghX := hX.grown
  have hDg : ∀ d os, Mds (grow (redrawn W d) os) := fun d os => hD.keep (below_regrown W d os)
  refine wp_region_quiet_below (by kernel_rfl) (by kernel_rfl) ?_
  repeat
    first
      | go_big_quiet_skip
      | (go_big_quiet_want; go_big_quiet_op; go_big_quiet_on)
      | (go_big_quiet_want
         go_big_quiet_op
         apply Exists.intro
         refine ⟨fun p => ?_, ?_⟩
         · (first | (go_at_call 71; with_reducible exact Calls.regrown_of (O.out _ (hDg p.d p.os))) | (go_at_call 82; with_reducible exact Calls.regrown_of (C0.out _)) | (go_at_call 17; with_reducible exact Calls.regrown_of (C.out _)))
         go_big_quiet_on)
  refine wpQuiet_nil ?_
  rintro w1 ⟨p, rfl⟩
  have hb := below_regrown W p.d p.os
  generalize grow (redrawn W p.d) p.os = w1 at *
  replace B := B.trans (hb.mono B.size)
  replace hD := hD.keep hb; replace hX := hX.keep hb
  clear hb W ghX hDg
  clear hD hX
  go_wp2
  simp [bodyPost, results, Tryz.results46, go_sem]
  exact B

set_option maxRecDepth 100000 in
set_option maxHeartbeats 4000000 in
theorem einside_zero {x : Int} (C0 : Hid (∀ w, Calls Tryz.prog 34 #[.agg #[.int .u64 (l0 x), .int .u64 (l1 x), .int .u64 (l2 x), .int .u64 (l3 x)]] w fun e w' => e = .returned (.bool true) ∧ Below w.heap.size w w')) (w : World) (hm : Mds w) :
    Calls Tryz.prog 13 #[.agg #[.int .u64 (l0 x), .int .u64 (l1 x), .int .u64 (l2 x), .int .u64 (l3 x)]] w fun e w' => e = .returned (.bool false) ∧ Below w.heap.size w w' := by
  go_enter Tryz.func13, Tryz.ntmps13
  go_wp2_with fail
  refine calls_world (fun W => Below w.heap.size w W ∧ Mds W ∧ Hold W w.heap.size x) ⟨by repeat (first | with_reducible exact Below.refl _ _ | with_reducible refine Below.alloc ?_ (by first | omega | (simp; done) | (simp; omega)) _), hm.alloc _, Hold.fresh (by simp)⟩ ?_
  rintro W ⟨B, hD, hX⟩
  with_reducible refine (C0.out _).mono ?_
  rintro e w9 ⟨rfl, hb⟩
  replace B := B.trans (hb.mono B.size)
  clear hb hX hD W
  go_wp2
  simp [bodyPost, results, Tryz.results13, go_sem]
  exact B

set_option maxRecDepth 100000 in
set_option maxHeartbeats 4000000 in
theorem einside_yes {x : Int} {v : Bool} (C0 : Hid (∀ w, Calls Tryz.prog 34 #[.agg #[.int .u64 (l0 x), .int .u64 (l1 x), .int .u64 (l2 x), .int .u64 (l3 x)]] w fun e w' => e = .returned (.bool false) ∧ Below w.heap.size w w')) (C1 : Hid (∀ w, Mds w → Calls Tryz.prog 35 #[.agg #[.int .u64 (l0 x), .int .u64 (l1 x), .int .u64 (l2 x), .int .u64 (l3 x)]] w fun e w' => e = .returned (.bool v) ∧ Below w.heap.size w w')) (w : World) (hm : Mds w) :
    Calls Tryz.prog 13 #[.agg #[.int .u64 (l0 x), .int .u64 (l1 x), .int .u64 (l2 x), .int .u64 (l3 x)]] w fun e w' => e = .returned (.bool v) ∧ Below w.heap.size w w' := by
  go_enter Tryz.func13, Tryz.ntmps13
  go_wp2_with fail
  refine calls_world (fun W => Below w.heap.size w W ∧ Mds W ∧ Hold W w.heap.size x) ⟨by repeat (first | with_reducible exact Below.refl _ _ | with_reducible refine Below.alloc ?_ (by first | omega | (simp; done) | (simp; omega)) _), hm.alloc _, Hold.fresh (by simp)⟩ ?_
  rintro W ⟨B, hD, hX⟩
  with_reducible refine (C0.out _).mono ?_
  rintro e w1 ⟨rfl, hb⟩
  replace B := B.trans (hb.mono B.size)
  replace hD := hD.keep hb; replace hX := hX.keep hb
  clear hb W
  have ghX := hX.cells
  go_wp2_with fail
  refine calls_world (fun W => Below w.heap.size w W ∧ Mds W ∧ Hold W w.heap.size x) ⟨B, hD, hX⟩ ?_
  clear B hD hX ghX
  rintro W ⟨B, hD, hX⟩
  with_reducible refine (C1.out _ hD).mono ?_
  rintro e w9 ⟨rfl, hb⟩
  replace B := B.trans (hb.mono B.size)
  clear hb hX hD W
  go_wp2
  simp [bodyPost, results, Tryz.results13, go_sem]
  exact B

set_option maxRecDepth 100000 in
set_option maxHeartbeats 4000000 in
theorem echeck_0 {r s : Int} {o : Bool} (C1 : Hid (∀ w, Mds w → Calls Tryz.prog 13 #[.agg #[.int .u64 (l0 r), .int .u64 (l1 r), .int .u64 (l2 r), .int .u64 (l3 r)]] w fun e w' => e = .returned (.bool false) ∧ Below w.heap.size w w')) (w : World) (hm : Mds w) :
    Calls Tryz.prog 23 #[.agg #[.int .u64 (l0 r), .int .u64 (l1 r), .int .u64 (l2 r), .int .u64 (l3 r), .int .u64 (l0 s), .int .u64 (l1 s), .int .u64 (l2 s), .int .u64 (l3 s), .bool o]] w fun e w' => e = .returned (.int .i64 61) ∧ Below w.heap.size w w' := by
  go_enter Tryz.func23, Tryz.ntmps23
  go_wp2_with fail
  refine calls_world (fun W => Below w.heap.size w W ∧ Mds W ∧ Pnt W w.heap.size r s o) ⟨by repeat (first | with_reducible exact Below.refl _ _ | with_reducible refine Below.alloc ?_ (by first | omega | (simp; done) | (simp; omega)) _), hm.alloc _, Pnt.new rfl⟩ ?_
  rintro W ⟨B, hD, hP⟩
  with_reducible refine (C1.out _ hD).mono ?_
  rintro e w9 ⟨rfl, hb⟩
  replace B := B.trans (hb.mono B.size)
  clear hb hP W hD
  go_wp2
  simp [bodyPost, results, Tryz.results23, go_sem]
  exact B

set_option maxRecDepth 100000 in
set_option maxHeartbeats 4000000 in
theorem echeck_1 {r s : Int} {o : Bool} (C1 : Hid (∀ w, Mds w → Calls Tryz.prog 13 #[.agg #[.int .u64 (l0 r), .int .u64 (l1 r), .int .u64 (l2 r), .int .u64 (l3 r)]] w fun e w' => e = .returned (.bool true) ∧ Below w.heap.size w w')) (C2 : Hid (∀ w, Mds w → Calls Tryz.prog 13 #[.agg #[.int .u64 (l0 s), .int .u64 (l1 s), .int .u64 (l2 s), .int .u64 (l3 s)]] w fun e w' => e = .returned (.bool false) ∧ Below w.heap.size w w')) (w : World) (hm : Mds w) :
    Calls Tryz.prog 23 #[.agg #[.int .u64 (l0 r), .int .u64 (l1 r), .int .u64 (l2 r), .int .u64 (l3 r), .int .u64 (l0 s), .int .u64 (l1 s), .int .u64 (l2 s), .int .u64 (l3 s), .bool o]] w fun e w' => e = .returned (.int .i64 62) ∧ Below w.heap.size w w' := by
  go_enter Tryz.func23, Tryz.ntmps23
  go_wp2_with fail
  refine calls_world (fun W => Below w.heap.size w W ∧ Mds W ∧ Pnt W w.heap.size r s o) ⟨by repeat (first | with_reducible exact Below.refl _ _ | with_reducible refine Below.alloc ?_ (by first | omega | (simp; done) | (simp; omega)) _), hm.alloc _, Pnt.new rfl⟩ ?_
  rintro W ⟨B, hD, hP⟩
  with_reducible refine (C1.out _ hD).mono ?_
  rintro e w1 ⟨rfl, hb⟩
  replace B := B.trans (hb.mono B.size)
  replace hD := hD.keep hb; replace hP := hP.keep hb
  clear hb W
  have ghP := hP.cells
  go_wp2_with fail
  refine calls_world (fun W => Below w.heap.size w W ∧ Mds W ∧ Pnt W w.heap.size r s o) ⟨B, hD, hP⟩ ?_
  clear B hD hP ghP
  rintro W ⟨B, hD, hP⟩
  with_reducible refine (C2.out _ hD).mono ?_
  rintro e w9 ⟨rfl, hb⟩
  replace B := B.trans (hb.mono B.size)
  clear hb hP W hD
  go_wp2
  simp [bodyPost, results, Tryz.results23, go_sem]
  exact B

set_option maxRecDepth 100000 in
set_option maxHeartbeats 4000000 in
theorem echeck_2 {r s : Int} {o : Bool} (C1 : Hid (∀ w, Mds w → Calls Tryz.prog 13 #[.agg #[.int .u64 (l0 r), .int .u64 (l1 r), .int .u64 (l2 r), .int .u64 (l3 r)]] w fun e w' => e = .returned (.bool true) ∧ Below w.heap.size w w')) (C2 : Hid (∀ w, Mds w → Calls Tryz.prog 13 #[.agg #[.int .u64 (l0 s), .int .u64 (l1 s), .int .u64 (l2 s), .int .u64 (l3 s)]] w fun e w' => e = .returned (.bool true) ∧ Below w.heap.size w w')) (C3 : Hid (∀ w, Mds w → Calls Tryz.prog 46 #[.agg #[.int .u64 (l0 s), .int .u64 (l1 s), .int .u64 (l2 s), .int .u64 (l3 s)]] w fun e w' => e = .returned (.bool false) ∧ Below w.heap.size w w')) (w : World) (hm : Mds w) :
    Calls Tryz.prog 23 #[.agg #[.int .u64 (l0 r), .int .u64 (l1 r), .int .u64 (l2 r), .int .u64 (l3 r), .int .u64 (l0 s), .int .u64 (l1 s), .int .u64 (l2 s), .int .u64 (l3 s), .bool o]] w fun e w' => e = .returned (.int .i64 63) ∧ Below w.heap.size w w' := by
  go_enter Tryz.func23, Tryz.ntmps23
  go_wp2_with fail
  refine calls_world (fun W => Below w.heap.size w W ∧ Mds W ∧ Pnt W w.heap.size r s o) ⟨by repeat (first | with_reducible exact Below.refl _ _ | with_reducible refine Below.alloc ?_ (by first | omega | (simp; done) | (simp; omega)) _), hm.alloc _, Pnt.new rfl⟩ ?_
  rintro W ⟨B, hD, hP⟩
  with_reducible refine (C1.out _ hD).mono ?_
  rintro e w1 ⟨rfl, hb⟩
  replace B := B.trans (hb.mono B.size)
  replace hD := hD.keep hb; replace hP := hP.keep hb
  clear hb W
  have ghP := hP.cells
  go_wp2_with fail
  refine calls_world (fun W => Below w.heap.size w W ∧ Mds W ∧ Pnt W w.heap.size r s o) ⟨B, hD, hP⟩ ?_
  clear B hD hP ghP
  rintro W ⟨B, hD, hP⟩
  with_reducible refine (C2.out _ hD).mono ?_
  rintro e w2 ⟨rfl, hb⟩
  replace B := B.trans (hb.mono B.size)
  replace hD := hD.keep hb; replace hP := hP.keep hb
  clear hb W
  have ghP := hP.cells
  go_wp2_with fail
  refine calls_world (fun W => Below w.heap.size w W ∧ Mds W ∧ Pnt W w.heap.size r s o) ⟨B, hD, hP⟩ ?_
  clear B hD hP ghP
  rintro W ⟨B, hD, hP⟩
  with_reducible refine (C3.out _ hD).mono ?_
  rintro e w9 ⟨rfl, hb⟩
  replace B := B.trans (hb.mono B.size)
  clear hb hP W hD
  go_wp2
  simp [bodyPost, results, Tryz.results23, go_sem]
  exact B

set_option maxRecDepth 100000 in
set_option maxHeartbeats 4000000 in
theorem echeck_3 {r s : Int} {o : Bool} (C1 : Hid (∀ w, Mds w → Calls Tryz.prog 13 #[.agg #[.int .u64 (l0 r), .int .u64 (l1 r), .int .u64 (l2 r), .int .u64 (l3 r)]] w fun e w' => e = .returned (.bool true) ∧ Below w.heap.size w w')) (C2 : Hid (∀ w, Mds w → Calls Tryz.prog 13 #[.agg #[.int .u64 (l0 s), .int .u64 (l1 s), .int .u64 (l2 s), .int .u64 (l3 s)]] w fun e w' => e = .returned (.bool true) ∧ Below w.heap.size w w')) (C3 : Hid (∀ w, Mds w → Calls Tryz.prog 46 #[.agg #[.int .u64 (l0 s), .int .u64 (l1 s), .int .u64 (l2 s), .int .u64 (l3 s)]] w fun e w' => e = .returned (.bool true) ∧ Below w.heap.size w w')) (w : World) (hm : Mds w) :
    Calls Tryz.prog 23 #[.agg #[.int .u64 (l0 r), .int .u64 (l1 r), .int .u64 (l2 r), .int .u64 (l3 r), .int .u64 (l0 s), .int .u64 (l1 s), .int .u64 (l2 s), .int .u64 (l3 s), .bool o]] w fun e w' => e = .returned (.int .i64 0) ∧ Below w.heap.size w w' := by
  go_enter Tryz.func23, Tryz.ntmps23
  go_wp2_with fail
  refine calls_world (fun W => Below w.heap.size w W ∧ Mds W ∧ Pnt W w.heap.size r s o) ⟨by repeat (first | with_reducible exact Below.refl _ _ | with_reducible refine Below.alloc ?_ (by first | omega | (simp; done) | (simp; omega)) _), hm.alloc _, Pnt.new rfl⟩ ?_
  rintro W ⟨B, hD, hP⟩
  with_reducible refine (C1.out _ hD).mono ?_
  rintro e w1 ⟨rfl, hb⟩
  replace B := B.trans (hb.mono B.size)
  replace hD := hD.keep hb; replace hP := hP.keep hb
  clear hb W
  have ghP := hP.cells
  go_wp2_with fail
  refine calls_world (fun W => Below w.heap.size w W ∧ Mds W ∧ Pnt W w.heap.size r s o) ⟨B, hD, hP⟩ ?_
  clear B hD hP ghP
  rintro W ⟨B, hD, hP⟩
  with_reducible refine (C2.out _ hD).mono ?_
  rintro e w2 ⟨rfl, hb⟩
  replace B := B.trans (hb.mono B.size)
  replace hD := hD.keep hb; replace hP := hP.keep hb
  clear hb W
  have ghP := hP.cells
  go_wp2_with fail
  refine calls_world (fun W => Below w.heap.size w W ∧ Mds W ∧ Pnt W w.heap.size r s o) ⟨B, hD, hP⟩ ?_
  clear B hD hP ghP
  rintro W ⟨B, hD, hP⟩
  with_reducible refine (C3.out _ hD).mono ?_
  rintro e w9 ⟨rfl, hb⟩
  replace B := B.trans (hb.mono B.size)
  clear hb hP W hD
  go_wp2
  simp [bodyPost, results, Tryz.results23, go_sem]
  exact B

theorem num_n : Num nN := ⟨by decide, by decide⟩
theorem eorder_any (w : World) (hm : Mds w) : Calls Tryz.prog 71 #[] w fun e w' => e = .returned (.agg #[.int .u64 (l0 nN), .int .u64 (l1 nN), .int .u64 (l2 nN), .int .u64 (l3 nN)]) ∧ Below w.heap.size w w' := eorder_walk (fun w hm => Modulus_good kind_n w hm) w hm
theorem cmp_lt (x n : Int) : decide (cmpN x n < 0) = decide (x < n) := by
  unfold cmpN
  by_cases h' : x = n
  · rw [h']; simp
  · by_cases h : x < n <;> simp [h, h']
theorem cmp_le (x n : Int) : decide (cmpN x n ≤ 0) = decide (x ≤ n) := by
  unfold cmpN
  by_cases h' : x = n
  · rw [h']; simp
  · by_cases h : x < n
    · simp [h, h', Int.le_of_lt h]
    · have : ¬ x ≤ n := by omega
      simp [h, h', this]
theorem eqz6 {n : Int} (hn : Num n) {v : Bool} (e : decide (n = 0) = v) : ∀ w, (Op.equalIn 10000 24 (.agg #[.int .u64 (l0 n), .int .u64 (l1 n), .int .u64 (l2 n), .int .u64 (l3 n)]) (.agg #[.int .u64 0, .int .u64 0, .int .u64 0, .int .u64 0])).run Tryz.prog w = .ok v w := fun w => by
  have := eq_num hn (m := 0) ⟨by decide, by decide⟩ w
  obtain ⟨z0, z1, z2, z3⟩ := zero_limbs
  rw [z0, z1, z2, z3, e] at this
  exact this
def fitN (x : Int) : Bool := !decide (x = 0) && decide (x < nN)
def lowN (x : Int) : Bool := decide (x ≤ shrN nN 1)
def chkN (r s : Int) : Int := if fitN r = false then 61 else if fitN s = false then 62 else if lowN s = false then 63 else 0
theorem einside_any {x : Int} (hx : Num x) : Hid (∀ w, Mds w → Calls Tryz.prog 13 #[.agg #[.int .u64 (l0 x), .int .u64 (l1 x), .int .u64 (l2 x), .int .u64 (l3 x)]] w fun e w' => e = .returned (.bool (fitN x)) ∧ Below w.heap.size w w') := fun w hm => by
  unfold fitN
  by_cases h : x = 0
  · rw [decide_eq_true h]
    exact einside_zero (fun w => ezero_walk (eqz6 hx (decide_eq_true h)) w) w hm
  · rw [decide_eq_false h]
    exact einside_yes (fun w => ezero_walk (eqz6 hx (decide_eq_false h)) w) (fun w hm => ebelow_walk (fun w hm => eorder_any w hm) (fun w => cmp_any hx num_n w) (cmp_lt x nN) w hm) w hm
theorem num_half : Num (shrN nN 1) := ⟨by decide +kernel, by decide +kernel⟩
theorem elow_any {x : Int} (hx : Num x) : Hid (∀ w, Mds w → Calls Tryz.prog 46 #[.agg #[.int .u64 (l0 x), .int .u64 (l1 x), .int .u64 (l2 x), .int .u64 (l3 x)]] w fun e w' => e = .returned (.bool (lowN x)) ∧ Below w.heap.size w w') := fun w hm =>
  elow_walk (fun w hm => eorder_any w hm) (fun w => shr_any num_n w) (fun w => cmp_any hx num_half w) (cmp_le x _) w hm
theorem echeck_any {r s : Int} {o : Bool} (hr : Num r) (hs : Num s) : Hid (∀ w, Mds w → Calls Tryz.prog 23 #[.agg #[.int .u64 (l0 r), .int .u64 (l1 r), .int .u64 (l2 r), .int .u64 (l3 r), .int .u64 (l0 s), .int .u64 (l1 s), .int .u64 (l2 s), .int .u64 (l3 s), .bool o]] w fun e w' => e = .returned (.int .i64 (chkN r s)) ∧ Below w.heap.size w w') := fun w hm => by
  have a := einside_any hr; have b := einside_any hs; have c := elow_any hs
  unfold chkN
  cases h1 : fitN r with
  | false => rw [h1] at a; exact echeck_0 a w hm
  | true =>
    rw [h1] at a
    cases h2 : fitN s with
    | false => rw [h2] at b; exact echeck_1 a b w hm
    | true =>
      rw [h2] at b
      cases h3 : lowN s with
      | false => rw [h3] at c; exact echeck_2 a b c w hm
      | true => rw [h3] at c; exact echeck_3 a b c w hm
end Go.Proofs.YtncpjgpioajbeaaGreatDoor

import Derived.Test.YtleneapnjanbbaaDoorCBkP
import Derived.Test.YtleneapnjanbbaaDoorCJx
namespace Go.Proofs.YtleneapnjanbbaaDoor
open Go.RowKit Go.Sort

set_option maxRecDepth 100000 in
set_option maxHeartbeats 4000000 in
theorem pshort_2e {A : List Int} {g cap : Nat} {x X Y ee : Int} {i : Bool} (hc : 33 ≤ cap) (CO : Hid (∀ w, Mds w → Cb w g 1 A → Calls Tryd.prog 26 #[.slice (some ⟨g, 1, none⟩) 32 (cap - 1)] w fun e w' => e = .returned (.tuple #[.agg #[.int .u64 (l0 x), .int .u64 (l1 x), .int .u64 (l2 x), .int .u64 (l3 x)], .int .i64 0]) ∧ Below w.heap.size w w')) (LF : Hid (∀ w, Mds w → Calls Tryd.prog 27 #[.agg #[.int .u64 (l0 x), .int .u64 (l1 x), .int .u64 (l2 x), .int .u64 (l3 x)], .bool false] w fun e w' => e = .returned (.tuple #[.agg #[.int .u64 (l0 X), .int .u64 (l1 X), .int .u64 (l2 X), .int .u64 (l3 X), .int .u64 (l0 Y), .int .u64 (l1 Y), .int .u64 (l2 Y), .int .u64 (l3 Y), .bool i], .int .i64 ee]) ∧ Below w.heap.size w w')) (w : World) (hm : Mds w) (h : Cb w g 1 A) (hf : Fb w g 2) :
    Calls Tryd.prog 15 #[.slice (some ⟨g, 0, none⟩) 33 cap] w fun e w' => e = .returned (.tuple #[.agg #[.int .u64 (l0 X), .int .u64 (l1 X), .int .u64 (l2 X), .int .u64 (l3 X), .int .u64 (l0 Y), .int .u64 (l1 Y), .int .u64 (l2 Y), .int .u64 (l3 Y), .bool i], .int .i64 ee]) ∧ Below w.heap.size w w' := by
  have nc : cap ≠ 1 := by omega
  have nc1 : (33 : Int) ≤ (cap : Int) := by omega
  go_enter Tryd.func15, Tryd.ntmps15
  go_wp2_with fail
  refine calls_world (fun W => Below w.heap.size w W ∧ Mds W ∧ Bk9 W w.heap.size ∧ Cb W g 1 A ∧ Fb W g 2) ⟨by repeat (first | with_reducible exact Below.refl _ _ | with_reducible refine Below.alloc ?_ (by first | omega | (simp; done) | (simp; omega)) _), hm.alloc _, Bk9.new rfl, h.alloc _, hf.alloc _⟩ ?_
  rintro W ⟨B, hD, hR, hC, hF⟩
  have o3 : w.heap.size ≤ w.heap.size := Nat.le_refl _
  with_reducible refine (CO.out _ hD hC).mono ?_
  rintro e w1 ⟨rfl, hb⟩
  replace B := B.trans (hb.mono B.size)
  replace hD := hD.keep hb; replace hR := hR.keep hb; replace hC := hC.keep hb; replace hF := hF.keep hb
  clear hb W
  go_wp2_with fail
  refine wp_world (fun W => Below w.heap.size w W ∧ Mds W ∧ Bk9 W w.heap.size ∧ Cb W g 1 A ∧ Fb W g 2 ∧ Nm W w1.heap.size x) ⟨B.alloc B.size _, hD.alloc _, hR.alloc _, hC.alloc _, hF.alloc _, Nm.newb rfl⟩ ?_
  clear B hD hR hC hF 
  rintro W ⟨B, hD, hR, hC, hF, hX⟩
  generalize w1.heap.size = bx at *
  clear hC
  have ghX := hX.grown
  have hDg : ∀ d os, Mds (grow (redrawn W d) os) := fun d os => hD.keep (below_regrown W d os)
  have ldY : ∀ d os, (grow (redrawn W d) os).cell? ⟨g, 0, none⟩ = some (.int .u8 2) := fun d os => cell_keep (below_regrown W d os) hF
  refine below_tail 8 (by kernel_rfl) (by kernel_rfl) ?_
  simp only [List.take_succ_cons, List.take_zero, List.drop_succ_cons, List.drop_zero]
  repeat
    first
      | go_big_quiet_skip
      | (go_big_quiet_want; go_big_quiet_op; go_big_quiet_on)
      | (go_big_quiet_want
         go_big_quiet_op
         apply Exists.intro
         refine ⟨fun p => ?_, ?_⟩
         · (first | (go_at_call 27; with_reducible exact Calls.regrown_of (LF.out _ (hDg p.d p.os))))
         go_big_quiet_on)
  refine wpQuiet_nil ?_
  rintro w2 ⟨p, rfl⟩
  have hb := below_regrown W p.d p.os
  generalize grow (redrawn W p.d) p.os = w2 at *
  replace B := B.trans (hb.mono B.size)
  replace hD := hD.keep hb; replace hR := hR.keep hb; replace hF := hF.keep hb; replace hX := hX.keep hb
  clear ldY
  clear hb W ghX hDg
  clear hD hX hF
  have gR := hR.cells; have fR := hR.free
  go_wp2
  simp [bodyPost, results, Tryd.results15, go_sem, gR]
  repeat (first | with_reducible exact B | with_reducible refine Below.setCell ?_ o3 _)
set_option maxRecDepth 100000 in
set_option maxHeartbeats 4000000 in
theorem pshort_3e {A : List Int} {g cap : Nat} {x X Y ee : Int} {i : Bool} (hc : 33 ≤ cap) (CO : Hid (∀ w, Mds w → Cb w g 1 A → Calls Tryd.prog 26 #[.slice (some ⟨g, 1, none⟩) 32 (cap - 1)] w fun e w' => e = .returned (.tuple #[.agg #[.int .u64 (l0 x), .int .u64 (l1 x), .int .u64 (l2 x), .int .u64 (l3 x)], .int .i64 0]) ∧ Below w.heap.size w w')) (LF : Hid (∀ w, Mds w → Calls Tryd.prog 27 #[.agg #[.int .u64 (l0 x), .int .u64 (l1 x), .int .u64 (l2 x), .int .u64 (l3 x)], .bool true] w fun e w' => e = .returned (.tuple #[.agg #[.int .u64 (l0 X), .int .u64 (l1 X), .int .u64 (l2 X), .int .u64 (l3 X), .int .u64 (l0 Y), .int .u64 (l1 Y), .int .u64 (l2 Y), .int .u64 (l3 Y), .bool i], .int .i64 ee]) ∧ Below w.heap.size w w')) (w : World) (hm : Mds w) (h : Cb w g 1 A) (hf : Fb w g 3) :
    Calls Tryd.prog 15 #[.slice (some ⟨g, 0, none⟩) 33 cap] w fun e w' => e = .returned (.tuple #[.agg #[.int .u64 (l0 X), .int .u64 (l1 X), .int .u64 (l2 X), .int .u64 (l3 X), .int .u64 (l0 Y), .int .u64 (l1 Y), .int .u64 (l2 Y), .int .u64 (l3 Y), .bool i], .int .i64 ee]) ∧ Below w.heap.size w w' := by
  have nc : cap ≠ 1 := by omega
  have nc1 : (33 : Int) ≤ (cap : Int) := by omega
  go_enter Tryd.func15, Tryd.ntmps15
  go_wp2_with fail
  refine calls_world (fun W => Below w.heap.size w W ∧ Mds W ∧ Bk9 W w.heap.size ∧ Cb W g 1 A ∧ Fb W g 3) ⟨by repeat (first | with_reducible exact Below.refl _ _ | with_reducible refine Below.alloc ?_ (by first | omega | (simp; done) | (simp; omega)) _), hm.alloc _, Bk9.new rfl, h.alloc _, hf.alloc _⟩ ?_
  rintro W ⟨B, hD, hR, hC, hF⟩
  have o3 : w.heap.size ≤ w.heap.size := Nat.le_refl _
  with_reducible refine (CO.out _ hD hC).mono ?_
  rintro e w1 ⟨rfl, hb⟩
  replace B := B.trans (hb.mono B.size)
  replace hD := hD.keep hb; replace hR := hR.keep hb; replace hC := hC.keep hb; replace hF := hF.keep hb
  clear hb W
  go_wp2_with fail
  refine wp_world (fun W => Below w.heap.size w W ∧ Mds W ∧ Bk9 W w.heap.size ∧ Cb W g 1 A ∧ Fb W g 3 ∧ Nm W w1.heap.size x) ⟨B.alloc B.size _, hD.alloc _, hR.alloc _, hC.alloc _, hF.alloc _, Nm.newb rfl⟩ ?_
  clear B hD hR hC hF 
  rintro W ⟨B, hD, hR, hC, hF, hX⟩
  generalize w1.heap.size = bx at *
  clear hC
  have ghX := hX.grown
  have hDg : ∀ d os, Mds (grow (redrawn W d) os) := fun d os => hD.keep (below_regrown W d os)
  have ldY : ∀ d os, (grow (redrawn W d) os).cell? ⟨g, 0, none⟩ = some (.int .u8 3) := fun d os => cell_keep (below_regrown W d os) hF
  refine below_tail 8 (by kernel_rfl) (by kernel_rfl) ?_
  simp only [List.take_succ_cons, List.take_zero, List.drop_succ_cons, List.drop_zero]
  repeat
    first
      | go_big_quiet_skip
      | (go_big_quiet_want; go_big_quiet_op; go_big_quiet_on)
      | (go_big_quiet_want
         go_big_quiet_op
         apply Exists.intro
         refine ⟨fun p => ?_, ?_⟩
         · (first | (go_at_call 27; with_reducible exact Calls.regrown_of (LF.out _ (hDg p.d p.os))))
         go_big_quiet_on)
  refine wpQuiet_nil ?_
  rintro w2 ⟨p, rfl⟩
  have hb := below_regrown W p.d p.os
  generalize grow (redrawn W p.d) p.os = w2 at *
  replace B := B.trans (hb.mono B.size)
  replace hD := hD.keep hb; replace hR := hR.keep hb; replace hF := hF.keep hb; replace hX := hX.keep hb
  clear ldY
  clear hb W ghX hDg
  clear hD hX hF
  have gR := hR.cells; have fR := hR.free
  go_wp2
  simp [bodyPost, results, Tryd.results15, go_sem, gR]
  repeat (first | with_reducible exact B | with_reducible refine Below.setCell ?_ o3 _)
set_option maxRecDepth 100000 in
set_option maxHeartbeats 4000000 in
theorem parse_2e {A : List Int} {g cap : Nat} {X Y ee : Int} {i : Bool} (PS : Hid (∀ w, Mds w → Cb w g 1 A → Fb w g 2 → Calls Tryd.prog 15 #[.slice (some ⟨g, 0, none⟩) 33 cap] w fun e w' => e = .returned (.tuple #[.agg #[.int .u64 (l0 X), .int .u64 (l1 X), .int .u64 (l2 X), .int .u64 (l3 X), .int .u64 (l0 Y), .int .u64 (l1 Y), .int .u64 (l2 Y), .int .u64 (l3 Y), .bool i], .int .i64 ee]) ∧ Below w.heap.size w w')) (w : World) (hm : Mds w) (h : Cb w g 1 A) (hf : Fb w g 2) :
    Calls Tryd.prog 5 #[.slice (some ⟨g, 0, none⟩) 33 cap] w fun e w' => e = .returned (.tuple #[.agg #[.int .u64 (l0 X), .int .u64 (l1 X), .int .u64 (l2 X), .int .u64 (l3 X), .int .u64 (l0 Y), .int .u64 (l1 Y), .int .u64 (l2 Y), .int .u64 (l3 Y), .bool i], .int .i64 ee]) ∧ Below w.heap.size w w' := by
  have c0 : ∀ o, (w.alloc o).cell? ⟨g, 0, none⟩ = some (.int .u8 2) := fun o => hf.alloc o
  go_enter Tryd.func5, Tryd.ntmps5
  go_wp2_with fail
  refine calls_world (fun W => Below w.heap.size w W ∧ Mds W ∧ Bk9 W w.heap.size ∧ Cb W g 1 A ∧ Fb W g 2) ⟨by repeat (first | with_reducible exact Below.refl _ _ | with_reducible refine Below.alloc ?_ (by first | omega | (simp; done) | (simp; omega)) _), hm.alloc _, Bk9.new rfl, h.alloc _, hf.alloc _⟩ ?_
  clear c0
  rintro W ⟨B, hD, hR, hC, hF⟩
  have o3 : w.heap.size ≤ w.heap.size := Nat.le_refl _
  with_reducible refine (PS.out _ hD hC hF).mono ?_
  rintro e w9 ⟨rfl, hb⟩
  replace B := B.trans (hb.mono B.size)
  replace hD := hD.keep hb; replace hR := hR.keep hb; replace hC := hC.keep hb; replace hF := hF.keep hb
  clear hb W hD hC hF
  have gR := hR.cells; have fR := hR.free
  go_wp2
  simp [bodyPost, results, Tryd.results5, go_sem, gR]
  repeat (first | with_reducible exact B | with_reducible refine Below.setCell ?_ o3 _)
set_option maxRecDepth 100000 in
set_option maxHeartbeats 4000000 in
theorem parse_3e {A : List Int} {g cap : Nat} {X Y ee : Int} {i : Bool} (PS : Hid (∀ w, Mds w → Cb w g 1 A → Fb w g 3 → Calls Tryd.prog 15 #[.slice (some ⟨g, 0, none⟩) 33 cap] w fun e w' => e = .returned (.tuple #[.agg #[.int .u64 (l0 X), .int .u64 (l1 X), .int .u64 (l2 X), .int .u64 (l3 X), .int .u64 (l0 Y), .int .u64 (l1 Y), .int .u64 (l2 Y), .int .u64 (l3 Y), .bool i], .int .i64 ee]) ∧ Below w.heap.size w w')) (w : World) (hm : Mds w) (h : Cb w g 1 A) (hf : Fb w g 3) :
    Calls Tryd.prog 5 #[.slice (some ⟨g, 0, none⟩) 33 cap] w fun e w' => e = .returned (.tuple #[.agg #[.int .u64 (l0 X), .int .u64 (l1 X), .int .u64 (l2 X), .int .u64 (l3 X), .int .u64 (l0 Y), .int .u64 (l1 Y), .int .u64 (l2 Y), .int .u64 (l3 Y), .bool i], .int .i64 ee]) ∧ Below w.heap.size w w' := by
  have c0 : ∀ o, (w.alloc o).cell? ⟨g, 0, none⟩ = some (.int .u8 3) := fun o => hf.alloc o
  go_enter Tryd.func5, Tryd.ntmps5
  go_wp2_with fail
  refine calls_world (fun W => Below w.heap.size w W ∧ Mds W ∧ Bk9 W w.heap.size ∧ Cb W g 1 A ∧ Fb W g 3) ⟨by repeat (first | with_reducible exact Below.refl _ _ | with_reducible refine Below.alloc ?_ (by first | omega | (simp; done) | (simp; omega)) _), hm.alloc _, Bk9.new rfl, h.alloc _, hf.alloc _⟩ ?_
  clear c0
  rintro W ⟨B, hD, hR, hC, hF⟩
  have o3 : w.heap.size ≤ w.heap.size := Nat.le_refl _
  with_reducible refine (PS.out _ hD hC hF).mono ?_
  rintro e w9 ⟨rfl, hb⟩
  replace B := B.trans (hb.mono B.size)
  replace hD := hD.keep hb; replace hR := hR.keep hb; replace hC := hC.keep hb; replace hF := hF.keep hb
  clear hb W hD hC hF
  have gR := hR.cells; have fR := hR.free
  go_wp2
  simp [bodyPost, results, Tryd.results5, go_sem, gR]
  repeat (first | with_reducible exact B | with_reducible refine Below.setCell ?_ o3 _)
set_option maxRecDepth 100000 in
set_option maxHeartbeats 4000000 in
theorem parse_4e {A C : List Int} {g cap : Nat} {X Y ee : Int} {i : Bool} (PS : Hid (∀ w, Mds w → Cb w g 1 A → Cb w g 33 C → Calls Tryd.prog 16 #[.slice (some ⟨g, 0, none⟩) 65 cap] w fun e w' => e = .returned (.tuple #[.agg #[.int .u64 (l0 X), .int .u64 (l1 X), .int .u64 (l2 X), .int .u64 (l3 X), .int .u64 (l0 Y), .int .u64 (l1 Y), .int .u64 (l2 Y), .int .u64 (l3 Y), .bool i], .int .i64 ee]) ∧ Below w.heap.size w w')) (w : World) (hm : Mds w) (h : Cb w g 1 A) (h2 : Cb w g 33 C) (hf : Fb w g 4) :
    Calls Tryd.prog 5 #[.slice (some ⟨g, 0, none⟩) 65 cap] w fun e w' => e = .returned (.tuple #[.agg #[.int .u64 (l0 X), .int .u64 (l1 X), .int .u64 (l2 X), .int .u64 (l3 X), .int .u64 (l0 Y), .int .u64 (l1 Y), .int .u64 (l2 Y), .int .u64 (l3 Y), .bool i], .int .i64 ee]) ∧ Below w.heap.size w w' := by
  have c0 : ∀ o, (w.alloc o).cell? ⟨g, 0, none⟩ = some (.int .u8 4) := fun o => hf.alloc o
  go_enter Tryd.func5, Tryd.ntmps5
  go_wp2_with fail
  refine calls_world (fun W => Below w.heap.size w W ∧ Mds W ∧ Bk9 W w.heap.size ∧ Cb W g 1 A ∧ Cb W g 33 C) ⟨by repeat (first | with_reducible exact Below.refl _ _ | with_reducible refine Below.alloc ?_ (by first | omega | (simp; done) | (simp; omega)) _), hm.alloc _, Bk9.new rfl, h.alloc _, h2.alloc _⟩ ?_
  clear c0
  rintro W ⟨B, hD, hR, hC, hE⟩
  have o3 : w.heap.size ≤ w.heap.size := Nat.le_refl _
  with_reducible refine (PS.out _ hD hC hE).mono ?_
  rintro e w9 ⟨rfl, hb⟩
  replace B := B.trans (hb.mono B.size)
  replace hD := hD.keep hb; replace hR := hR.keep hb; replace hC := hC.keep hb; replace hE := hE.keep hb
  clear hb W hD hC hE
  have gR := hR.cells; have fR := hR.free
  go_wp2
  simp [bodyPost, results, Tryd.results5, go_sem, gR]
  repeat (first | with_reducible exact B | with_reducible refine Below.setCell ?_ o3 _)
set_option maxRecDepth 100000 in
set_option maxHeartbeats 4000000 in
theorem coord_bad {A : List Int} {g ob cap : Nat} {x : Int} (GT : Hid (∀ w, Cb w g ob A → Calls Tryd.prog 37 #[.slice (some ⟨g, ob, none⟩) 32 cap] w fun e w' => e = .returned (.tuple #[.agg #[.int .u64 (l0 x), .int .u64 (l1 x), .int .u64 (l2 x), .int .u64 (l3 x)], .int .i64 0]) ∧ Below w.heap.size w w')) (IB : Hid (∀ w, Mds w → Calls Tryd.prog 20 #[.agg #[.int .u64 (l0 x), .int .u64 (l1 x), .int .u64 (l2 x), .int .u64 (l3 x)]] w fun e w' => e = .returned (.bool false) ∧ Below w.heap.size w w')) (w : World) (hm : Mds w) (h : Cb w g ob A) :
    Calls Tryd.prog 26 #[.slice (some ⟨g, ob, none⟩) 32 cap] w fun e w' => e = .returned (.tuple #[.agg #[.int .u64 0, .int .u64 0, .int .u64 0, .int .u64 0], .int .i64 51]) ∧ Below w.heap.size w w' := by
  go_enter Tryd.func26, Tryd.ntmps26
  go_wp2_with fail
  refine calls_world (fun W => Below w.heap.size w W ∧ Mds W ∧ Blank W w.heap.size ∧ Cb W g ob A) ⟨by repeat (first | with_reducible exact Below.refl _ _ | with_reducible refine Below.alloc ?_ (by first | omega | (simp; done) | (simp; omega)) _), hm.alloc _, Blank.new rfl, h.alloc _⟩ ?_
  rintro W ⟨B, hD, hR, hC⟩
  have o3 : w.heap.size ≤ w.heap.size := Nat.le_refl _
  with_reducible refine (GT.out _ hC).mono ?_
  rintro e w1 ⟨rfl, hb⟩
  replace B := B.trans (hb.mono B.size)
  replace hD := hD.keep hb; replace hR := hR.keep hb; replace hC := hC.keep hb
  clear hb W
  go_wp2_with fail
  refine calls_world (fun W => Below w.heap.size w W ∧ Mds W ∧ Blank W w.heap.size ∧ Cb W g ob A ∧ Nm W w1.heap.size x) ⟨B.alloc B.size _, hD.alloc _, hR.alloc _, hC.alloc _, Nm.newb rfl⟩ ?_
  clear B hD hR hC 
  rintro W ⟨B, hD, hR, hC, hX⟩
  generalize w1.heap.size = bx at *
  with_reducible refine (IB.out _ hD).mono ?_
  rintro e w9 ⟨rfl, hb⟩
  replace B := B.trans (hb.mono B.size)
  replace hD := hD.keep hb; replace hR := hR.keep hb; replace hC := hC.keep hb; replace hX := hX.keep hb
  clear hb W hD hC
  have gX := hX.cells; have gR := hR.1.all4; have fR := hR.2.all4
  have BB : Hid (Below w.heap.size w w9) := B
  clear B
  go_wp2
  simp [bodyPost, results, Tryd.results26, go_sem, *]
  repeat (first | with_reducible exact BB.out | with_reducible refine Below.setCell ?_ o3 _)
set_option maxRecDepth 100000 in
set_option maxHeartbeats 4000000 in
theorem pshort_bad {A : List Int} {g cap : Nat} (hc : 33 ≤ cap) (CO : Hid (∀ w, Mds w → Cb w g 1 A → Calls Tryd.prog 26 #[.slice (some ⟨g, 1, none⟩) 32 (cap - 1)] w fun e w' => e = .returned (.tuple #[.agg #[.int .u64 0, .int .u64 0, .int .u64 0, .int .u64 0], .int .i64 51]) ∧ Below w.heap.size w w')) (w : World) (hm : Mds w) (h : Cb w g 1 A) :
    Calls Tryd.prog 15 #[.slice (some ⟨g, 0, none⟩) 33 cap] w fun e w' => e = .returned (.tuple #[.agg #[.int .u64 0, .int .u64 0, .int .u64 0, .int .u64 0, .int .u64 0, .int .u64 0, .int .u64 0, .int .u64 0, .bool false], .int .i64 51]) ∧ Below w.heap.size w w' := by
  have nc : cap ≠ 1 := by omega
  have nc2 : cap ≠ 0 := by omega
  have nc1 : (33 : Int) ≤ (cap : Int) := by omega
  go_enter Tryd.func15, Tryd.ntmps15
  go_wp2_with fail
  refine calls_world (fun W => Below w.heap.size w W ∧ Mds W ∧ Bk9 W w.heap.size ∧ Cb W g 1 A) ⟨by repeat (first | with_reducible exact Below.refl _ _ | with_reducible refine Below.alloc ?_ (by first | omega | (simp; done) | (simp; omega)) _), hm.alloc _, Bk9.new rfl, h.alloc _⟩ ?_
  rintro W ⟨B, hD, hR, hC⟩
  have o3 : w.heap.size ≤ w.heap.size := Nat.le_refl _
  with_reducible refine (CO.out _ hD hC).mono ?_
  rintro e w1 ⟨rfl, hb⟩
  replace B := B.trans (hb.mono B.size)
  replace hR := hR.keep hb
  have gR := fun o => (hR.alloc o).cells
  have fR := fun o => (hR.alloc o).free
  have BQ : Hid (∀ o, Below w.heap.size w (w1.alloc o)) := fun o => B.alloc B.size o
  clear hb hD hC W hR
  go_wp2
  simp [bodyPost, results, Tryd.results15, go_sem, gR]
  repeat (first | with_reducible exact B | with_reducible exact BQ.out _ | with_reducible refine Below.setCell ?_ o3 _)
set_option maxRecDepth 100000 in
set_option maxHeartbeats 4000000 in
theorem plong_bad1 {A : List Int} {g cap : Nat} (hc : 65 ≤ cap) (CO : Hid (∀ w, Mds w → Cb w g 1 A → Calls Tryd.prog 26 #[.slice (some ⟨g, 1, none⟩) 32 (cap - 1)] w fun e w' => e = .returned (.tuple #[.agg #[.int .u64 0, .int .u64 0, .int .u64 0, .int .u64 0], .int .i64 51]) ∧ Below w.heap.size w w')) (w : World) (hm : Mds w) (h : Cb w g 1 A) :
    Calls Tryd.prog 16 #[.slice (some ⟨g, 0, none⟩) 65 cap] w fun e w' => e = .returned (.tuple #[.agg #[.int .u64 0, .int .u64 0, .int .u64 0, .int .u64 0, .int .u64 0, .int .u64 0, .int .u64 0, .int .u64 0, .bool false], .int .i64 51]) ∧ Below w.heap.size w w' := by
  have nc : cap ≠ 1 := by omega
  have nc2 : cap ≠ 33 := by omega
  have nc1 : (65 : Int) ≤ (cap : Int) := by omega
  go_enter Tryd.func16, Tryd.ntmps16
  go_wp2_with fail
  refine calls_world (fun W => Below w.heap.size w W ∧ Mds W ∧ Bk9 W w.heap.size ∧ Cb W g 1 A) ⟨by repeat (first | with_reducible exact Below.refl _ _ | with_reducible refine Below.alloc ?_ (by first | omega | (simp; done) | (simp; omega)) _), hm.alloc _, Bk9.new rfl, h.alloc _⟩ ?_
  rintro W ⟨B, hD, hR, hC⟩
  have o3 : w.heap.size ≤ w.heap.size := Nat.le_refl _
  with_reducible refine (CO.out _ hD hC).mono ?_
  rintro e w1 ⟨rfl, hb⟩
  replace B := B.trans (hb.mono B.size)
  replace hR := hR.keep hb
  have gR := fun o => (hR.alloc o).cells
  have fR := fun o => (hR.alloc o).free
  have BQ : Hid (∀ o, Below w.heap.size w (w1.alloc o)) := fun o => B.alloc B.size o
  clear hb hD hC W hR
  go_wp2
  simp [bodyPost, results, Tryd.results16, go_sem, gR]
  repeat (first | with_reducible exact B | with_reducible exact BQ.out _ | with_reducible refine Below.setCell ?_ o3 _)
set_option maxRecDepth 100000 in
set_option maxHeartbeats 4000000 in
theorem plong_bad2 {A C : List Int} {g cap : Nat} {x : Int} (hc : 65 ≤ cap) (CO : Hid (∀ w, Mds w → Cb w g 1 A → Calls Tryd.prog 26 #[.slice (some ⟨g, 1, none⟩) 32 (cap - 1)] w fun e w' => e = .returned (.tuple #[.agg #[.int .u64 (l0 x), .int .u64 (l1 x), .int .u64 (l2 x), .int .u64 (l3 x)], .int .i64 0]) ∧ Below w.heap.size w w')) (CP : Hid (∀ w, Mds w → Cb w g 33 C → Calls Tryd.prog 26 #[.slice (some ⟨g, 33, none⟩) 32 (cap - 33)] w fun e w' => e = .returned (.tuple #[.agg #[.int .u64 0, .int .u64 0, .int .u64 0, .int .u64 0], .int .i64 51]) ∧ Below w.heap.size w w')) (w : World) (hm : Mds w) (h : Cb w g 1 A) (h2 : Cb w g 33 C) :
    Calls Tryd.prog 16 #[.slice (some ⟨g, 0, none⟩) 65 cap] w fun e w' => e = .returned (.tuple #[.agg #[.int .u64 0, .int .u64 0, .int .u64 0, .int .u64 0, .int .u64 0, .int .u64 0, .int .u64 0, .int .u64 0, .bool false], .int .i64 51]) ∧ Below w.heap.size w w' := by
  have nc : cap ≠ 1 := by omega
  have nc2 : cap ≠ 33 := by omega
  have nc1 : (65 : Int) ≤ (cap : Int) := by omega
  go_enter Tryd.func16, Tryd.ntmps16
  go_wp2_with fail
  refine calls_world (fun W => Below w.heap.size w W ∧ Mds W ∧ Bk9 W w.heap.size ∧ Cb W g 1 A ∧ Cb W g 33 C) ⟨by repeat (first | with_reducible exact Below.refl _ _ | with_reducible refine Below.alloc ?_ (by first | omega | (simp; done) | (simp; omega)) _), hm.alloc _, Bk9.new rfl, h.alloc _, h2.alloc _⟩ ?_
  rintro W ⟨B, hD, hR, hC, hE⟩
  have o3 : w.heap.size ≤ w.heap.size := Nat.le_refl _
  with_reducible refine (CO.out _ hD hC).mono ?_
  rintro e w1 ⟨rfl, hb⟩
  replace B := B.trans (hb.mono B.size)
  replace hR := hR.keep hb
  replace hD := hD.keep hb; replace hE := hE.keep hb
  clear hb W hC
  go_wp2_with fail
  refine calls_world (fun W => Below w.heap.size w W ∧ Mds W ∧ Bk9 W w.heap.size ∧ Cb W g 33 C) ⟨B.alloc B.size _, hD.alloc _, hR.alloc _, hE.alloc _⟩ ?_
  clear B hD hR hE
  rintro W ⟨B, hD, hR, hE⟩
  generalize w1.heap.size = bx at *
  clear w1
  with_reducible refine (CP.out _ hD hE).mono ?_
  rintro e w1 ⟨rfl, hb⟩
  replace B := B.trans (hb.mono B.size)
  replace hR := hR.keep hb
  have gR := fun o => (hR.alloc o).cells
  have fR := fun o => (hR.alloc o).free
  have BQ : Hid (∀ o, Below w.heap.size w (w1.alloc o)) := fun o => B.alloc B.size o
  clear hb hD hE W hR
  go_wp2
  simp [bodyPost, results, Tryd.results16, go_sem, gR]
  repeat (first | with_reducible exact B | with_reducible exact BQ.out _ | with_reducible refine Below.setCell ?_ o3 _)
set_option maxRecDepth 100000 in
set_option maxHeartbeats 4000000 in
theorem plong_off {A C : List Int} {g cap : Nat} {x y : Int} (hc : 65 ≤ cap) (CO : Hid (∀ w, Mds w → Cb w g 1 A → Calls Tryd.prog 26 #[.slice (some ⟨g, 1, none⟩) 32 (cap - 1)] w fun e w' => e = .returned (.tuple #[.agg #[.int .u64 (l0 x), .int .u64 (l1 x), .int .u64 (l2 x), .int .u64 (l3 x)], .int .i64 0]) ∧ Below w.heap.size w w')) (CP : Hid (∀ w, Mds w → Cb w g 33 C → Calls Tryd.prog 26 #[.slice (some ⟨g, 33, none⟩) 32 (cap - 33)] w fun e w' => e = .returned (.tuple #[.agg #[.int .u64 (l0 y), .int .u64 (l1 y), .int .u64 (l2 y), .int .u64 (l3 y)], .int .i64 0]) ∧ Below w.heap.size w w')) (ON : Hid (∀ w, Mds w → Calls Tryd.prog 10 #[.agg #[.int .u64 (l0 x), .int .u64 (l1 x), .int .u64 (l2 x), .int .u64 (l3 x), .int .u64 (l0 y), .int .u64 (l1 y), .int .u64 (l2 y), .int .u64 (l3 y), .bool false]] w fun e w' => e = .returned (.bool false) ∧ Below w.heap.size w w')) (w : World) (hm : Mds w) (h : Cb w g 1 A) (h2 : Cb w g 33 C) :
    Calls Tryd.prog 16 #[.slice (some ⟨g, 0, none⟩) 65 cap] w fun e w' => e = .returned (.tuple #[.agg #[.int .u64 0, .int .u64 0, .int .u64 0, .int .u64 0, .int .u64 0, .int .u64 0, .int .u64 0, .int .u64 0, .bool false], .int .i64 50]) ∧ Below w.heap.size w w' := by
  have nc : cap ≠ 1 := by omega
  have nc2 : cap ≠ 33 := by omega
  have nc1 : (65 : Int) ≤ (cap : Int) := by omega
  go_enter Tryd.func16, Tryd.ntmps16
  go_wp2_with fail
  refine calls_world (fun W => Below w.heap.size w W ∧ Mds W ∧ Bk9 W w.heap.size ∧ Cb W g 1 A ∧ Cb W g 33 C) ⟨by repeat (first | with_reducible exact Below.refl _ _ | with_reducible refine Below.alloc ?_ (by first | omega | (simp; done) | (simp; omega)) _), hm.alloc _, Bk9.new rfl, h.alloc _, h2.alloc _⟩ ?_
  rintro W ⟨B, hD, hR, hC, hE⟩
  have o3 : w.heap.size ≤ w.heap.size := Nat.le_refl _
  with_reducible refine (CO.out _ hD hC).mono ?_
  rintro e w1 ⟨rfl, hb⟩
  replace B := B.trans (hb.mono B.size)
  replace hD := hD.keep hb; replace hR := hR.keep hb; replace hC := hC.keep hb; replace hE := hE.keep hb
  clear hb W
  go_wp2_with fail
  refine calls_world (fun W => Below w.heap.size w W ∧ Mds W ∧ Bk9 W w.heap.size ∧ Cb W g 1 A ∧ Cb W g 33 C ∧ Nm W w1.heap.size x) ⟨B.alloc B.size _, hD.alloc _, hR.alloc _, hC.alloc _, hE.alloc _, Nm.newb rfl⟩ ?_
  clear B hD hR hC hE 
  rintro W ⟨B, hD, hR, hC, hE, hX⟩
  generalize w1.heap.size = bx at *
  with_reducible refine (CP.out _ hD hE).mono ?_
  rintro e w2 ⟨rfl, hb⟩
  replace B := B.trans (hb.mono B.size)
  replace hD := hD.keep hb; replace hR := hR.keep hb; replace hC := hC.keep hb; replace hE := hE.keep hb; replace hX := hX.keep hb
  clear hb W
  have ghX := fun o => (hX.alloc o).cells
  go_wp2_with fail
  refine calls_world (fun W => Below w.heap.size w W ∧ Mds W ∧ Bk9 W w.heap.size ∧ Cb W g 1 A ∧ Cb W g 33 C ∧ Nm W bx x ∧ Nm W w2.heap.size y ∧ Pnt W (w2.heap.size + 1) x y false) ⟨(B.alloc B.size _).alloc (by have := B.size; simp; omega) _, (hD.alloc _).alloc _, (hR.alloc _).alloc _, (hC.alloc _).alloc _, (hE.alloc _).alloc _, (hX.alloc _).alloc _, (Nm.newb rfl).alloc _, Pnt.new (by simp)⟩ ?_
  clear B hD hR hC hE hX 
  rintro W ⟨B, hD, hR, hC, hE, hX, hV, hP⟩
  generalize w2.heap.size + 1 = bp at *
  generalize w2.heap.size = bv at *
  clear ghX
  with_reducible refine (ON.out _ hD).mono ?_
  rintro e w9 ⟨rfl, hb⟩
  replace B := B.trans (hb.mono B.size)
  replace hD := hD.keep hb; replace hR := hR.keep hb; replace hC := hC.keep hb; replace hE := hE.keep hb; replace hX := hX.keep hb; replace hV := hV.keep hb; replace hP := hP.keep hb
  clear hb W hD hC hE hX hV
  have gP := hP.cells
  have gR := hR.cells; have fR := hR.free
  go_wp2
  simp [bodyPost, results, Tryd.results16, go_sem, gR]
  repeat (first | with_reducible exact B | with_reducible refine Below.setCell ?_ o3 _)
set_option maxRecDepth 100000 in
set_option maxHeartbeats 4000000 in
theorem parse_len {a : Option Addr} {n cap : Nat} (h1 : n ≠ 33) (h2 : n ≠ 65) (w : World) :
    Calls Tryd.prog 5 #[.slice a n cap] w fun e w' => e = .returned (.tuple #[.agg #[.int .u64 0, .int .u64 0, .int .u64 0, .int .u64 0, .int .u64 0, .int .u64 0, .int .u64 0, .int .u64 0, .bool false], .int .i64 51]) ∧ Below w.heap.size w w' := by
  have h1' : ¬ ((n : Int) = 33) := by omega
  have h2' : ¬ ((n : Int) = 65) := by omega
  have B : Below w.heap.size w w := Below.refl _ _
  go_enter Tryd.func5, Tryd.ntmps5
  go_wp2
  simp [bodyPost, results, Tryd.results5, go_sem]
  repeat (first | with_reducible exact Below.refl _ _ | with_reducible refine Below.drew ?_ | with_reducible refine Below.alloc ?_ (by first | omega | (simp; done) | (simp; omega)) _ | with_reducible refine Below.setCell ?_ (by first | omega | (simp; done)) _)
set_option maxRecDepth 100000 in
set_option maxHeartbeats 4000000 in
theorem parse_f33 {g cap : Nat} {f : Int} (q2 : ¬ f = 2) (q3 : ¬ f = 3) (w : World) (hf : Fb w g f) :
    Calls Tryd.prog 5 #[.slice (some ⟨g, 0, none⟩) 33 cap] w fun e w' => e = .returned (.tuple #[.agg #[.int .u64 0, .int .u64 0, .int .u64 0, .int .u64 0, .int .u64 0, .int .u64 0, .int .u64 0, .int .u64 0, .bool false], .int .i64 51]) ∧ Below w.heap.size w w' := by
  have k2 : (f == 2) = false := beq_false_of_ne q2
  have k3 : (f == 3) = false := beq_false_of_ne q3
  have c0 : ∀ o, (w.alloc o).cell? ⟨g, 0, none⟩ = some (.int .u8 f) := fun o => hf.alloc o
  have B : Below w.heap.size w w := Below.refl _ _
  go_enter Tryd.func5, Tryd.ntmps5
  go_wp2
  simp [bodyPost, results, Tryd.results5, go_sem]
  repeat (first | with_reducible exact Below.refl _ _ | with_reducible refine Below.drew ?_ | with_reducible refine Below.alloc ?_ (by first | omega | (simp; done) | (simp; omega)) _ | with_reducible refine Below.setCell ?_ (by first | omega | (simp; done)) _)
set_option maxRecDepth 100000 in
set_option maxHeartbeats 4000000 in
theorem parse_f65 {g cap : Nat} {f : Int} (q4 : ¬ f = 4) (w : World) (hf : Fb w g f) :
    Calls Tryd.prog 5 #[.slice (some ⟨g, 0, none⟩) 65 cap] w fun e w' => e = .returned (.tuple #[.agg #[.int .u64 0, .int .u64 0, .int .u64 0, .int .u64 0, .int .u64 0, .int .u64 0, .int .u64 0, .int .u64 0, .bool false], .int .i64 51]) ∧ Below w.heap.size w w' := by
  have k4 : (f == 4) = false := beq_false_of_ne q4
  have c0 : ∀ o, (w.alloc o).cell? ⟨g, 0, none⟩ = some (.int .u8 f) := fun o => hf.alloc o
  have B : Below w.heap.size w w := Below.refl _ _
  go_enter Tryd.func5, Tryd.ntmps5
  go_wp2
  simp [bodyPost, results, Tryd.results5, go_sem]
  repeat (first | with_reducible exact Below.refl _ _ | with_reducible refine Below.drew ?_ | with_reducible refine Below.alloc ?_ (by first | omega | (simp; done) | (simp; omega)) _ | with_reducible refine Below.setCell ?_ (by first | omega | (simp; done)) _)
end Go.Proofs.YtleneapnjanbbaaDoor

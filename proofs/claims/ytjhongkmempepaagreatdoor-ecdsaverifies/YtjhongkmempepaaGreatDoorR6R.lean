import Derived.Test.YtjhongkmempepaaGreatDoorENum
import Derived.Test.YtjhongkmempepaaGreatDoorERec
namespace Go.Proofs.YtjhongkmempepaaGreatDoor
open Go.RowKit Go.Sort

set_option maxRecDepth 100000 in
set_option maxHeartbeats 8000000 in
theorem r6ver_off {x y r s : Int} {o i : Bool} {A : List Int} (hl : A.length = 32) (C0 : Hid (∀ w, Calls Tryz.prog 28 #[.agg #[.int .u64 (l0 x), .int .u64 (l1 x), .int .u64 (l2 x), .int .u64 (l3 x), .int .u64 (l0 y), .int .u64 (l1 y), .int .u64 (l2 y), .int .u64 (l3 y), .bool i]] w fun e w' => e = .returned (.bool false) ∧ Below w.heap.size w w')) (w : World) :
    Calls Tryz.prog 10 #[.agg #[.int .u64 (l0 x), .int .u64 (l1 x), .int .u64 (l2 x), .int .u64 (l3 x), .int .u64 (l0 y), .int .u64 (l1 y), .int .u64 (l2 y), .int .u64 (l3 y), .bool i], hashV A, .agg #[.int .u64 (l0 r), .int .u64 (l1 r), .int .u64 (l2 r), .int .u64 (l3 r), .int .u64 (l0 s), .int .u64 (l1 s), .int .u64 (l2 s), .int .u64 (l3 s), .bool o]] w fun e w' => e = .returned (.tuple #[.bool false, .int .i64 50]) ∧ Below w.heap.size w w' := by
  unfold hashV at *
  go_enter Tryz.func10, Tryz.ntmps10
  go_wp2_with fail
  refine calls_world (fun W => Below w.heap.size w W ∧ Pnt W w.heap.size x y i ∧ HAt W (w.heap.size + 1) A ∧ Pnt W (w.heap.size + 1 + 1) r s o) ⟨by repeat (first | with_reducible exact Below.refl _ _ | with_reducible refine Below.alloc ?_ (by first | omega | (simp; done) | (simp; omega)) _), ((Pnt.new rfl).alloc _).alloc _, (HAt.new hl (by simp)).alloc _, Pnt.new (by simp)⟩ ?_
  rintro W ⟨B, hX, hY, hP⟩
  generalize w.heap.size + 1 + 1 = bp at *
  generalize w.heap.size + 1 = bd at *
  with_reducible refine (C0.out _).mono ?_
  rintro e w9 ⟨rfl, hb⟩
  replace B := B.trans (hb.mono B.size)
  clear hb hX hY hP W
  go_wp2
  simp [bodyPost, results, Tryz.results10, go_sem]
  exact B

set_option maxRecDepth 100000 in
set_option maxHeartbeats 8000000 in
theorem r6ver_id {x y r s : Int} {o : Bool} {A : List Int} (hl : A.length = 32) (C0 : Hid (∀ w, Calls Tryz.prog 28 #[.agg #[.int .u64 (l0 x), .int .u64 (l1 x), .int .u64 (l2 x), .int .u64 (l3 x), .int .u64 (l0 y), .int .u64 (l1 y), .int .u64 (l2 y), .int .u64 (l3 y), .bool true]] w fun e w' => e = .returned (.bool true) ∧ Below w.heap.size w w')) (w : World) :
    Calls Tryz.prog 10 #[.agg #[.int .u64 (l0 x), .int .u64 (l1 x), .int .u64 (l2 x), .int .u64 (l3 x), .int .u64 (l0 y), .int .u64 (l1 y), .int .u64 (l2 y), .int .u64 (l3 y), .bool true], hashV A, .agg #[.int .u64 (l0 r), .int .u64 (l1 r), .int .u64 (l2 r), .int .u64 (l3 r), .int .u64 (l0 s), .int .u64 (l1 s), .int .u64 (l2 s), .int .u64 (l3 s), .bool o]] w fun e w' => e = .returned (.tuple #[.bool false, .int .i64 50]) ∧ Below w.heap.size w w' := by
  unfold hashV at *
  go_enter Tryz.func10, Tryz.ntmps10
  go_wp2_with fail
  refine calls_world (fun W => Below w.heap.size w W ∧ Pnt W w.heap.size x y true ∧ HAt W (w.heap.size + 1) A ∧ Pnt W (w.heap.size + 1 + 1) r s o) ⟨by repeat (first | with_reducible exact Below.refl _ _ | with_reducible refine Below.alloc ?_ (by first | omega | (simp; done) | (simp; omega)) _), ((Pnt.new rfl).alloc _).alloc _, (HAt.new hl (by simp)).alloc _, Pnt.new (by simp)⟩ ?_
  rintro W ⟨B, hX, hY, hP⟩
  generalize w.heap.size + 1 + 1 = bp at *
  generalize w.heap.size + 1 = bd at *
  with_reducible refine (C0.out _).mono ?_
  rintro e w9 ⟨rfl, hb⟩
  replace B := B.trans (hb.mono B.size)
  replace hX := hX.keep hb; replace hY := hY.keep hb; replace hP := hP.keep hb
  clear hb hY hP W
  have gX := hX.cells
  go_wp2
  simp [bodyPost, results, Tryz.results10, go_sem]
  exact B

set_option maxRecDepth 100000 in
set_option maxHeartbeats 8000000 in
theorem r6ver_check {x y r s e0 : Int} {o : Bool} {A : List Int} (hl : A.length = 32) (C0 : Hid (∀ w, Calls Tryz.prog 28 #[.agg #[.int .u64 (l0 x), .int .u64 (l1 x), .int .u64 (l2 x), .int .u64 (l3 x), .int .u64 (l0 y), .int .u64 (l1 y), .int .u64 (l2 y), .int .u64 (l3 y), .bool false]] w fun e w' => e = .returned (.bool true) ∧ Below w.heap.size w w')) (C1 : Hid (∀ w, Calls Tryz.prog 29 #[.agg #[.int .u64 (l0 r), .int .u64 (l1 r), .int .u64 (l2 r), .int .u64 (l3 r), .int .u64 (l0 s), .int .u64 (l1 s), .int .u64 (l2 s), .int .u64 (l3 s), .bool o]] w fun e w' => e = .returned (.int .i64 e0) ∧ Below w.heap.size w w')) (he : e0 ≠ 0) (w : World) :
    Calls Tryz.prog 10 #[.agg #[.int .u64 (l0 x), .int .u64 (l1 x), .int .u64 (l2 x), .int .u64 (l3 x), .int .u64 (l0 y), .int .u64 (l1 y), .int .u64 (l2 y), .int .u64 (l3 y), .bool false], hashV A, .agg #[.int .u64 (l0 r), .int .u64 (l1 r), .int .u64 (l2 r), .int .u64 (l3 r), .int .u64 (l0 s), .int .u64 (l1 s), .int .u64 (l2 s), .int .u64 (l3 s), .bool o]] w fun e w' => e = .returned (.tuple #[.bool false, .int .i64 e0]) ∧ Below w.heap.size w w' := by
  unfold hashV at *
  go_enter Tryz.func10, Tryz.ntmps10
  go_wp2_with fail
  refine calls_world (fun W => Below w.heap.size w W ∧ Pnt W w.heap.size x y false ∧ HAt W (w.heap.size + 1) A ∧ Pnt W (w.heap.size + 1 + 1) r s o) ⟨by repeat (first | with_reducible exact Below.refl _ _ | with_reducible refine Below.alloc ?_ (by first | omega | (simp; done) | (simp; omega)) _), ((Pnt.new rfl).alloc _).alloc _, (HAt.new hl (by simp)).alloc _, Pnt.new (by simp)⟩ ?_
  rintro W ⟨B, hX, hY, hP⟩
  generalize w.heap.size + 1 + 1 = bp at *
  generalize w.heap.size + 1 = bd at *
  with_reducible refine (C0.out _).mono ?_
  rintro e w1 ⟨rfl, hb⟩
  replace B := B.trans (hb.mono B.size)
  replace hX := hX.keep hb; replace hY := hY.keep hb; replace hP := hP.keep hb
  clear hb W
  have ghX := hX.cells
  have ghP := hP.cells
  go_wp2_with fail
  refine calls_world (fun W => Below w.heap.size w W ∧ Pnt W w.heap.size x y false ∧ HAt W bd A ∧ Pnt W bp r s o) ⟨B, hX, hY, hP⟩ ?_
  clear B hX hY hP ghX ghP
  rintro W ⟨B, hX, hY, hP⟩
  with_reducible refine (C1.out _).mono ?_
  rintro e w9 ⟨rfl, hb⟩
  replace B := B.trans (hb.mono B.size)
  clear hb hX hY hP W
  go_wp2
  simp [bodyPost, results, Tryz.results10, go_sem]
  exact B

set_option maxRecDepth 100000 in
set_option maxHeartbeats 8000000 in
theorem r6ver_none {x y r s v dg b c X Y : Int} {o : Bool} {A : List Int} (hl : A.length = 32) (C0 : Hid (∀ w, Calls Tryz.prog 28 #[.agg #[.int .u64 (l0 x), .int .u64 (l1 x), .int .u64 (l2 x), .int .u64 (l3 x), .int .u64 (l0 y), .int .u64 (l1 y), .int .u64 (l2 y), .int .u64 (l3 y), .bool false]] w fun e w' => e = .returned (.bool true) ∧ Below w.heap.size w w')) (C1 : Hid (∀ w, Calls Tryz.prog 29 #[.agg #[.int .u64 (l0 r), .int .u64 (l1 r), .int .u64 (l2 r), .int .u64 (l3 r), .int .u64 (l0 s), .int .u64 (l1 s), .int .u64 (l2 s), .int .u64 (l3 s), .bool o]] w fun e w' => e = .returned (.int .i64 0) ∧ Below w.heap.size w w')) (C2 : Hid (∀ w, Calls Tryz.prog 30 #[.agg #[.int .u64 (l0 s), .int .u64 (l1 s), .int .u64 (l2 s), .int .u64 (l3 s)]] w fun e w' => e = .returned (.agg #[.int .u64 (l0 v), .int .u64 (l1 v), .int .u64 (l2 v), .int .u64 (l3 v)]) ∧ Below w.heap.size w w')) (CN : Hid (∀ w, Calls Tryz.prog 31 #[.agg ((A.map fun z => Value.int .u8 z).toArray)] w fun e w' => e = .returned (.agg #[.int .u64 (l0 dg), .int .u64 (l1 dg), .int .u64 (l2 dg), .int .u64 (l3 dg)]) ∧ Below w.heap.size w w')) (C3 : Hid (∀ w, Calls Tryz.prog 33 #[.agg #[.int .u64 (l0 dg), .int .u64 (l1 dg), .int .u64 (l2 dg), .int .u64 (l3 dg)], .agg #[.int .u64 (l0 v), .int .u64 (l1 v), .int .u64 (l2 v), .int .u64 (l3 v)]] w fun e w' => e = .returned (.agg #[.int .u64 (l0 b), .int .u64 (l1 b), .int .u64 (l2 b), .int .u64 (l3 b)]) ∧ Below w.heap.size w w')) (C4 : Hid (∀ w, Calls Tryz.prog 33 #[.agg #[.int .u64 (l0 r), .int .u64 (l1 r), .int .u64 (l2 r), .int .u64 (l3 r)], .agg #[.int .u64 (l0 v), .int .u64 (l1 v), .int .u64 (l2 v), .int .u64 (l3 v)]] w fun e w' => e = .returned (.agg #[.int .u64 (l0 c), .int .u64 (l1 c), .int .u64 (l2 c), .int .u64 (l3 c)]) ∧ Below w.heap.size w w')) (CM : Hid (∀ w, Calls Tryz.prog 32 #[.agg #[.int .u64 (l0 b), .int .u64 (l1 b), .int .u64 (l2 b), .int .u64 (l3 b)], .agg #[.int .u64 (l0 c), .int .u64 (l1 c), .int .u64 (l2 c), .int .u64 (l3 c)], .agg #[.int .u64 (l0 x), .int .u64 (l1 x), .int .u64 (l2 x), .int .u64 (l3 x), .int .u64 (l0 y), .int .u64 (l1 y), .int .u64 (l2 y), .int .u64 (l3 y), .bool false]] w fun e w' => e = .returned (.tuple #[.agg #[.int .u64 (l0 X), .int .u64 (l1 X), .int .u64 (l2 X), .int .u64 (l3 X), .int .u64 (l0 Y), .int .u64 (l1 Y), .int .u64 (l2 Y), .int .u64 (l3 Y), .bool true], .int .i64 0]) ∧ Below w.heap.size w w')) (w : World) :
    Calls Tryz.prog 10 #[.agg #[.int .u64 (l0 x), .int .u64 (l1 x), .int .u64 (l2 x), .int .u64 (l3 x), .int .u64 (l0 y), .int .u64 (l1 y), .int .u64 (l2 y), .int .u64 (l3 y), .bool false], hashV A, .agg #[.int .u64 (l0 r), .int .u64 (l1 r), .int .u64 (l2 r), .int .u64 (l3 r), .int .u64 (l0 s), .int .u64 (l1 s), .int .u64 (l2 s), .int .u64 (l3 s), .bool o]] w fun e w' => e = .returned (.tuple #[.bool false, .int .i64 0]) ∧ Below w.heap.size w w' := by
  unfold hashV at *
  go_enter Tryz.func10, Tryz.ntmps10
  go_wp2_with fail
  refine calls_world (fun W => Below w.heap.size w W ∧ Pnt W w.heap.size x y false ∧ HAt W (w.heap.size + 1) A ∧ Pnt W (w.heap.size + 1 + 1) r s o) ⟨by repeat (first | with_reducible exact Below.refl _ _ | with_reducible refine Below.alloc ?_ (by first | omega | (simp; done) | (simp; omega)) _), ((Pnt.new rfl).alloc _).alloc _, (HAt.new hl (by simp)).alloc _, Pnt.new (by simp)⟩ ?_
  rintro W ⟨B, hX, hY, hP⟩
  generalize w.heap.size + 1 + 1 = bp at *
  generalize w.heap.size + 1 = bd at *
  with_reducible refine (C0.out _).mono ?_
  rintro e w1 ⟨rfl, hb⟩
  replace B := B.trans (hb.mono B.size)
  replace hX := hX.keep hb; replace hY := hY.keep hb; replace hP := hP.keep hb
  clear hb W
  have ghX := hX.cells
  have ghP := hP.cells
  go_wp2_with fail
  refine calls_world (fun W => Below w.heap.size w W ∧ Pnt W w.heap.size x y false ∧ HAt W bd A ∧ Pnt W bp r s o) ⟨B, hX, hY, hP⟩ ?_
  clear B hX hY hP ghX ghP
  rintro W ⟨B, hX, hY, hP⟩
  with_reducible refine (C1.out _).mono ?_
  rintro e w2 ⟨rfl, hb⟩
  replace B := B.trans (hb.mono B.size)
  replace hX := hX.keep hb; replace hY := hY.keep hb; replace hP := hP.keep hb
  clear hb W
  have ghP := hP.cells
  go_wp2_with fail
  refine calls_world (fun W => Below w.heap.size w W ∧ Pnt W w.heap.size x y false ∧ HAt W bd A ∧ Pnt W bp r s o) ⟨B, hX, hY, hP⟩ ?_
  clear B hX hY hP ghP
  rintro W ⟨B, hX, hY, hP⟩
  with_reducible refine (C2.out _).mono ?_
  rintro e w3 ⟨rfl, hb⟩
  replace B := B.trans (hb.mono B.size)
  replace hX := hX.keep hb; replace hY := hY.keep hb; replace hP := hP.keep hb
  clear hb W
  have ra := fun a => (hY.alloc a).2
  go_wp2_with (refine wpList_load_mid rfl 26 _ rfl bd 0 rfl (A.map fun z => Value.int .u8 z) _ (ra _) Tryz.underlying26 rfl (by rw [List.length_map, hl]; kernel_rfl) ?_)
  refine calls_world (fun W => Below w.heap.size w W ∧ Pnt W w.heap.size x y false ∧ HAt W bd A ∧ Pnt W bp r s o ∧ Nm W w3.heap.size v) ⟨B.alloc B.size _, hX.alloc _, hY.alloc _, hP.alloc _, Nm.new rfl⟩ ?_
  clear B hX hY hP 
  rintro W ⟨B, hX, hY, hP, hV1⟩
  generalize w3.heap.size = bv at *
  clear ra
  with_reducible refine (CN.out _).mono ?_
  rintro e w4 ⟨rfl, hb⟩
  replace B := B.trans (hb.mono B.size)
  replace hX := hX.keep hb; replace hY := hY.keep hb; replace hP := hP.keep hb; replace hV1 := hV1.keep hb
  clear hb W
  go_wp2_with fail
  refine wp_world (fun W => Below w.heap.size w W ∧ Pnt W w.heap.size x y false ∧ HAt W bd A ∧ Pnt W bp r s o ∧ Nm W bv v ∧ Nm W w4.heap.size dg) ⟨B.alloc B.size _, hX.alloc _, hY.alloc _, hP.alloc _, hV1.alloc _, Nm.new rfl⟩ ?_
  clear B hX hY hP hV1 
  rintro W ⟨B, hX, hY, hP, hV1, hE⟩
  generalize w4.heap.size = be at *
  refine put_tail (A := ?AA1) 12 (fun V kk => put9 V kk X Y true) (by kernel_rfl) (by kernel_rfl) rfl rfl rfl (alloc_pt _ _ _) (fun V V0 h0 h1 => below_put9 (alloc_below h0 h1) h0.size) (fun V hV => ?HH1) (fun V V0 h0 h1 => ?EE1) (fun V0 V w1 h0 h1 h2 => ?TT1)
  case HH1 =>
    have ghX := (hX.keep hV).grown
    have ghP := (hP.keep hV).grown
    have ghV1 := (hV1.keep hV).grown
    have ghE := (hE.keep hV).grown
    unfold Gr
    simp only [List.take_succ_cons, List.take_zero]
    repeat
      first
        | go_big_quiet_skip
        | (go_big_quiet_want; go_big_quiet_op; go_big_quiet_on)
        | (go_big_quiet_want
           go_big_quiet_op
           apply Exists.intro
           refine ⟨fun p => ?_, ?_⟩
           · (first | (go_at_call 33; with_reducible exact Calls.regrown_of (C3.out _)) | (go_at_call 33; with_reducible exact Calls.regrown_of (C4.out _)) | (go_at_call 32; with_reducible exact Calls.regrown_of (CM.out _)))
           go_big_quiet_on)
    refine wpQuiet_nil ?_
    exact rfl
  case EE1 =>
    obtain ⟨c0, c1, c2, c3, c4, c5, c6, c7, c8⟩ := ((Bk9.new rfl).keep h1).cells
    obtain ⟨f0, f1, f2, f3, f4, f5, f6, f7, f8⟩ := ((Bk9.new rfl).keep h1).free
    unfold put9
    simp [execOp, Act.put, Act.eval, go_sem, c0, c1, c2, c3, c4, c5, c6, c7, c8, f0, f1, f2, f3, f4, f5, f6, f7, f8]
  case TT1 =>
    have hN := (((Bk9.new rfl).keep h1).put9 X Y true).keep h2
    have hb := alloc_below h0 h1
    have nhX : V0.heap.size ≠ w.heap.size := Nat.ne_of_gt (Nat.lt_of_lt_of_le hX.lt h0.size)
    have nhY : V0.heap.size ≠ bd := Nat.ne_of_gt (Nat.lt_of_lt_of_le hY.lt h0.size)
    have nhP : V0.heap.size ≠ bp := Nat.ne_of_gt (Nat.lt_of_lt_of_le hP.lt h0.size)
    have nhV1 : V0.heap.size ≠ bv := Nat.ne_of_gt (Nat.lt_of_lt_of_le hV1.lt h0.size)
    have nhE : V0.heap.size ≠ be := Nat.ne_of_gt (Nat.lt_of_lt_of_le hE.lt h0.size)
    have gn : w.heap.size ≤ V0.heap.size := Nat.le_trans B.size h0.size
    have B1 := below_put9 (x' := X) (y' := Y) (j := true) (B.trans (hb.mono B.size)) gn
    replace B := B1.trans (h2.mono B1.size)
    replace hX := ((hX.keep hb).put9 nhX).keep h2
    replace hY := ((hY.keep hb).put9 nhY).keep h2
    replace hP := ((hP.keep hb).put9 nhP).keep h2
    replace hV1 := ((hV1.keep hb).put9 nhV1).keep h2
    replace hE := ((hE.keep hb).put9 nhE).keep h2
    clear hb h0 h1 h2 B1 W gn nhX nhY nhP nhV1 nhE
    generalize V0.heap.size = bq at *
    clear V V0
    have gN := hN.cells
    simp only [List.drop_succ_cons, List.drop_zero, Act.put, List.setIfInBounds_toArray, List.set_cons_zero, List.set_cons_succ]
    go_wp2
    simp [bodyPost, results, Tryz.results10, go_sem]
    exact B

set_option maxRecDepth 100000 in
set_option maxHeartbeats 8000000 in
theorem r6ver_ok {x y r s v dg b c X Y q : Int} {o t : Bool} {A : List Int} (hl : A.length = 32) (C0 : Hid (∀ w, Calls Tryz.prog 28 #[.agg #[.int .u64 (l0 x), .int .u64 (l1 x), .int .u64 (l2 x), .int .u64 (l3 x), .int .u64 (l0 y), .int .u64 (l1 y), .int .u64 (l2 y), .int .u64 (l3 y), .bool false]] w fun e w' => e = .returned (.bool true) ∧ Below w.heap.size w w')) (C1 : Hid (∀ w, Calls Tryz.prog 29 #[.agg #[.int .u64 (l0 r), .int .u64 (l1 r), .int .u64 (l2 r), .int .u64 (l3 r), .int .u64 (l0 s), .int .u64 (l1 s), .int .u64 (l2 s), .int .u64 (l3 s), .bool o]] w fun e w' => e = .returned (.int .i64 0) ∧ Below w.heap.size w w')) (C2 : Hid (∀ w, Calls Tryz.prog 30 #[.agg #[.int .u64 (l0 s), .int .u64 (l1 s), .int .u64 (l2 s), .int .u64 (l3 s)]] w fun e w' => e = .returned (.agg #[.int .u64 (l0 v), .int .u64 (l1 v), .int .u64 (l2 v), .int .u64 (l3 v)]) ∧ Below w.heap.size w w')) (CN : Hid (∀ w, Calls Tryz.prog 31 #[.agg ((A.map fun z => Value.int .u8 z).toArray)] w fun e w' => e = .returned (.agg #[.int .u64 (l0 dg), .int .u64 (l1 dg), .int .u64 (l2 dg), .int .u64 (l3 dg)]) ∧ Below w.heap.size w w')) (C3 : Hid (∀ w, Calls Tryz.prog 33 #[.agg #[.int .u64 (l0 dg), .int .u64 (l1 dg), .int .u64 (l2 dg), .int .u64 (l3 dg)], .agg #[.int .u64 (l0 v), .int .u64 (l1 v), .int .u64 (l2 v), .int .u64 (l3 v)]] w fun e w' => e = .returned (.agg #[.int .u64 (l0 b), .int .u64 (l1 b), .int .u64 (l2 b), .int .u64 (l3 b)]) ∧ Below w.heap.size w w')) (C4 : Hid (∀ w, Calls Tryz.prog 33 #[.agg #[.int .u64 (l0 r), .int .u64 (l1 r), .int .u64 (l2 r), .int .u64 (l3 r)], .agg #[.int .u64 (l0 v), .int .u64 (l1 v), .int .u64 (l2 v), .int .u64 (l3 v)]] w fun e w' => e = .returned (.agg #[.int .u64 (l0 c), .int .u64 (l1 c), .int .u64 (l2 c), .int .u64 (l3 c)]) ∧ Below w.heap.size w w')) (CM : Hid (∀ w, Calls Tryz.prog 32 #[.agg #[.int .u64 (l0 b), .int .u64 (l1 b), .int .u64 (l2 b), .int .u64 (l3 b)], .agg #[.int .u64 (l0 c), .int .u64 (l1 c), .int .u64 (l2 c), .int .u64 (l3 c)], .agg #[.int .u64 (l0 x), .int .u64 (l1 x), .int .u64 (l2 x), .int .u64 (l3 x), .int .u64 (l0 y), .int .u64 (l1 y), .int .u64 (l2 y), .int .u64 (l3 y), .bool false]] w fun e w' => e = .returned (.tuple #[.agg #[.int .u64 (l0 X), .int .u64 (l1 X), .int .u64 (l2 X), .int .u64 (l3 X), .int .u64 (l0 Y), .int .u64 (l1 Y), .int .u64 (l2 Y), .int .u64 (l3 Y), .bool false], .int .i64 0]) ∧ Below w.heap.size w w')) (C5 : Hid (∀ w, Calls Tryz.prog 34 #[.int .i64 1, .agg #[.int .u64 0, .int .u64 0, .int .u64 0, .int .u64 0], .agg #[.int .u64 (l0 X), .int .u64 (l1 X), .int .u64 (l2 X), .int .u64 (l3 X)]] w fun e w' => e = .returned (.tuple #[.agg #[.int .u64 (l0 q), .int .u64 (l1 q), .int .u64 (l2 q), .int .u64 (l3 q)], .int .i64 0]) ∧ Below w.heap.size w w')) (E : ∀ w, (Op.equalIn 10000 24 (.agg #[.int .u64 (l0 q), .int .u64 (l1 q), .int .u64 (l2 q), .int .u64 (l3 q)]) (.agg #[.int .u64 (l0 r), .int .u64 (l1 r), .int .u64 (l2 r), .int .u64 (l3 r)])).run Tryz.prog w = .ok t w) (w : World) :
    Calls Tryz.prog 10 #[.agg #[.int .u64 (l0 x), .int .u64 (l1 x), .int .u64 (l2 x), .int .u64 (l3 x), .int .u64 (l0 y), .int .u64 (l1 y), .int .u64 (l2 y), .int .u64 (l3 y), .bool false], hashV A, .agg #[.int .u64 (l0 r), .int .u64 (l1 r), .int .u64 (l2 r), .int .u64 (l3 r), .int .u64 (l0 s), .int .u64 (l1 s), .int .u64 (l2 s), .int .u64 (l3 s), .bool o]] w fun e w' => e = .returned (.tuple #[.bool t, .int .i64 0]) ∧ Below w.heap.size w w' := by
  unfold hashV at *
  go_enter Tryz.func10, Tryz.ntmps10
  go_wp2_with fail
  refine calls_world (fun W => Below w.heap.size w W ∧ Pnt W w.heap.size x y false ∧ HAt W (w.heap.size + 1) A ∧ Pnt W (w.heap.size + 1 + 1) r s o) ⟨by repeat (first | with_reducible exact Below.refl _ _ | with_reducible refine Below.alloc ?_ (by first | omega | (simp; done) | (simp; omega)) _), ((Pnt.new rfl).alloc _).alloc _, (HAt.new hl (by simp)).alloc _, Pnt.new (by simp)⟩ ?_
  rintro W ⟨B, hX, hY, hP⟩
  generalize w.heap.size + 1 + 1 = bp at *
  generalize w.heap.size + 1 = bd at *
  with_reducible refine (C0.out _).mono ?_
  rintro e w1 ⟨rfl, hb⟩
  replace B := B.trans (hb.mono B.size)
  replace hX := hX.keep hb; replace hY := hY.keep hb; replace hP := hP.keep hb
  clear hb W
  have ghX := hX.cells
  have ghP := hP.cells
  go_wp2_with fail
  refine calls_world (fun W => Below w.heap.size w W ∧ Pnt W w.heap.size x y false ∧ HAt W bd A ∧ Pnt W bp r s o) ⟨B, hX, hY, hP⟩ ?_
  clear B hX hY hP ghX ghP
  rintro W ⟨B, hX, hY, hP⟩
  with_reducible refine (C1.out _).mono ?_
  rintro e w2 ⟨rfl, hb⟩
  replace B := B.trans (hb.mono B.size)
  replace hX := hX.keep hb; replace hY := hY.keep hb; replace hP := hP.keep hb
  clear hb W
  have ghP := hP.cells
  go_wp2_with fail
  refine calls_world (fun W => Below w.heap.size w W ∧ Pnt W w.heap.size x y false ∧ HAt W bd A ∧ Pnt W bp r s o) ⟨B, hX, hY, hP⟩ ?_
  clear B hX hY hP ghP
  rintro W ⟨B, hX, hY, hP⟩
  with_reducible refine (C2.out _).mono ?_
  rintro e w3 ⟨rfl, hb⟩
  replace B := B.trans (hb.mono B.size)
  replace hX := hX.keep hb; replace hY := hY.keep hb; replace hP := hP.keep hb
  clear hb W
  have ra := fun a => (hY.alloc a).2
  go_wp2_with (refine wpList_load_mid rfl 26 _ rfl bd 0 rfl (A.map fun z => Value.int .u8 z) _ (ra _) Tryz.underlying26 rfl (by rw [List.length_map, hl]; kernel_rfl) ?_)
  refine calls_world (fun W => Below w.heap.size w W ∧ Pnt W w.heap.size x y false ∧ HAt W bd A ∧ Pnt W bp r s o ∧ Nm W w3.heap.size v) ⟨B.alloc B.size _, hX.alloc _, hY.alloc _, hP.alloc _, Nm.new rfl⟩ ?_
  clear B hX hY hP 
  rintro W ⟨B, hX, hY, hP, hV1⟩
  generalize w3.heap.size = bv at *
  clear ra
  with_reducible refine (CN.out _).mono ?_
  rintro e w4 ⟨rfl, hb⟩
  replace B := B.trans (hb.mono B.size)
  replace hX := hX.keep hb; replace hY := hY.keep hb; replace hP := hP.keep hb; replace hV1 := hV1.keep hb
  clear hb W
  go_wp2_with fail
  refine wp_world (fun W => Below w.heap.size w W ∧ Pnt W w.heap.size x y false ∧ HAt W bd A ∧ Pnt W bp r s o ∧ Nm W bv v ∧ Nm W w4.heap.size dg) ⟨B.alloc B.size _, hX.alloc _, hY.alloc _, hP.alloc _, hV1.alloc _, Nm.new rfl⟩ ?_
  clear B hX hY hP hV1 
  rintro W ⟨B, hX, hY, hP, hV1, hE⟩
  generalize w4.heap.size = be at *
  refine put_tail (A := ?AA1) 12 (fun V kk => put9 V kk X Y false) (by kernel_rfl) (by kernel_rfl) rfl rfl rfl (alloc_pt _ _ _) (fun V V0 h0 h1 => below_put9 (alloc_below h0 h1) h0.size) (fun V hV => ?HH1) (fun V V0 h0 h1 => ?EE1) (fun V0 V w1 h0 h1 h2 => ?TT1)
  case HH1 =>
    have ghX := (hX.keep hV).grown
    have ghP := (hP.keep hV).grown
    have ghV1 := (hV1.keep hV).grown
    have ghE := (hE.keep hV).grown
    unfold Gr
    simp only [List.take_succ_cons, List.take_zero]
    repeat
      first
        | go_big_quiet_skip
        | (go_big_quiet_want; go_big_quiet_op; go_big_quiet_on)
        | (go_big_quiet_want
           go_big_quiet_op
           apply Exists.intro
           refine ⟨fun p => ?_, ?_⟩
           · (first | (go_at_call 33; with_reducible exact Calls.regrown_of (C3.out _)) | (go_at_call 33; with_reducible exact Calls.regrown_of (C4.out _)) | (go_at_call 32; with_reducible exact Calls.regrown_of (CM.out _)))
           go_big_quiet_on)
    refine wpQuiet_nil ?_
    exact rfl
  case EE1 =>
    obtain ⟨c0, c1, c2, c3, c4, c5, c6, c7, c8⟩ := ((Bk9.new rfl).keep h1).cells
    obtain ⟨f0, f1, f2, f3, f4, f5, f6, f7, f8⟩ := ((Bk9.new rfl).keep h1).free
    unfold put9
    simp [execOp, Act.put, Act.eval, go_sem, c0, c1, c2, c3, c4, c5, c6, c7, c8, f0, f1, f2, f3, f4, f5, f6, f7, f8]
  case TT1 =>
    have hN := (((Bk9.new rfl).keep h1).put9 X Y false).keep h2
    have hb := alloc_below h0 h1
    have nhX : V0.heap.size ≠ w.heap.size := Nat.ne_of_gt (Nat.lt_of_lt_of_le hX.lt h0.size)
    have nhY : V0.heap.size ≠ bd := Nat.ne_of_gt (Nat.lt_of_lt_of_le hY.lt h0.size)
    have nhP : V0.heap.size ≠ bp := Nat.ne_of_gt (Nat.lt_of_lt_of_le hP.lt h0.size)
    have nhV1 : V0.heap.size ≠ bv := Nat.ne_of_gt (Nat.lt_of_lt_of_le hV1.lt h0.size)
    have nhE : V0.heap.size ≠ be := Nat.ne_of_gt (Nat.lt_of_lt_of_le hE.lt h0.size)
    have gn : w.heap.size ≤ V0.heap.size := Nat.le_trans B.size h0.size
    have B1 := below_put9 (x' := X) (y' := Y) (j := false) (B.trans (hb.mono B.size)) gn
    replace B := B1.trans (h2.mono B1.size)
    replace hX := ((hX.keep hb).put9 nhX).keep h2
    replace hY := ((hY.keep hb).put9 nhY).keep h2
    replace hP := ((hP.keep hb).put9 nhP).keep h2
    replace hV1 := ((hV1.keep hb).put9 nhV1).keep h2
    replace hE := ((hE.keep hb).put9 nhE).keep h2
    clear hb h0 h1 h2 B1 W gn nhX nhY nhP nhV1 nhE
    generalize V0.heap.size = bq at *
    clear V V0
    have gN := hN.cells
    simp only [List.drop_succ_cons, List.drop_zero, Act.put, List.setIfInBounds_toArray, List.set_cons_zero, List.set_cons_succ]
    go_wp2_with fail
    refine calls_world (fun W => Below w.heap.size w W ∧ Pnt W w.heap.size x y false ∧ HAt W bd A ∧ Pnt W bp r s o ∧ Nm W bv v ∧ Nm W be dg ∧ Pnt W bq X Y false) ⟨B, hX, hY, hP, hV1, hE, hN⟩ ?_
    clear B hN gN hX hY hP hV1 hE 
    rintro W ⟨B, hX, hY, hP, hV1, hE, hQ⟩
    clear w1
    clear hX hY hV1 hE hQ
    with_reducible refine (C5.out _).mono ?_
    rintro e w8 ⟨rfl, hb⟩
    replace B := B.trans (hb.mono B.size)
    replace hP := hP.keep hb
    clear hb W
    have gP := fun o => (hP.alloc o).cells
    have BB : Hid (∀ o, Below w.heap.size w (w8.alloc o)) := fun o => B.alloc B.size o
    clear B hP
    go_wp2
    simp [bodyPost, results, Tryz.results10, go_sem]
    exact BB.out _
end Go.Proofs.YtjhongkmempepaaGreatDoor

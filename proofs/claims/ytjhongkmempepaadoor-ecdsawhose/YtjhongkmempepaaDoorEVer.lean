import Derived.Test.YtjhongkmempepaaDoorERec
namespace Go.Proofs.YtjhongkmempepaaDoor
open Go.RowKit Go.Sort

set_option maxRecDepth 100000 in
set_option maxHeartbeats 8000000 in
theorem ever_none {x y r s v dg b c X Y : Int} {o : Bool} {A : List Int} (hl : A.length = 32) (C0 : Hid (∀ w, Mds w → Calls Tryd.prog 27 #[.agg #[.int .u64 (l0 x), .int .u64 (l1 x), .int .u64 (l2 x), .int .u64 (l3 x), .int .u64 (l0 y), .int .u64 (l1 y), .int .u64 (l2 y), .int .u64 (l3 y), .bool false]] w fun e w' => e = .returned (.bool true) ∧ Below w.heap.size w w')) (C1 : Hid (∀ w, Mds w → Calls Tryd.prog 6 #[.agg #[.int .u64 (l0 r), .int .u64 (l1 r), .int .u64 (l2 r), .int .u64 (l3 r), .int .u64 (l0 s), .int .u64 (l1 s), .int .u64 (l2 s), .int .u64 (l3 s), .bool o]] w fun e w' => e = .returned (.int .i64 0) ∧ Below w.heap.size w w')) (C2 : Hid (∀ w, Mds w → Calls Tryd.prog 17 #[.agg #[.int .u64 (l0 s), .int .u64 (l1 s), .int .u64 (l2 s), .int .u64 (l3 s)]] w fun e w' => e = .returned (.agg #[.int .u64 (l0 v), .int .u64 (l1 v), .int .u64 (l2 v), .int .u64 (l3 v)]) ∧ Below w.heap.size w w')) (CN : Hid (∀ w, Mds w → Calls Tryd.prog 20 #[.agg ((A.map fun z => Value.int .u8 z).toArray)] w fun e w' => e = .returned (.agg #[.int .u64 (l0 dg), .int .u64 (l1 dg), .int .u64 (l2 dg), .int .u64 (l3 dg)]) ∧ Below w.heap.size w w')) (C3 : Hid (∀ w, Mds w → Calls Tryd.prog 18 #[.agg #[.int .u64 (l0 dg), .int .u64 (l1 dg), .int .u64 (l2 dg), .int .u64 (l3 dg)], .agg #[.int .u64 (l0 v), .int .u64 (l1 v), .int .u64 (l2 v), .int .u64 (l3 v)]] w fun e w' => e = .returned (.agg #[.int .u64 (l0 b), .int .u64 (l1 b), .int .u64 (l2 b), .int .u64 (l3 b)]) ∧ Below w.heap.size w w')) (C4 : Hid (∀ w, Mds w → Calls Tryd.prog 18 #[.agg #[.int .u64 (l0 r), .int .u64 (l1 r), .int .u64 (l2 r), .int .u64 (l3 r)], .agg #[.int .u64 (l0 v), .int .u64 (l1 v), .int .u64 (l2 v), .int .u64 (l3 v)]] w fun e w' => e = .returned (.agg #[.int .u64 (l0 c), .int .u64 (l1 c), .int .u64 (l2 c), .int .u64 (l3 c)]) ∧ Below w.heap.size w w')) (CM : Hid (∀ w, Mds w → Cols w → Calls Tryd.prog 9 #[.agg #[.int .u64 (l0 b), .int .u64 (l1 b), .int .u64 (l2 b), .int .u64 (l3 b)], .agg #[.int .u64 (l0 c), .int .u64 (l1 c), .int .u64 (l2 c), .int .u64 (l3 c)], .agg #[.int .u64 (l0 x), .int .u64 (l1 x), .int .u64 (l2 x), .int .u64 (l3 x), .int .u64 (l0 y), .int .u64 (l1 y), .int .u64 (l2 y), .int .u64 (l3 y), .bool false]] w fun e w' => e = .returned (.tuple #[.agg #[.int .u64 (l0 X), .int .u64 (l1 X), .int .u64 (l2 X), .int .u64 (l3 X), .int .u64 (l0 Y), .int .u64 (l1 Y), .int .u64 (l2 Y), .int .u64 (l3 Y), .bool true], .int .i64 0]) ∧ Below w.heap.size w w')) (w : World) (hm : Mds w) (hc : Cols w) :
    Calls Tryd.prog 12 #[.agg #[.int .u64 (l0 x), .int .u64 (l1 x), .int .u64 (l2 x), .int .u64 (l3 x), .int .u64 (l0 y), .int .u64 (l1 y), .int .u64 (l2 y), .int .u64 (l3 y), .bool false], hashV A, .agg #[.int .u64 (l0 r), .int .u64 (l1 r), .int .u64 (l2 r), .int .u64 (l3 r), .int .u64 (l0 s), .int .u64 (l1 s), .int .u64 (l2 s), .int .u64 (l3 s), .bool o]] w fun e w' => e = .returned (.tuple #[.bool false, .int .i64 0]) ∧ Below w.heap.size w w' := by
  unfold hashV at *
  go_enter Tryd.func12, Tryd.ntmps12
  go_wp2_with fail
  refine calls_world (fun W => Below w.heap.size w W ∧ Mds W ∧ Cols W ∧ Pnt W w.heap.size x y false ∧ HAt W (w.heap.size + 1) A ∧ Pnt W (w.heap.size + 1 + 1) r s o) ⟨by repeat (first | with_reducible exact Below.refl _ _ | with_reducible refine Below.alloc ?_ (by first | omega | (simp; done) | (simp; omega)) _), ((hm.alloc _).alloc _).alloc _, ((Cols.alloc hc _).alloc _).alloc _, ((Pnt.new rfl).alloc _).alloc _, (HAt.new hl (by simp)).alloc _, Pnt.new (by simp)⟩ ?_
  rintro W ⟨B, hD, hO, hX, hY, hP⟩
  generalize w.heap.size + 1 + 1 = bp at *
  generalize w.heap.size + 1 = bd at *
  with_reducible refine (C0.out _ hD).mono ?_
  rintro e w1 ⟨rfl, hb⟩
  replace B := B.trans (hb.mono B.size)
  replace hD := hD.keep hb; replace hO := hO.keep hb; replace hX := hX.keep hb; replace hY := hY.keep hb; replace hP := hP.keep hb
  clear hb W
  have ghP := hP.cells
  go_wp2_with fail
  refine calls_world (fun W => Below w.heap.size w W ∧ Mds W ∧ Cols W ∧ Pnt W w.heap.size x y false ∧ HAt W bd A ∧ Pnt W bp r s o) ⟨B, hD, hO, hX, hY, hP⟩ ?_
  clear B hD hO hX hY hP ghP
  rintro W ⟨B, hD, hO, hX, hY, hP⟩
  with_reducible refine (C1.out _ hD).mono ?_
  rintro e w2 ⟨rfl, hb⟩
  replace B := B.trans (hb.mono B.size)
  replace hD := hD.keep hb; replace hO := hO.keep hb; replace hX := hX.keep hb; replace hY := hY.keep hb; replace hP := hP.keep hb
  clear hb W
  have ghP := hP.cells
  go_wp2_with fail
  refine calls_world (fun W => Below w.heap.size w W ∧ Mds W ∧ Cols W ∧ Pnt W w.heap.size x y false ∧ HAt W bd A ∧ Pnt W bp r s o) ⟨B, hD, hO, hX, hY, hP⟩ ?_
  clear B hD hO hX hY hP ghP
  rintro W ⟨B, hD, hO, hX, hY, hP⟩
  with_reducible refine (C2.out _ hD).mono ?_
  rintro e w3 ⟨rfl, hb⟩
  replace B := B.trans (hb.mono B.size)
  replace hD := hD.keep hb; replace hO := hO.keep hb; replace hX := hX.keep hb; replace hY := hY.keep hb; replace hP := hP.keep hb
  clear hb W
  go_wp2_with fail
  refine wp_world (fun W => Below w.heap.size w W ∧ Mds W ∧ Cols W ∧ Pnt W w.heap.size x y false ∧ HAt W bd A ∧ Pnt W bp r s o ∧ Nm W w3.heap.size v) ⟨B.alloc B.size _, hD.alloc _, hO.alloc _, hX.alloc _, hY.alloc _, hP.alloc _, Nm.new rfl⟩ ?_
  clear B hD hO hX hY hP 
  rintro W ⟨B, hD, hO, hX, hY, hP, hV1⟩
  generalize w3.heap.size = bv at *
  refine put_tail (A := ?AA1) 13 (fun V kk => put9 V kk X Y true) (by kernel_rfl) (by kernel_rfl) rfl rfl rfl (alloc_pt _ _ _) (fun V V0 h0 h1 => below_put9 (alloc_below h0 h1) h0.size) (fun V hV => ?HH1) (fun V V0 h0 h1 => ?EE1) (fun V0 V w1 h0 h1 h2 => ?TT1)
  case HH1 =>
    have hDg : ∀ d os, Mds (grow (redrawn V d) os) := fun d os => (hD.keep hV).keep (below_regrown V d os)
    have hOg : ∀ d os, Cols (grow (redrawn V d) os) := fun d os => (hO.keep hV).keep (below_regrown V d os)
    have ghX := (hX.keep hV).grown
    have ghP := (hP.keep hV).grown
    have ghV1 := (hV1.keep hV).grown
    have ldY : ∀ w', (∃ p : Regrown, w' = grow (redrawn V p.d) p.os) → w'.rangeAt bd 0 (A.map fun z => Value.int .u8 z) := by rintro w' ⟨p, rfl⟩; exact ((hY.keep hV).keep (below_regrown V p.d p.os)).2
    unfold Gr
    simp only [List.take_succ_cons, List.take_zero]
    repeat
      first
        | go_big_quiet_skip
        | (go_big_quiet_want; go_big_quiet_op; go_big_quiet_on)
        | (go_big_quiet_want; refine quiet_load_mid 23 _ rfl bd 0 rfl (A.map fun z => Value.int .u8 z) _ ldY Tryd.underlying23 rfl (by rw [List.length_map, hl]; kernel_rfl) ?_; simp only [Act.put, List.setIfInBounds_toArray, List.set_cons_succ, List.set_cons_zero]; go_big_quiet_on)
        | (go_big_quiet_want
           go_big_quiet_op
           apply Exists.intro
           refine ⟨fun p => ?_, ?_⟩
           · (first | (go_at_call 20; with_reducible exact Calls.regrown_of (CN.out _ (hDg p.d p.os))) | (go_at_call 18; with_reducible exact Calls.regrown_of (C3.out _ (hDg p.d p.os))) | (go_at_call 18; with_reducible exact Calls.regrown_of (C4.out _ (hDg p.d p.os))) | (go_at_call 9; with_reducible exact Calls.regrown_of (CM.out _ (hDg p.d p.os) (hOg p.d p.os))))
           go_big_quiet_on)
    refine wpQuiet_nil ?_
    exact rfl
  case EE1 =>
    obtain ⟨c0, c1, c2, c3, c4, c5, c6, c7, c8⟩ := ((Bk9.new rfl).keep h1).cells
    obtain ⟨f0, f1, f2, f3, f4, f5, f6, f7, f8⟩ := ((Bk9.new rfl).keep h1).free
    unfold put9
    simp [execOp, Act.put, Act.eval, go_sem, c0, c1, c2, c3, c4, c5, c6, c7, c8, f0, f1, f2, f3, f4, f5, f6, f7, f8]
  case TT1 =>
    have hN := (((Bk9.new rfl).keep h1).put9 X Y true).keep h2
    have hb := alloc_below h0 h1
    have nhD : V0.heap.size ≠ 0 := Nat.ne_of_gt (Nat.lt_of_lt_of_le hD.lt h0.size)
    have nhO : V0.heap.size ≠ 1 := Nat.ne_of_gt (Nat.lt_of_lt_of_le hO.lt h0.size)
    have nhX : V0.heap.size ≠ w.heap.size := Nat.ne_of_gt (Nat.lt_of_lt_of_le hX.lt h0.size)
    have nhY : V0.heap.size ≠ bd := Nat.ne_of_gt (Nat.lt_of_lt_of_le hY.lt h0.size)
    have nhP : V0.heap.size ≠ bp := Nat.ne_of_gt (Nat.lt_of_lt_of_le hP.lt h0.size)
    have nhV1 : V0.heap.size ≠ bv := Nat.ne_of_gt (Nat.lt_of_lt_of_le hV1.lt h0.size)
    have gn : w.heap.size ≤ V0.heap.size := Nat.le_trans B.size h0.size
    have B1 := below_put9 (x' := X) (y' := Y) (j := true) (B.trans (hb.mono B.size)) gn
    replace B := B1.trans (h2.mono B1.size)
    replace hD := ((hD.keep hb).put9 nhD).keep h2
    replace hO := ((hO.keep hb).put9 nhO).keep h2
    replace hX := ((hX.keep hb).put9 nhX).keep h2
    replace hY := ((hY.keep hb).put9 nhY).keep h2
    replace hP := ((hP.keep hb).put9 nhP).keep h2
    replace hV1 := ((hV1.keep hb).put9 nhV1).keep h2
    clear hb h0 h1 h2 B1 W gn nhD nhO nhX nhY nhP nhV1
    generalize V0.heap.size = bq at *
    clear V V0
    simp only [List.drop_succ_cons, List.drop_zero, Act.put, List.setIfInBounds_toArray, List.set_cons_zero, List.set_cons_succ]
    go_wp2_with fail
    refine wp_world (fun W => Below w.heap.size w W ∧ Mds W ∧ Cols W ∧ Pnt W w.heap.size x y false ∧ HAt W bd A ∧ Pnt W bp r s o ∧ Nm W bv v ∧ Pnt W bq X Y true) ⟨B, hD, hO, hX, hY, hP, hV1, hN⟩ ?_
    clear B hN hD hO hX hY hP hV1 
    rintro W ⟨B, hD, hO, hX, hY, hP, hV1, hQ⟩
    clear w1
    clear hX hY hV1
    have ghQ := hQ.grown
    have ghP := hP.grown
    have hDg : ∀ d os, Mds (grow (redrawn W d) os) := fun d os => hD.keep (below_regrown W d os)
    have hOg : ∀ d os, Cols (grow (redrawn W d) os) := fun d os => hO.keep (below_regrown W d os)
    refine wp_region_quiet_below (by kernel_rfl) (by kernel_rfl) ?_
    repeat
      first
        | go_big_quiet_skip
        | (go_big_quiet_want; go_big_quiet_op; go_big_quiet_on)
    refine wpQuiet_nil ?_
    rintro w41 ⟨p, rfl⟩
    have hb := below_regrown W p.d p.os
    generalize grow (redrawn W p.d) p.os = w41 at *
    replace B := B.trans (hb.mono B.size)
    replace hD := hD.keep hb; replace hO := hO.keep hb; replace hP := hP.keep hb; replace hQ := hQ.keep hb
    clear hb W ghQ ghP hDg hOg
    clear hD hO hQ hP
    go_wp2
    simp [bodyPost, results, Tryd.results12, go_sem]
    exact B

set_option maxRecDepth 100000 in
set_option maxHeartbeats 8000000 in
theorem ever_ok {x y r s v dg b c X Y q : Int} {o t : Bool} {A : List Int} (hl : A.length = 32) (C0 : Hid (∀ w, Mds w → Calls Tryd.prog 27 #[.agg #[.int .u64 (l0 x), .int .u64 (l1 x), .int .u64 (l2 x), .int .u64 (l3 x), .int .u64 (l0 y), .int .u64 (l1 y), .int .u64 (l2 y), .int .u64 (l3 y), .bool false]] w fun e w' => e = .returned (.bool true) ∧ Below w.heap.size w w')) (C1 : Hid (∀ w, Mds w → Calls Tryd.prog 6 #[.agg #[.int .u64 (l0 r), .int .u64 (l1 r), .int .u64 (l2 r), .int .u64 (l3 r), .int .u64 (l0 s), .int .u64 (l1 s), .int .u64 (l2 s), .int .u64 (l3 s), .bool o]] w fun e w' => e = .returned (.int .i64 0) ∧ Below w.heap.size w w')) (C2 : Hid (∀ w, Mds w → Calls Tryd.prog 17 #[.agg #[.int .u64 (l0 s), .int .u64 (l1 s), .int .u64 (l2 s), .int .u64 (l3 s)]] w fun e w' => e = .returned (.agg #[.int .u64 (l0 v), .int .u64 (l1 v), .int .u64 (l2 v), .int .u64 (l3 v)]) ∧ Below w.heap.size w w')) (CN : Hid (∀ w, Mds w → Calls Tryd.prog 20 #[.agg ((A.map fun z => Value.int .u8 z).toArray)] w fun e w' => e = .returned (.agg #[.int .u64 (l0 dg), .int .u64 (l1 dg), .int .u64 (l2 dg), .int .u64 (l3 dg)]) ∧ Below w.heap.size w w')) (C3 : Hid (∀ w, Mds w → Calls Tryd.prog 18 #[.agg #[.int .u64 (l0 dg), .int .u64 (l1 dg), .int .u64 (l2 dg), .int .u64 (l3 dg)], .agg #[.int .u64 (l0 v), .int .u64 (l1 v), .int .u64 (l2 v), .int .u64 (l3 v)]] w fun e w' => e = .returned (.agg #[.int .u64 (l0 b), .int .u64 (l1 b), .int .u64 (l2 b), .int .u64 (l3 b)]) ∧ Below w.heap.size w w')) (C4 : Hid (∀ w, Mds w → Calls Tryd.prog 18 #[.agg #[.int .u64 (l0 r), .int .u64 (l1 r), .int .u64 (l2 r), .int .u64 (l3 r)], .agg #[.int .u64 (l0 v), .int .u64 (l1 v), .int .u64 (l2 v), .int .u64 (l3 v)]] w fun e w' => e = .returned (.agg #[.int .u64 (l0 c), .int .u64 (l1 c), .int .u64 (l2 c), .int .u64 (l3 c)]) ∧ Below w.heap.size w w')) (CM : Hid (∀ w, Mds w → Cols w → Calls Tryd.prog 9 #[.agg #[.int .u64 (l0 b), .int .u64 (l1 b), .int .u64 (l2 b), .int .u64 (l3 b)], .agg #[.int .u64 (l0 c), .int .u64 (l1 c), .int .u64 (l2 c), .int .u64 (l3 c)], .agg #[.int .u64 (l0 x), .int .u64 (l1 x), .int .u64 (l2 x), .int .u64 (l3 x), .int .u64 (l0 y), .int .u64 (l1 y), .int .u64 (l2 y), .int .u64 (l3 y), .bool false]] w fun e w' => e = .returned (.tuple #[.agg #[.int .u64 (l0 X), .int .u64 (l1 X), .int .u64 (l2 X), .int .u64 (l3 X), .int .u64 (l0 Y), .int .u64 (l1 Y), .int .u64 (l2 Y), .int .u64 (l3 Y), .bool false], .int .i64 0]) ∧ Below w.heap.size w w')) (C5 : Hid (∀ w, Mds w → Calls Tryd.prog 32 #[.agg #[.int .u64 (l0 X), .int .u64 (l1 X), .int .u64 (l2 X), .int .u64 (l3 X)]] w fun e w' => e = .returned (.agg #[.int .u64 (l0 q), .int .u64 (l1 q), .int .u64 (l2 q), .int .u64 (l3 q)]) ∧ Below w.heap.size w w')) (E : ∀ w, (Op.equalIn 10000 26 (.agg #[.int .u64 (l0 q), .int .u64 (l1 q), .int .u64 (l2 q), .int .u64 (l3 q)]) (.agg #[.int .u64 (l0 r), .int .u64 (l1 r), .int .u64 (l2 r), .int .u64 (l3 r)])).run Tryd.prog w = .ok t w) (w : World) (hm : Mds w) (hc : Cols w) :
    Calls Tryd.prog 12 #[.agg #[.int .u64 (l0 x), .int .u64 (l1 x), .int .u64 (l2 x), .int .u64 (l3 x), .int .u64 (l0 y), .int .u64 (l1 y), .int .u64 (l2 y), .int .u64 (l3 y), .bool false], hashV A, .agg #[.int .u64 (l0 r), .int .u64 (l1 r), .int .u64 (l2 r), .int .u64 (l3 r), .int .u64 (l0 s), .int .u64 (l1 s), .int .u64 (l2 s), .int .u64 (l3 s), .bool o]] w fun e w' => e = .returned (.tuple #[.bool t, .int .i64 0]) ∧ Below w.heap.size w w' := by
  unfold hashV at *
  go_enter Tryd.func12, Tryd.ntmps12
  go_wp2_with fail
  refine calls_world (fun W => Below w.heap.size w W ∧ Mds W ∧ Cols W ∧ Pnt W w.heap.size x y false ∧ HAt W (w.heap.size + 1) A ∧ Pnt W (w.heap.size + 1 + 1) r s o) ⟨by repeat (first | with_reducible exact Below.refl _ _ | with_reducible refine Below.alloc ?_ (by first | omega | (simp; done) | (simp; omega)) _), ((hm.alloc _).alloc _).alloc _, ((Cols.alloc hc _).alloc _).alloc _, ((Pnt.new rfl).alloc _).alloc _, (HAt.new hl (by simp)).alloc _, Pnt.new (by simp)⟩ ?_
  rintro W ⟨B, hD, hO, hX, hY, hP⟩
  generalize w.heap.size + 1 + 1 = bp at *
  generalize w.heap.size + 1 = bd at *
  with_reducible refine (C0.out _ hD).mono ?_
  rintro e w1 ⟨rfl, hb⟩
  replace B := B.trans (hb.mono B.size)
  replace hD := hD.keep hb; replace hO := hO.keep hb; replace hX := hX.keep hb; replace hY := hY.keep hb; replace hP := hP.keep hb
  clear hb W
  have ghP := hP.cells
  go_wp2_with fail
  refine calls_world (fun W => Below w.heap.size w W ∧ Mds W ∧ Cols W ∧ Pnt W w.heap.size x y false ∧ HAt W bd A ∧ Pnt W bp r s o) ⟨B, hD, hO, hX, hY, hP⟩ ?_
  clear B hD hO hX hY hP ghP
  rintro W ⟨B, hD, hO, hX, hY, hP⟩
  with_reducible refine (C1.out _ hD).mono ?_
  rintro e w2 ⟨rfl, hb⟩
  replace B := B.trans (hb.mono B.size)
  replace hD := hD.keep hb; replace hO := hO.keep hb; replace hX := hX.keep hb; replace hY := hY.keep hb; replace hP := hP.keep hb
  clear hb W
  have ghP := hP.cells
  go_wp2_with fail
  refine calls_world (fun W => Below w.heap.size w W ∧ Mds W ∧ Cols W ∧ Pnt W w.heap.size x y false ∧ HAt W bd A ∧ Pnt W bp r s o) ⟨B, hD, hO, hX, hY, hP⟩ ?_
  clear B hD hO hX hY hP ghP
  rintro W ⟨B, hD, hO, hX, hY, hP⟩
  with_reducible refine (C2.out _ hD).mono ?_
  rintro e w3 ⟨rfl, hb⟩
  replace B := B.trans (hb.mono B.size)
  replace hD := hD.keep hb; replace hO := hO.keep hb; replace hX := hX.keep hb; replace hY := hY.keep hb; replace hP := hP.keep hb
  clear hb W
  go_wp2_with fail
  refine wp_world (fun W => Below w.heap.size w W ∧ Mds W ∧ Cols W ∧ Pnt W w.heap.size x y false ∧ HAt W bd A ∧ Pnt W bp r s o ∧ Nm W w3.heap.size v) ⟨B.alloc B.size _, hD.alloc _, hO.alloc _, hX.alloc _, hY.alloc _, hP.alloc _, Nm.new rfl⟩ ?_
  clear B hD hO hX hY hP 
  rintro W ⟨B, hD, hO, hX, hY, hP, hV1⟩
  generalize w3.heap.size = bv at *
  refine put_tail (A := ?AA1) 13 (fun V kk => put9 V kk X Y false) (by kernel_rfl) (by kernel_rfl) rfl rfl rfl (alloc_pt _ _ _) (fun V V0 h0 h1 => below_put9 (alloc_below h0 h1) h0.size) (fun V hV => ?HH1) (fun V V0 h0 h1 => ?EE1) (fun V0 V w1 h0 h1 h2 => ?TT1)
  case HH1 =>
    have hDg : ∀ d os, Mds (grow (redrawn V d) os) := fun d os => (hD.keep hV).keep (below_regrown V d os)
    have hOg : ∀ d os, Cols (grow (redrawn V d) os) := fun d os => (hO.keep hV).keep (below_regrown V d os)
    have ghX := (hX.keep hV).grown
    have ghP := (hP.keep hV).grown
    have ghV1 := (hV1.keep hV).grown
    have ldY : ∀ w', (∃ p : Regrown, w' = grow (redrawn V p.d) p.os) → w'.rangeAt bd 0 (A.map fun z => Value.int .u8 z) := by rintro w' ⟨p, rfl⟩; exact ((hY.keep hV).keep (below_regrown V p.d p.os)).2
    unfold Gr
    simp only [List.take_succ_cons, List.take_zero]
    repeat
      first
        | go_big_quiet_skip
        | (go_big_quiet_want; go_big_quiet_op; go_big_quiet_on)
        | (go_big_quiet_want; refine quiet_load_mid 23 _ rfl bd 0 rfl (A.map fun z => Value.int .u8 z) _ ldY Tryd.underlying23 rfl (by rw [List.length_map, hl]; kernel_rfl) ?_; simp only [Act.put, List.setIfInBounds_toArray, List.set_cons_succ, List.set_cons_zero]; go_big_quiet_on)
        | (go_big_quiet_want
           go_big_quiet_op
           apply Exists.intro
           refine ⟨fun p => ?_, ?_⟩
           · (first | (go_at_call 20; with_reducible exact Calls.regrown_of (CN.out _ (hDg p.d p.os))) | (go_at_call 18; with_reducible exact Calls.regrown_of (C3.out _ (hDg p.d p.os))) | (go_at_call 18; with_reducible exact Calls.regrown_of (C4.out _ (hDg p.d p.os))) | (go_at_call 9; with_reducible exact Calls.regrown_of (CM.out _ (hDg p.d p.os) (hOg p.d p.os))))
           go_big_quiet_on)
    refine wpQuiet_nil ?_
    exact rfl
  case EE1 =>
    obtain ⟨c0, c1, c2, c3, c4, c5, c6, c7, c8⟩ := ((Bk9.new rfl).keep h1).cells
    obtain ⟨f0, f1, f2, f3, f4, f5, f6, f7, f8⟩ := ((Bk9.new rfl).keep h1).free
    unfold put9
    simp [execOp, Act.put, Act.eval, go_sem, c0, c1, c2, c3, c4, c5, c6, c7, c8, f0, f1, f2, f3, f4, f5, f6, f7, f8]
  case TT1 =>
    have hN := (((Bk9.new rfl).keep h1).put9 X Y false).keep h2
    have hb := alloc_below h0 h1
    have nhD : V0.heap.size ≠ 0 := Nat.ne_of_gt (Nat.lt_of_lt_of_le hD.lt h0.size)
    have nhO : V0.heap.size ≠ 1 := Nat.ne_of_gt (Nat.lt_of_lt_of_le hO.lt h0.size)
    have nhX : V0.heap.size ≠ w.heap.size := Nat.ne_of_gt (Nat.lt_of_lt_of_le hX.lt h0.size)
    have nhY : V0.heap.size ≠ bd := Nat.ne_of_gt (Nat.lt_of_lt_of_le hY.lt h0.size)
    have nhP : V0.heap.size ≠ bp := Nat.ne_of_gt (Nat.lt_of_lt_of_le hP.lt h0.size)
    have nhV1 : V0.heap.size ≠ bv := Nat.ne_of_gt (Nat.lt_of_lt_of_le hV1.lt h0.size)
    have gn : w.heap.size ≤ V0.heap.size := Nat.le_trans B.size h0.size
    have B1 := below_put9 (x' := X) (y' := Y) (j := false) (B.trans (hb.mono B.size)) gn
    replace B := B1.trans (h2.mono B1.size)
    replace hD := ((hD.keep hb).put9 nhD).keep h2
    replace hO := ((hO.keep hb).put9 nhO).keep h2
    replace hX := ((hX.keep hb).put9 nhX).keep h2
    replace hY := ((hY.keep hb).put9 nhY).keep h2
    replace hP := ((hP.keep hb).put9 nhP).keep h2
    replace hV1 := ((hV1.keep hb).put9 nhV1).keep h2
    clear hb h0 h1 h2 B1 W gn nhD nhO nhX nhY nhP nhV1
    generalize V0.heap.size = bq at *
    clear V V0
    simp only [List.drop_succ_cons, List.drop_zero, Act.put, List.setIfInBounds_toArray, List.set_cons_zero, List.set_cons_succ]
    go_wp2_with fail
    refine wp_world (fun W => Below w.heap.size w W ∧ Mds W ∧ Cols W ∧ Pnt W w.heap.size x y false ∧ HAt W bd A ∧ Pnt W bp r s o ∧ Nm W bv v ∧ Pnt W bq X Y false) ⟨B, hD, hO, hX, hY, hP, hV1, hN⟩ ?_
    clear B hN hD hO hX hY hP hV1 
    rintro W ⟨B, hD, hO, hX, hY, hP, hV1, hQ⟩
    clear w1
    clear hX hY hV1
    have ghQ := hQ.grown
    have ghP := hP.grown
    have hDg : ∀ d os, Mds (grow (redrawn W d) os) := fun d os => hD.keep (below_regrown W d os)
    have hOg : ∀ d os, Cols (grow (redrawn W d) os) := fun d os => hO.keep (below_regrown W d os)
    refine wp_region_quiet_below (by kernel_rfl) (by kernel_rfl) ?_
    repeat
      first
        | go_big_quiet_skip
        | (go_big_quiet_want; go_big_quiet_op; go_big_quiet_on)
        | (go_big_quiet_want
           go_big_quiet_op
           apply Exists.intro
           refine ⟨fun p => ?_, ?_⟩
           · (first | (go_at_call 32; with_reducible exact Calls.regrown_of (C5.out _ (hDg p.d p.os))))
           go_big_quiet_on)
    refine wpQuiet_nil ?_
    rintro w41 ⟨p, rfl⟩
    have hb := below_regrown W p.d p.os
    generalize grow (redrawn W p.d) p.os = w41 at *
    replace B := B.trans (hb.mono B.size)
    replace hD := hD.keep hb; replace hO := hO.keep hb; replace hP := hP.keep hb; replace hQ := hQ.keep hb
    clear hb W ghQ ghP hDg hOg
    clear hD hO hQ hP
    go_wp2
    simp [bodyPost, results, Tryd.results12, go_sem]
    exact B
end Go.Proofs.YtjhongkmempepaaDoor

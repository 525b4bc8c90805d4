import Derived.Test.YtncpjgpioajbeaaGreatDoorESWA
import Derived.Test.YtncpjgpioajbeaaGreatDoorCLift
namespace Go.Proofs.YtncpjgpioajbeaaGreatDoor
open Go.RowKit Go.Sort

theorem Nm.new {W : World} {b : Nat} {t : TypeId} {n : Int} (e : b = W.heap.size) : Nm (W.alloc (.cells #[.int .u64 (l0 n), .int .u64 (l1 n), .int .u64 (l2 n), .int .u64 (l3 n)] t)) b n := Cl.new _ e rfl

set_option maxRecDepth 100000 in
set_option maxHeartbeats 8000000 in
theorem erec_check {r s e0 : Int} {o : Bool} {A : List Int} (hl : A.length = 32) (C0 : Hid (∀ w, Mds w → Calls Tryz.prog 23 #[.agg #[.int .u64 (l0 r), .int .u64 (l1 r), .int .u64 (l2 r), .int .u64 (l3 r), .int .u64 (l0 s), .int .u64 (l1 s), .int .u64 (l2 s), .int .u64 (l3 s), .bool o]] w fun e w' => e = .returned (.int .i64 e0) ∧ Below w.heap.size w w')) (he : e0 ≠ 0) (w : World) (hm : Mds w) (hc : Cols w) :
    Calls Tryz.prog 9 #[hashV A, .agg #[.int .u64 (l0 r), .int .u64 (l1 r), .int .u64 (l2 r), .int .u64 (l3 r), .int .u64 (l0 s), .int .u64 (l1 s), .int .u64 (l2 s), .int .u64 (l3 s), .bool o]] w fun e w' => e = .returned (.tuple #[.agg #[.int .u64 (l0 0), .int .u64 (l1 0), .int .u64 (l2 0), .int .u64 (l3 0), .int .u64 (l0 0), .int .u64 (l1 0), .int .u64 (l2 0), .int .u64 (l3 0), .bool false], .int .i64 e0]) ∧ Below w.heap.size w w' := by
  obtain ⟨z0, z1, z2, z3⟩ := zero_limbs
  rw [z0, z1, z2, z3]
  clear z0 z1 z2 z3
  unfold hashV at *
  go_enter Tryz.func9, Tryz.ntmps9
  go_wp2_with fail
  refine calls_world (fun W => Below w.heap.size w W ∧ Mds W ∧ Cols W ∧ HAt W w.heap.size A ∧ Pnt W (w.heap.size + 1) r s o ∧ Bk9 W (w.heap.size + 1 + 1)) ⟨by repeat (first | with_reducible exact Below.refl _ _ | with_reducible refine Below.alloc ?_ (by first | omega | (simp; done) | (simp; omega)) _), ((hm.alloc _).alloc _).alloc _, ((Cols.alloc hc _).alloc _).alloc _, ((HAt.new hl rfl).alloc _).alloc _, (Pnt.new (by simp)).alloc _, Bk9.new (by simp)⟩ ?_
  rintro W ⟨B, hD, hO, hY, hP, hR⟩
  have o3 : w.heap.size ≤ w.heap.size + 1 + 1 := by omega
  generalize w.heap.size + 1 + 1 = br at *
  generalize w.heap.size + 1 = bp at *
  with_reducible refine (C0.out _ hD).mono ?_
  rintro e w9 ⟨rfl, hb⟩
  replace B := B.trans (hb.mono B.size)
  replace hD := hD.keep hb; replace hO := hO.keep hb; replace hY := hY.keep hb; replace hP := hP.keep hb; replace hR := hR.keep hb
  clear hb W hD hO hY hP
  have gR := hR.cells; have fR := hR.free
  go_wp2
  simp [bodyPost, results, Tryz.results9, go_sem, gR]
  repeat (first | with_reducible exact B | with_reducible refine Below.setCell ?_ o3 _)

set_option maxRecDepth 100000 in
set_option maxHeartbeats 8000000 in
theorem erec_none {r s lx ly v dg a b c X Y : Int} {o li : Bool} {A : List Int} (hl : A.length = 32) (C0 : Hid (∀ w, Mds w → Calls Tryz.prog 23 #[.agg #[.int .u64 (l0 r), .int .u64 (l1 r), .int .u64 (l2 r), .int .u64 (l3 r), .int .u64 (l0 s), .int .u64 (l1 s), .int .u64 (l2 s), .int .u64 (l3 s), .bool o]] w fun e w' => e = .returned (.int .i64 0) ∧ Below w.heap.size w w')) (C1 : Hid (∀ w, Mds w → Calls Tryz.prog 24 #[.agg #[.int .u64 (l0 r), .int .u64 (l1 r), .int .u64 (l2 r), .int .u64 (l3 r)], .bool o] w fun e w' => e = .returned (.tuple #[.agg #[.int .u64 (l0 lx), .int .u64 (l1 lx), .int .u64 (l2 lx), .int .u64 (l3 lx), .int .u64 (l0 ly), .int .u64 (l1 ly), .int .u64 (l2 ly), .int .u64 (l3 ly), .bool li], .int .i64 0]) ∧ Below w.heap.size w w')) (C2 : Hid (∀ w, Mds w → Calls Tryz.prog 25 #[.agg #[.int .u64 (l0 r), .int .u64 (l1 r), .int .u64 (l2 r), .int .u64 (l3 r)]] w fun e w' => e = .returned (.agg #[.int .u64 (l0 v), .int .u64 (l1 v), .int .u64 (l2 v), .int .u64 (l3 v)]) ∧ Below w.heap.size w w')) (CN : Hid (∀ w, Mds w → Calls Tryz.prog 20 #[.agg ((A.map fun z => Value.int .u8 z).toArray)] w fun e w' => e = .returned (.agg #[.int .u64 (l0 dg), .int .u64 (l1 dg), .int .u64 (l2 dg), .int .u64 (l3 dg)]) ∧ Below w.heap.size w w')) (CO : Hid (∀ w, Mds w → Calls Tryz.prog 28 #[.agg #[.int .u64 (l0 dg), .int .u64 (l1 dg), .int .u64 (l2 dg), .int .u64 (l3 dg)]] w fun e w' => e = .returned (.agg #[.int .u64 (l0 a), .int .u64 (l1 a), .int .u64 (l2 a), .int .u64 (l3 a)]) ∧ Below w.heap.size w w')) (C3 : Hid (∀ w, Mds w → Calls Tryz.prog 27 #[.agg #[.int .u64 (l0 a), .int .u64 (l1 a), .int .u64 (l2 a), .int .u64 (l3 a)], .agg #[.int .u64 (l0 v), .int .u64 (l1 v), .int .u64 (l2 v), .int .u64 (l3 v)]] w fun e w' => e = .returned (.agg #[.int .u64 (l0 b), .int .u64 (l1 b), .int .u64 (l2 b), .int .u64 (l3 b)]) ∧ Below w.heap.size w w')) (C4 : Hid (∀ w, Mds w → Calls Tryz.prog 27 #[.agg #[.int .u64 (l0 s), .int .u64 (l1 s), .int .u64 (l2 s), .int .u64 (l3 s)], .agg #[.int .u64 (l0 v), .int .u64 (l1 v), .int .u64 (l2 v), .int .u64 (l3 v)]] w fun e w' => e = .returned (.agg #[.int .u64 (l0 c), .int .u64 (l1 c), .int .u64 (l2 c), .int .u64 (l3 c)]) ∧ Below w.heap.size w w')) (CM : Hid (∀ w, Mds w → Cols w → Calls Tryz.prog 26 #[.agg #[.int .u64 (l0 b), .int .u64 (l1 b), .int .u64 (l2 b), .int .u64 (l3 b)], .agg #[.int .u64 (l0 c), .int .u64 (l1 c), .int .u64 (l2 c), .int .u64 (l3 c)], .agg #[.int .u64 (l0 lx), .int .u64 (l1 lx), .int .u64 (l2 lx), .int .u64 (l3 lx), .int .u64 (l0 ly), .int .u64 (l1 ly), .int .u64 (l2 ly), .int .u64 (l3 ly), .bool li]] w fun e w' => e = .returned (.tuple #[.agg #[.int .u64 (l0 X), .int .u64 (l1 X), .int .u64 (l2 X), .int .u64 (l3 X), .int .u64 (l0 Y), .int .u64 (l1 Y), .int .u64 (l2 Y), .int .u64 (l3 Y), .bool true], .int .i64 0]) ∧ Below w.heap.size w w')) (w : World) (hm : Mds w) (hc : Cols w) :
    Calls Tryz.prog 9 #[hashV A, .agg #[.int .u64 (l0 r), .int .u64 (l1 r), .int .u64 (l2 r), .int .u64 (l3 r), .int .u64 (l0 s), .int .u64 (l1 s), .int .u64 (l2 s), .int .u64 (l3 s), .bool o]] w fun e w' => e = .returned (.tuple #[.agg #[.int .u64 (l0 0), .int .u64 (l1 0), .int .u64 (l2 0), .int .u64 (l3 0), .int .u64 (l0 0), .int .u64 (l1 0), .int .u64 (l2 0), .int .u64 (l3 0), .bool false], .int .i64 65]) ∧ Below w.heap.size w w' := by
  obtain ⟨z0, z1, z2, z3⟩ := zero_limbs
  rw [z0, z1, z2, z3]
  clear z0 z1 z2 z3
  unfold hashV at *
  go_enter Tryz.func9, Tryz.ntmps9
  go_wp2_with fail
  refine calls_world (fun W => Below w.heap.size w W ∧ Mds W ∧ Cols W ∧ HAt W w.heap.size A ∧ Pnt W (w.heap.size + 1) r s o ∧ Bk9 W (w.heap.size + 1 + 1)) ⟨by repeat (first | with_reducible exact Below.refl _ _ | with_reducible refine Below.alloc ?_ (by first | omega | (simp; done) | (simp; omega)) _), ((hm.alloc _).alloc _).alloc _, ((Cols.alloc hc _).alloc _).alloc _, ((HAt.new hl rfl).alloc _).alloc _, (Pnt.new (by simp)).alloc _, Bk9.new (by simp)⟩ ?_
  rintro W ⟨B, hD, hO, hY, hP, hR⟩
  have o3 : w.heap.size ≤ w.heap.size + 1 + 1 := by omega
  generalize w.heap.size + 1 + 1 = br at *
  generalize w.heap.size + 1 = bp at *
  with_reducible refine (C0.out _ hD).mono ?_
  rintro e w1 ⟨rfl, hb⟩
  replace B := B.trans (hb.mono B.size)
  replace hD := hD.keep hb; replace hO := hO.keep hb; replace hY := hY.keep hb; replace hP := hP.keep hb; replace hR := hR.keep hb
  clear hb W
  have ghP := hP.cells
  go_wp2_with fail
  refine calls_world (fun W => Below w.heap.size w W ∧ Mds W ∧ Cols W ∧ HAt W w.heap.size A ∧ Pnt W bp r s o ∧ Bk9 W br) ⟨B, hD, hO, hY, hP, hR⟩ ?_
  clear B hD hO hY hP hR ghP
  rintro W ⟨B, hD, hO, hY, hP, hR⟩
  with_reducible refine (C1.out _ hD).mono ?_
  rintro e w2 ⟨rfl, hb⟩
  replace B := B.trans (hb.mono B.size)
  replace hD := hD.keep hb; replace hO := hO.keep hb; replace hY := hY.keep hb; replace hP := hP.keep hb; replace hR := hR.keep hb
  clear hb W
  have ghP := fun o => (hP.alloc o).cells
  go_wp2_with fail
  refine calls_world (fun W => Below w.heap.size w W ∧ Mds W ∧ Cols W ∧ HAt W w.heap.size A ∧ Pnt W bp r s o ∧ Bk9 W br ∧ Pnt W w2.heap.size lx ly li) ⟨B.alloc B.size _, hD.alloc _, hO.alloc _, hY.alloc _, hP.alloc _, hR.alloc _, Pnt.new rfl⟩ ?_
  clear B hD hO hY hP hR ghP
  rintro W ⟨B, hD, hO, hY, hP, hR, hA⟩
  generalize w2.heap.size = ba at *
  with_reducible refine (C2.out _ hD).mono ?_
  rintro e w3 ⟨rfl, hb⟩
  replace B := B.trans (hb.mono B.size)
  replace hD := hD.keep hb; replace hO := hO.keep hb; replace hY := hY.keep hb; replace hP := hP.keep hb; replace hR := hR.keep hb; replace hA := hA.keep hb
  clear hb W
  go_wp2_with fail
  refine wp_world (fun W => Below w.heap.size w W ∧ Mds W ∧ Cols W ∧ HAt W w.heap.size A ∧ Pnt W bp r s o ∧ Bk9 W br ∧ Pnt W ba lx ly li ∧ Nm W w3.heap.size v) ⟨B.alloc B.size _, hD.alloc _, hO.alloc _, hY.alloc _, hP.alloc _, hR.alloc _, hA.alloc _, Nm.new rfl⟩ ?_
  clear B hD hO hY hP hR hA 
  rintro W ⟨B, hD, hO, hY, hP, hR, hA, hV1⟩
  generalize w3.heap.size = bv at *
  refine put_tail (A := ?AA1) 14 (fun V kk => put9 V kk X Y true) (by kernel_rfl) (by kernel_rfl) rfl rfl rfl (alloc_pt _ _ _) (fun V V0 h0 h1 => below_put9 (alloc_below h0 h1) h0.size) (fun V hV => ?HH1) (fun V V0 h0 h1 => ?EE1) (fun V0 V w1 h0 h1 h2 => ?TT1)
  case HH1 =>
    have hDg : ∀ d os, Mds (grow (redrawn V d) os) := fun d os => (hD.keep hV).keep (below_regrown V d os)
    have hOg : ∀ d os, Cols (grow (redrawn V d) os) := fun d os => (hO.keep hV).keep (below_regrown V d os)
    have ghP := (hP.keep hV).grown
    have ghA := (hA.keep hV).grown
    have ghV1 := (hV1.keep hV).grown
    have ldY : ∀ w', (∃ p : Regrown, w' = grow (redrawn V p.d) p.os) → w'.rangeAt w.heap.size 0 (A.map fun z => Value.int .u8 z) := by rintro w' ⟨p, rfl⟩; exact ((hY.keep hV).keep (below_regrown V p.d p.os)).2
    unfold Gr
    simp only [List.take_succ_cons, List.take_zero]
    repeat
      first
        | go_big_quiet_skip
        | (go_big_quiet_want; go_big_quiet_op; go_big_quiet_on)
        | (go_big_quiet_want; refine quiet_load_mid 26 _ rfl w.heap.size 0 rfl (A.map fun z => Value.int .u8 z) _ ldY Tryz.underlying26 rfl (by rw [List.length_map, hl]; kernel_rfl) ?_; simp only [Act.put, List.setIfInBounds_toArray, List.set_cons_succ, List.set_cons_zero]; go_big_quiet_on)
        | (go_big_quiet_want
           go_big_quiet_op
           apply Exists.intro
           refine ⟨fun p => ?_, ?_⟩
           · (first | (go_at_call 20; with_reducible exact Calls.regrown_of (CN.out _ (hDg p.d p.os))) | (go_at_call 28; with_reducible exact Calls.regrown_of (CO.out _ (hDg p.d p.os))) | (go_at_call 27; with_reducible exact Calls.regrown_of (C3.out _ (hDg p.d p.os))) | (go_at_call 27; with_reducible exact Calls.regrown_of (C4.out _ (hDg p.d p.os))) | (go_at_call 26; with_reducible exact Calls.regrown_of (CM.out _ (hDg p.d p.os) (hOg p.d p.os))))
           go_big_quiet_on)
    refine wpQuiet_nil ?_
    exact rfl
  case EE1 =>
    obtain ⟨c0, c1, c2, c3, c4, c5, c6, c7, c8⟩ := ((Bk9.new rfl).keep h1).cells
    obtain ⟨f0, f1, f2, f3, f4, f5, f6, f7, f8⟩ := ((Bk9.new rfl).keep h1).free
    unfold put9
    simp [execOp, Act.put, Act.eval, go_sem, c0, c1, c2, c3, c4, c5, c6, c7, c8, f0, f1, f2, f3, f4, f5, f6, f7, f8]
  case TT1 =>
    have hN := (((Bk9.new rfl).keep h1).put9 X Y true).keep h2
    have hb := alloc_below h0 h1
    have nhD : V0.heap.size ≠ 1 := Nat.ne_of_gt (Nat.lt_of_lt_of_le hD.lt h0.size)
    have nhO : V0.heap.size ≠ 0 := Nat.ne_of_gt (Nat.lt_of_lt_of_le hO.lt h0.size)
    have nhY : V0.heap.size ≠ w.heap.size := Nat.ne_of_gt (Nat.lt_of_lt_of_le hY.lt h0.size)
    have nhP : V0.heap.size ≠ bp := Nat.ne_of_gt (Nat.lt_of_lt_of_le hP.lt h0.size)
    have nhR : V0.heap.size ≠ br := Nat.ne_of_gt (Nat.lt_of_lt_of_le hR.lt h0.size)
    have nhA : V0.heap.size ≠ ba := Nat.ne_of_gt (Nat.lt_of_lt_of_le hA.lt h0.size)
    have nhV1 : V0.heap.size ≠ bv := Nat.ne_of_gt (Nat.lt_of_lt_of_le hV1.lt h0.size)
    have gn : w.heap.size ≤ V0.heap.size := Nat.le_trans B.size h0.size
    have B1 := below_put9 (x' := X) (y' := Y) (j := true) (B.trans (hb.mono B.size)) gn
    replace B := B1.trans (h2.mono B1.size)
    replace hD := ((hD.keep hb).put9 nhD).keep h2
    replace hO := ((hO.keep hb).put9 nhO).keep h2
    replace hY := ((hY.keep hb).put9 nhY).keep h2
    replace hP := ((hP.keep hb).put9 nhP).keep h2
    replace hR := ((hR.keep hb).put9b nhR).keep h2
    replace hA := ((hA.keep hb).put9 nhA).keep h2
    replace hV1 := ((hV1.keep hb).put9 nhV1).keep h2
    clear hb h0 h1 h2 B1 W gn nhD nhO nhY nhP nhR nhA nhV1
    generalize V0.heap.size = bq at *
    clear V V0
    have gN := hN.cells
    simp only [List.drop_succ_cons, List.drop_zero, Act.put, List.setIfInBounds_toArray, List.set_cons_zero, List.set_cons_succ]
    have gR := hR.cells; have fR := hR.free
    go_wp2
    simp [bodyPost, results, Tryz.results9, go_sem, gR]
    repeat (first | with_reducible exact B | with_reducible refine Below.setCell ?_ o3 _)

set_option maxRecDepth 100000 in
set_option maxHeartbeats 8000000 in
theorem erec_ok {r s lx ly v dg a b c X Y : Int} {o li : Bool} {A : List Int} (hl : A.length = 32) (C0 : Hid (∀ w, Mds w → Calls Tryz.prog 23 #[.agg #[.int .u64 (l0 r), .int .u64 (l1 r), .int .u64 (l2 r), .int .u64 (l3 r), .int .u64 (l0 s), .int .u64 (l1 s), .int .u64 (l2 s), .int .u64 (l3 s), .bool o]] w fun e w' => e = .returned (.int .i64 0) ∧ Below w.heap.size w w')) (C1 : Hid (∀ w, Mds w → Calls Tryz.prog 24 #[.agg #[.int .u64 (l0 r), .int .u64 (l1 r), .int .u64 (l2 r), .int .u64 (l3 r)], .bool o] w fun e w' => e = .returned (.tuple #[.agg #[.int .u64 (l0 lx), .int .u64 (l1 lx), .int .u64 (l2 lx), .int .u64 (l3 lx), .int .u64 (l0 ly), .int .u64 (l1 ly), .int .u64 (l2 ly), .int .u64 (l3 ly), .bool li], .int .i64 0]) ∧ Below w.heap.size w w')) (C2 : Hid (∀ w, Mds w → Calls Tryz.prog 25 #[.agg #[.int .u64 (l0 r), .int .u64 (l1 r), .int .u64 (l2 r), .int .u64 (l3 r)]] w fun e w' => e = .returned (.agg #[.int .u64 (l0 v), .int .u64 (l1 v), .int .u64 (l2 v), .int .u64 (l3 v)]) ∧ Below w.heap.size w w')) (CN : Hid (∀ w, Mds w → Calls Tryz.prog 20 #[.agg ((A.map fun z => Value.int .u8 z).toArray)] w fun e w' => e = .returned (.agg #[.int .u64 (l0 dg), .int .u64 (l1 dg), .int .u64 (l2 dg), .int .u64 (l3 dg)]) ∧ Below w.heap.size w w')) (CO : Hid (∀ w, Mds w → Calls Tryz.prog 28 #[.agg #[.int .u64 (l0 dg), .int .u64 (l1 dg), .int .u64 (l2 dg), .int .u64 (l3 dg)]] w fun e w' => e = .returned (.agg #[.int .u64 (l0 a), .int .u64 (l1 a), .int .u64 (l2 a), .int .u64 (l3 a)]) ∧ Below w.heap.size w w')) (C3 : Hid (∀ w, Mds w → Calls Tryz.prog 27 #[.agg #[.int .u64 (l0 a), .int .u64 (l1 a), .int .u64 (l2 a), .int .u64 (l3 a)], .agg #[.int .u64 (l0 v), .int .u64 (l1 v), .int .u64 (l2 v), .int .u64 (l3 v)]] w fun e w' => e = .returned (.agg #[.int .u64 (l0 b), .int .u64 (l1 b), .int .u64 (l2 b), .int .u64 (l3 b)]) ∧ Below w.heap.size w w')) (C4 : Hid (∀ w, Mds w → Calls Tryz.prog 27 #[.agg #[.int .u64 (l0 s), .int .u64 (l1 s), .int .u64 (l2 s), .int .u64 (l3 s)], .agg #[.int .u64 (l0 v), .int .u64 (l1 v), .int .u64 (l2 v), .int .u64 (l3 v)]] w fun e w' => e = .returned (.agg #[.int .u64 (l0 c), .int .u64 (l1 c), .int .u64 (l2 c), .int .u64 (l3 c)]) ∧ Below w.heap.size w w')) (CM : Hid (∀ w, Mds w → Cols w → Calls Tryz.prog 26 #[.agg #[.int .u64 (l0 b), .int .u64 (l1 b), .int .u64 (l2 b), .int .u64 (l3 b)], .agg #[.int .u64 (l0 c), .int .u64 (l1 c), .int .u64 (l2 c), .int .u64 (l3 c)], .agg #[.int .u64 (l0 lx), .int .u64 (l1 lx), .int .u64 (l2 lx), .int .u64 (l3 lx), .int .u64 (l0 ly), .int .u64 (l1 ly), .int .u64 (l2 ly), .int .u64 (l3 ly), .bool li]] w fun e w' => e = .returned (.tuple #[.agg #[.int .u64 (l0 X), .int .u64 (l1 X), .int .u64 (l2 X), .int .u64 (l3 X), .int .u64 (l0 Y), .int .u64 (l1 Y), .int .u64 (l2 Y), .int .u64 (l3 Y), .bool false], .int .i64 0]) ∧ Below w.heap.size w w')) (w : World) (hm : Mds w) (hc : Cols w) :
    Calls Tryz.prog 9 #[hashV A, .agg #[.int .u64 (l0 r), .int .u64 (l1 r), .int .u64 (l2 r), .int .u64 (l3 r), .int .u64 (l0 s), .int .u64 (l1 s), .int .u64 (l2 s), .int .u64 (l3 s), .bool o]] w fun e w' => e = .returned (.tuple #[.agg #[.int .u64 (l0 X), .int .u64 (l1 X), .int .u64 (l2 X), .int .u64 (l3 X), .int .u64 (l0 Y), .int .u64 (l1 Y), .int .u64 (l2 Y), .int .u64 (l3 Y), .bool false], .int .i64 0]) ∧ Below w.heap.size w w' := by
  unfold hashV at *
  go_enter Tryz.func9, Tryz.ntmps9
  go_wp2_with fail
  refine calls_world (fun W => Below w.heap.size w W ∧ Mds W ∧ Cols W ∧ HAt W w.heap.size A ∧ Pnt W (w.heap.size + 1) r s o ∧ Bk9 W (w.heap.size + 1 + 1)) ⟨by repeat (first | with_reducible exact Below.refl _ _ | with_reducible refine Below.alloc ?_ (by first | omega | (simp; done) | (simp; omega)) _), ((hm.alloc _).alloc _).alloc _, ((Cols.alloc hc _).alloc _).alloc _, ((HAt.new hl rfl).alloc _).alloc _, (Pnt.new (by simp)).alloc _, Bk9.new (by simp)⟩ ?_
  rintro W ⟨B, hD, hO, hY, hP, hR⟩
  have o3 : w.heap.size ≤ w.heap.size + 1 + 1 := by omega
  generalize w.heap.size + 1 + 1 = br at *
  generalize w.heap.size + 1 = bp at *
  with_reducible refine (C0.out _ hD).mono ?_
  rintro e w1 ⟨rfl, hb⟩
  replace B := B.trans (hb.mono B.size)
  replace hD := hD.keep hb; replace hO := hO.keep hb; replace hY := hY.keep hb; replace hP := hP.keep hb; replace hR := hR.keep hb
  clear hb W
  have ghP := hP.cells
  go_wp2_with fail
  refine calls_world (fun W => Below w.heap.size w W ∧ Mds W ∧ Cols W ∧ HAt W w.heap.size A ∧ Pnt W bp r s o ∧ Bk9 W br) ⟨B, hD, hO, hY, hP, hR⟩ ?_
  clear B hD hO hY hP hR ghP
  rintro W ⟨B, hD, hO, hY, hP, hR⟩
  with_reducible refine (C1.out _ hD).mono ?_
  rintro e w2 ⟨rfl, hb⟩
  replace B := B.trans (hb.mono B.size)
  replace hD := hD.keep hb; replace hO := hO.keep hb; replace hY := hY.keep hb; replace hP := hP.keep hb; replace hR := hR.keep hb
  clear hb W
  have ghP := fun o => (hP.alloc o).cells
  go_wp2_with fail
  refine calls_world (fun W => Below w.heap.size w W ∧ Mds W ∧ Cols W ∧ HAt W w.heap.size A ∧ Pnt W bp r s o ∧ Bk9 W br ∧ Pnt W w2.heap.size lx ly li) ⟨B.alloc B.size _, hD.alloc _, hO.alloc _, hY.alloc _, hP.alloc _, hR.alloc _, Pnt.new rfl⟩ ?_
  clear B hD hO hY hP hR ghP
  rintro W ⟨B, hD, hO, hY, hP, hR, hA⟩
  generalize w2.heap.size = ba at *
  with_reducible refine (C2.out _ hD).mono ?_
  rintro e w3 ⟨rfl, hb⟩
  replace B := B.trans (hb.mono B.size)
  replace hD := hD.keep hb; replace hO := hO.keep hb; replace hY := hY.keep hb; replace hP := hP.keep hb; replace hR := hR.keep hb; replace hA := hA.keep hb
  clear hb W
  go_wp2_with fail
  refine wp_world (fun W => Below w.heap.size w W ∧ Mds W ∧ Cols W ∧ HAt W w.heap.size A ∧ Pnt W bp r s o ∧ Bk9 W br ∧ Pnt W ba lx ly li ∧ Nm W w3.heap.size v) ⟨B.alloc B.size _, hD.alloc _, hO.alloc _, hY.alloc _, hP.alloc _, hR.alloc _, hA.alloc _, Nm.new rfl⟩ ?_
  clear B hD hO hY hP hR hA 
  rintro W ⟨B, hD, hO, hY, hP, hR, hA, hV1⟩
  generalize w3.heap.size = bv at *
  refine put_tail (A := ?AA1) 14 (fun V kk => put9 V kk X Y false) (by kernel_rfl) (by kernel_rfl) rfl rfl rfl (alloc_pt _ _ _) (fun V V0 h0 h1 => below_put9 (alloc_below h0 h1) h0.size) (fun V hV => ?HH1) (fun V V0 h0 h1 => ?EE1) (fun V0 V w1 h0 h1 h2 => ?TT1)
  case HH1 =>
    have hDg : ∀ d os, Mds (grow (redrawn V d) os) := fun d os => (hD.keep hV).keep (below_regrown V d os)
    have hOg : ∀ d os, Cols (grow (redrawn V d) os) := fun d os => (hO.keep hV).keep (below_regrown V d os)
    have ghP := (hP.keep hV).grown
    have ghA := (hA.keep hV).grown
    have ghV1 := (hV1.keep hV).grown
    have ldY : ∀ w', (∃ p : Regrown, w' = grow (redrawn V p.d) p.os) → w'.rangeAt w.heap.size 0 (A.map fun z => Value.int .u8 z) := by rintro w' ⟨p, rfl⟩; exact ((hY.keep hV).keep (below_regrown V p.d p.os)).2
    unfold Gr
    simp only [List.take_succ_cons, List.take_zero]
    repeat
      first
        | go_big_quiet_skip
        | (go_big_quiet_want; go_big_quiet_op; go_big_quiet_on)
        | (go_big_quiet_want; refine quiet_load_mid 26 _ rfl w.heap.size 0 rfl (A.map fun z => Value.int .u8 z) _ ldY Tryz.underlying26 rfl (by rw [List.length_map, hl]; kernel_rfl) ?_; simp only [Act.put, List.setIfInBounds_toArray, List.set_cons_succ, List.set_cons_zero]; go_big_quiet_on)
        | (go_big_quiet_want
           go_big_quiet_op
           apply Exists.intro
           refine ⟨fun p => ?_, ?_⟩
           · (first | (go_at_call 20; with_reducible exact Calls.regrown_of (CN.out _ (hDg p.d p.os))) | (go_at_call 28; with_reducible exact Calls.regrown_of (CO.out _ (hDg p.d p.os))) | (go_at_call 27; with_reducible exact Calls.regrown_of (C3.out _ (hDg p.d p.os))) | (go_at_call 27; with_reducible exact Calls.regrown_of (C4.out _ (hDg p.d p.os))) | (go_at_call 26; with_reducible exact Calls.regrown_of (CM.out _ (hDg p.d p.os) (hOg p.d p.os))))
           go_big_quiet_on)
    refine wpQuiet_nil ?_
    exact rfl
  case EE1 =>
    obtain ⟨c0, c1, c2, c3, c4, c5, c6, c7, c8⟩ := ((Bk9.new rfl).keep h1).cells
    obtain ⟨f0, f1, f2, f3, f4, f5, f6, f7, f8⟩ := ((Bk9.new rfl).keep h1).free
    unfold put9
    simp [execOp, Act.put, Act.eval, go_sem, c0, c1, c2, c3, c4, c5, c6, c7, c8, f0, f1, f2, f3, f4, f5, f6, f7, f8]
  case TT1 =>
    have hN := (((Bk9.new rfl).keep h1).put9 X Y false).keep h2
    have hb := alloc_below h0 h1
    have nhD : V0.heap.size ≠ 1 := Nat.ne_of_gt (Nat.lt_of_lt_of_le hD.lt h0.size)
    have nhO : V0.heap.size ≠ 0 := Nat.ne_of_gt (Nat.lt_of_lt_of_le hO.lt h0.size)
    have nhY : V0.heap.size ≠ w.heap.size := Nat.ne_of_gt (Nat.lt_of_lt_of_le hY.lt h0.size)
    have nhP : V0.heap.size ≠ bp := Nat.ne_of_gt (Nat.lt_of_lt_of_le hP.lt h0.size)
    have nhR : V0.heap.size ≠ br := Nat.ne_of_gt (Nat.lt_of_lt_of_le hR.lt h0.size)
    have nhA : V0.heap.size ≠ ba := Nat.ne_of_gt (Nat.lt_of_lt_of_le hA.lt h0.size)
    have nhV1 : V0.heap.size ≠ bv := Nat.ne_of_gt (Nat.lt_of_lt_of_le hV1.lt h0.size)
    have gn : w.heap.size ≤ V0.heap.size := Nat.le_trans B.size h0.size
    have B1 := below_put9 (x' := X) (y' := Y) (j := false) (B.trans (hb.mono B.size)) gn
    replace B := B1.trans (h2.mono B1.size)
    replace hD := ((hD.keep hb).put9 nhD).keep h2
    replace hO := ((hO.keep hb).put9 nhO).keep h2
    replace hY := ((hY.keep hb).put9 nhY).keep h2
    replace hP := ((hP.keep hb).put9 nhP).keep h2
    replace hR := ((hR.keep hb).put9b nhR).keep h2
    replace hA := ((hA.keep hb).put9 nhA).keep h2
    replace hV1 := ((hV1.keep hb).put9 nhV1).keep h2
    clear hb h0 h1 h2 B1 W gn nhD nhO nhY nhP nhR nhA nhV1
    generalize V0.heap.size = bq at *
    clear V V0
    have gN := hN.cells
    simp only [List.drop_succ_cons, List.drop_zero, Act.put, List.setIfInBounds_toArray, List.set_cons_zero, List.set_cons_succ]
    have gR := hR.cells; have fR := hR.free
    go_wp2
    simp [bodyPost, results, Tryz.results9, go_sem, gR]
    repeat (first | with_reducible exact B | with_reducible refine Below.setCell ?_ o3 _)
end Go.Proofs.YtncpjgpioajbeaaGreatDoor

import Derived.Test.YtbcjikoajjhfaaaDoorEText
namespace Go.Proofs.YtbcjikoajjhfaaaDoor
open Go.RowKit Go.Sort

set_option maxRecDepth 100000 in
set_option maxHeartbeats 16000000 in
theorem etn_a0 {key non r s : Int} {o : Bool} {A : List Int} (hl : A.length = 32) (SW : Hid (∀ w, Mds w → Cols w → Calls Tryd.prog 21 #[.agg #[.int .u64 (l0 key), .int .u64 (l1 key), .int .u64 (l2 key), .int .u64 (l3 key)], .agg #[.int .u64 (l0 non), .int .u64 (l1 non), .int .u64 (l2 non), .int .u64 (l3 non)], .agg ((A.map fun z => Value.int .u8 z).toArray)] w fun e w' => e = .returned (.tuple #[.agg #[.int .u64 (l0 r), .int .u64 (l1 r), .int .u64 (l2 r), .int .u64 (l3 r), .int .u64 (l0 s), .int .u64 (l1 s), .int .u64 (l2 s), .int .u64 (l3 s), .bool o], .int .i64 60]) ∧ Below w.heap.size w w')) (F1 : Hid (∀ w, Mds w → Calls Tryd.prog 22 #[.agg #[.int .u64 (l0 key), .int .u64 (l1 key), .int .u64 (l2 key), .int .u64 (l3 key)]] w fun e w' => e = .returned (.bool false) ∧ Below w.heap.size w w')) (w : World) (hm : Mds w) (hc : Cols w) :
    Calls Tryd.prog 6 #[.agg #[.int .u64 (l0 key), .int .u64 (l1 key), .int .u64 (l2 key), .int .u64 (l3 key)], .agg #[.int .u64 (l0 non), .int .u64 (l1 non), .int .u64 (l2 non), .int .u64 (l3 non)], hashV A] w fun e w' => e = .returned (.bool true) ∧ Below w.heap.size w w' := by
  unfold hashV at *
  have ra : (((w.alloc (.cells #[.int .u64 (l0 key), .int .u64 (l1 key), .int .u64 (l2 key), .int .u64 (l3 key)] 25)).alloc (.cells #[.int .u64 (l0 non), .int .u64 (l1 non), .int .u64 (l2 non), .int .u64 (l3 non)] 25)).alloc (.cells ((A.map fun z => Value.int .u8 z).toArray) 48)).rangeAt (w.heap.size + 1 + 1) 0 (A.map fun z => Value.int .u8 z) := (HAt.new hl (by simp)).2
  go_enter Tryd.func6, Tryd.ntmps6
  go_wp2_with (refine wpList_load_mid rfl 48 _ rfl (w.heap.size + 1 + 1) 0 rfl (A.map fun z => Value.int .u8 z) _ ra Tryd.underlying48 rfl (by rw [List.length_map, hl]; kernel_rfl) ?_)
  refine calls_world (fun W => Below w.heap.size w W ∧ Mds W ∧ Cols W ∧ Nm W w.heap.size key ∧ Nm W (w.heap.size + 1) non ∧ HAt W (w.heap.size + 1 + 1) A) ⟨by repeat (first | with_reducible exact Below.refl _ _ | with_reducible refine Below.alloc ?_ (by first | omega | (simp; done) | (simp; omega)) _), ((hm.alloc _).alloc _).alloc _, ((Cols.alloc hc _).alloc _).alloc _, (Nm.alloc (Cl.new _ rfl rfl) _).alloc _, Nm.alloc (Cl.new _ (by simp) rfl) _, HAt.new hl (by simp)⟩ ?_
  clear ra
  rintro W ⟨B, hD, hO, hK, hE, hY⟩
  generalize w.heap.size + 1 + 1 = bd at *
  generalize w.heap.size + 1 = bn at *
  with_reducible refine (SW.out _ hD hO).mono ?_
  rintro e w1 ⟨rfl, hb⟩
  replace B := B.trans (hb.mono B.size)
  replace hD := hD.keep hb; replace hO := hO.keep hb; replace hK := hK.keep hb; replace hE := hE.keep hb; replace hY := hY.keep hb
  clear hb W
  have ghK := fun o => (hK.alloc o).cells
  go_wp2_with fail
  refine calls_world (fun W => Below w.heap.size w W ∧ Mds W ∧ Cols W ∧ Nm W w.heap.size key ∧ Nm W bn non ∧ HAt W bd A ∧ Pnt W w1.heap.size r s o) ⟨B.alloc B.size _, hD.alloc _, hO.alloc _, hK.alloc _, hE.alloc _, hY.alloc _, Pnt.new rfl⟩ ?_
  clear B hD hO hK hE hY ghK
  rintro W ⟨B, hD, hO, hK, hE, hY, hS⟩
  generalize w1.heap.size = bs at *
  with_reducible refine (F1.out _ hD).mono ?_
  rintro e w9 ⟨rfl, hb⟩
  replace B := B.trans (hb.mono B.size)
  replace hD := hD.keep hb; replace hO := hO.keep hb; replace hK := hK.keep hb; replace hE := hE.keep hb; replace hY := hY.keep hb; replace hS := hS.keep hb
  clear hb W
  go_wp2
  simp [bodyPost, results, Tryd.results6, go_sem]
  exact B

set_option maxRecDepth 100000 in
set_option maxHeartbeats 16000000 in
theorem etn_a1 {key non r s : Int} {o : Bool} {A : List Int} (hl : A.length = 32) (SW : Hid (∀ w, Mds w → Cols w → Calls Tryd.prog 21 #[.agg #[.int .u64 (l0 key), .int .u64 (l1 key), .int .u64 (l2 key), .int .u64 (l3 key)], .agg #[.int .u64 (l0 non), .int .u64 (l1 non), .int .u64 (l2 non), .int .u64 (l3 non)], .agg ((A.map fun z => Value.int .u8 z).toArray)] w fun e w' => e = .returned (.tuple #[.agg #[.int .u64 (l0 r), .int .u64 (l1 r), .int .u64 (l2 r), .int .u64 (l3 r), .int .u64 (l0 s), .int .u64 (l1 s), .int .u64 (l2 s), .int .u64 (l3 s), .bool o], .int .i64 60]) ∧ Below w.heap.size w w')) (F1 : Hid (∀ w, Mds w → Calls Tryd.prog 22 #[.agg #[.int .u64 (l0 key), .int .u64 (l1 key), .int .u64 (l2 key), .int .u64 (l3 key)]] w fun e w' => e = .returned (.bool true) ∧ Below w.heap.size w w')) (F2 : Hid (∀ w, Mds w → Calls Tryd.prog 22 #[.agg #[.int .u64 (l0 non), .int .u64 (l1 non), .int .u64 (l2 non), .int .u64 (l3 non)]] w fun e w' => e = .returned (.bool false) ∧ Below w.heap.size w w')) (w : World) (hm : Mds w) (hc : Cols w) :
    Calls Tryd.prog 6 #[.agg #[.int .u64 (l0 key), .int .u64 (l1 key), .int .u64 (l2 key), .int .u64 (l3 key)], .agg #[.int .u64 (l0 non), .int .u64 (l1 non), .int .u64 (l2 non), .int .u64 (l3 non)], hashV A] w fun e w' => e = .returned (.bool true) ∧ Below w.heap.size w w' := by
  unfold hashV at *
  have ra : (((w.alloc (.cells #[.int .u64 (l0 key), .int .u64 (l1 key), .int .u64 (l2 key), .int .u64 (l3 key)] 25)).alloc (.cells #[.int .u64 (l0 non), .int .u64 (l1 non), .int .u64 (l2 non), .int .u64 (l3 non)] 25)).alloc (.cells ((A.map fun z => Value.int .u8 z).toArray) 48)).rangeAt (w.heap.size + 1 + 1) 0 (A.map fun z => Value.int .u8 z) := (HAt.new hl (by simp)).2
  go_enter Tryd.func6, Tryd.ntmps6
  go_wp2_with (refine wpList_load_mid rfl 48 _ rfl (w.heap.size + 1 + 1) 0 rfl (A.map fun z => Value.int .u8 z) _ ra Tryd.underlying48 rfl (by rw [List.length_map, hl]; kernel_rfl) ?_)
  refine calls_world (fun W => Below w.heap.size w W ∧ Mds W ∧ Cols W ∧ Nm W w.heap.size key ∧ Nm W (w.heap.size + 1) non ∧ HAt W (w.heap.size + 1 + 1) A) ⟨by repeat (first | with_reducible exact Below.refl _ _ | with_reducible refine Below.alloc ?_ (by first | omega | (simp; done) | (simp; omega)) _), ((hm.alloc _).alloc _).alloc _, ((Cols.alloc hc _).alloc _).alloc _, (Nm.alloc (Cl.new _ rfl rfl) _).alloc _, Nm.alloc (Cl.new _ (by simp) rfl) _, HAt.new hl (by simp)⟩ ?_
  clear ra
  rintro W ⟨B, hD, hO, hK, hE, hY⟩
  generalize w.heap.size + 1 + 1 = bd at *
  generalize w.heap.size + 1 = bn at *
  with_reducible refine (SW.out _ hD hO).mono ?_
  rintro e w1 ⟨rfl, hb⟩
  replace B := B.trans (hb.mono B.size)
  replace hD := hD.keep hb; replace hO := hO.keep hb; replace hK := hK.keep hb; replace hE := hE.keep hb; replace hY := hY.keep hb
  clear hb W
  have ghK := fun o => (hK.alloc o).cells
  go_wp2_with fail
  refine calls_world (fun W => Below w.heap.size w W ∧ Mds W ∧ Cols W ∧ Nm W w.heap.size key ∧ Nm W bn non ∧ HAt W bd A ∧ Pnt W w1.heap.size r s o) ⟨B.alloc B.size _, hD.alloc _, hO.alloc _, hK.alloc _, hE.alloc _, hY.alloc _, Pnt.new rfl⟩ ?_
  clear B hD hO hK hE hY ghK
  rintro W ⟨B, hD, hO, hK, hE, hY, hS⟩
  generalize w1.heap.size = bs at *
  with_reducible refine (F1.out _ hD).mono ?_
  rintro e w2 ⟨rfl, hb⟩
  replace B := B.trans (hb.mono B.size)
  replace hD := hD.keep hb; replace hO := hO.keep hb; replace hK := hK.keep hb; replace hE := hE.keep hb; replace hY := hY.keep hb; replace hS := hS.keep hb
  clear hb W
  have ghE := hE.cells
  go_wp2_with fail
  refine calls_world (fun W => Below w.heap.size w W ∧ Mds W ∧ Cols W ∧ Nm W w.heap.size key ∧ Nm W bn non ∧ HAt W bd A ∧ Pnt W bs r s o) ⟨B, hD, hO, hK, hE, hY, hS⟩ ?_
  clear B hD hO hK hE hY hS ghE
  rintro W ⟨B, hD, hO, hK, hE, hY, hS⟩
  with_reducible refine (F2.out _ hD).mono ?_
  rintro e w9 ⟨rfl, hb⟩
  replace B := B.trans (hb.mono B.size)
  replace hD := hD.keep hb; replace hO := hO.keep hb; replace hK := hK.keep hb; replace hE := hE.keep hb; replace hY := hY.keep hb; replace hS := hS.keep hb
  clear hb W
  go_wp2
  simp [bodyPost, results, Tryd.results6, go_sem]
  exact B

set_option maxRecDepth 100000 in
set_option maxHeartbeats 16000000 in
theorem etn_e64 {key non nn r s : Int} {o : Bool} {A : List Int} (hl : A.length = 32) (SW : Hid (∀ w, Mds w → Cols w → Calls Tryd.prog 21 #[.agg #[.int .u64 (l0 key), .int .u64 (l1 key), .int .u64 (l2 key), .int .u64 (l3 key)], .agg #[.int .u64 (l0 non), .int .u64 (l1 non), .int .u64 (l2 non), .int .u64 (l3 non)], .agg ((A.map fun z => Value.int .u8 z).toArray)] w fun e w' => e = .returned (.tuple #[.agg #[.int .u64 (l0 r), .int .u64 (l1 r), .int .u64 (l2 r), .int .u64 (l3 r), .int .u64 (l0 s), .int .u64 (l1 s), .int .u64 (l2 s), .int .u64 (l3 s), .bool o], .int .i64 64]) ∧ Below w.heap.size w w')) (F1 : Hid (∀ w, Mds w → Calls Tryd.prog 22 #[.agg #[.int .u64 (l0 key), .int .u64 (l1 key), .int .u64 (l2 key), .int .u64 (l3 key)]] w fun e w' => e = .returned (.bool true) ∧ Below w.heap.size w w')) (F2 : Hid (∀ w, Mds w → Calls Tryd.prog 22 #[.agg #[.int .u64 (l0 non), .int .u64 (l1 non), .int .u64 (l2 non), .int .u64 (l3 non)]] w fun e w' => e = .returned (.bool true) ∧ Below w.heap.size w w')) (NG : Hid (∀ w, Mds w → Calls Tryd.prog 23 #[.agg #[.int .u64 (l0 non), .int .u64 (l1 non), .int .u64 (l2 non), .int .u64 (l3 non)]] w fun e w' => e = .returned (.agg #[.int .u64 (l0 nn), .int .u64 (l1 nn), .int .u64 (l2 nn), .int .u64 (l3 nn)]) ∧ Below w.heap.size w w')) (SV : Hid (∀ w, Mds w → Cols w → Calls Tryd.prog 21 #[.agg #[.int .u64 (l0 key), .int .u64 (l1 key), .int .u64 (l2 key), .int .u64 (l3 key)], .agg #[.int .u64 (l0 nn), .int .u64 (l1 nn), .int .u64 (l2 nn), .int .u64 (l3 nn)], .agg ((A.map fun z => Value.int .u8 z).toArray)] w fun e w' => e = .returned (.tuple #[.agg #[.int .u64 (l0 r), .int .u64 (l1 r), .int .u64 (l2 r), .int .u64 (l3 r), .int .u64 (l0 s), .int .u64 (l1 s), .int .u64 (l2 s), .int .u64 (l3 s), .bool o], .int .i64 64]) ∧ Below w.heap.size w w')) (E1 : ∀ w, (Op.equalIn 10000 27 (.agg #[.int .u64 (l0 r), .int .u64 (l1 r), .int .u64 (l2 r), .int .u64 (l3 r), .int .u64 (l0 s), .int .u64 (l1 s), .int .u64 (l2 s), .int .u64 (l3 s), .bool o]) (.agg #[.int .u64 (l0 r), .int .u64 (l1 r), .int .u64 (l2 r), .int .u64 (l3 r), .int .u64 (l0 s), .int .u64 (l1 s), .int .u64 (l2 s), .int .u64 (l3 s), .bool o])).run Tryd.prog w = .ok true w) (w : World) (hm : Mds w) (hc : Cols w) :
    Calls Tryd.prog 6 #[.agg #[.int .u64 (l0 key), .int .u64 (l1 key), .int .u64 (l2 key), .int .u64 (l3 key)], .agg #[.int .u64 (l0 non), .int .u64 (l1 non), .int .u64 (l2 non), .int .u64 (l3 non)], hashV A] w fun e w' => e = .returned (.bool true) ∧ Below w.heap.size w w' := by
  unfold hashV at *
  have ra : (((w.alloc (.cells #[.int .u64 (l0 key), .int .u64 (l1 key), .int .u64 (l2 key), .int .u64 (l3 key)] 25)).alloc (.cells #[.int .u64 (l0 non), .int .u64 (l1 non), .int .u64 (l2 non), .int .u64 (l3 non)] 25)).alloc (.cells ((A.map fun z => Value.int .u8 z).toArray) 48)).rangeAt (w.heap.size + 1 + 1) 0 (A.map fun z => Value.int .u8 z) := (HAt.new hl (by simp)).2
  go_enter Tryd.func6, Tryd.ntmps6
  go_wp2_with (refine wpList_load_mid rfl 48 _ rfl (w.heap.size + 1 + 1) 0 rfl (A.map fun z => Value.int .u8 z) _ ra Tryd.underlying48 rfl (by rw [List.length_map, hl]; kernel_rfl) ?_)
  refine calls_world (fun W => Below w.heap.size w W ∧ Mds W ∧ Cols W ∧ Nm W w.heap.size key ∧ Nm W (w.heap.size + 1) non ∧ HAt W (w.heap.size + 1 + 1) A) ⟨by repeat (first | with_reducible exact Below.refl _ _ | with_reducible refine Below.alloc ?_ (by first | omega | (simp; done) | (simp; omega)) _), ((hm.alloc _).alloc _).alloc _, ((Cols.alloc hc _).alloc _).alloc _, (Nm.alloc (Cl.new _ rfl rfl) _).alloc _, Nm.alloc (Cl.new _ (by simp) rfl) _, HAt.new hl (by simp)⟩ ?_
  clear ra
  rintro W ⟨B, hD, hO, hK, hE, hY⟩
  generalize w.heap.size + 1 + 1 = bd at *
  generalize w.heap.size + 1 = bn at *
  with_reducible refine (SW.out _ hD hO).mono ?_
  rintro e w1 ⟨rfl, hb⟩
  replace B := B.trans (hb.mono B.size)
  replace hD := hD.keep hb; replace hO := hO.keep hb; replace hK := hK.keep hb; replace hE := hE.keep hb; replace hY := hY.keep hb
  clear hb W
  have ghK := fun o => (hK.alloc o).cells
  go_wp2_with fail
  refine calls_world (fun W => Below w.heap.size w W ∧ Mds W ∧ Cols W ∧ Nm W w.heap.size key ∧ Nm W bn non ∧ HAt W bd A ∧ Pnt W w1.heap.size r s o) ⟨B.alloc B.size _, hD.alloc _, hO.alloc _, hK.alloc _, hE.alloc _, hY.alloc _, Pnt.new rfl⟩ ?_
  clear B hD hO hK hE hY ghK
  rintro W ⟨B, hD, hO, hK, hE, hY, hS⟩
  generalize w1.heap.size = bs at *
  with_reducible refine (F1.out _ hD).mono ?_
  rintro e w2 ⟨rfl, hb⟩
  replace B := B.trans (hb.mono B.size)
  replace hD := hD.keep hb; replace hO := hO.keep hb; replace hK := hK.keep hb; replace hE := hE.keep hb; replace hY := hY.keep hb; replace hS := hS.keep hb
  clear hb W
  have ghE := hE.cells
  go_wp2_with fail
  refine calls_world (fun W => Below w.heap.size w W ∧ Mds W ∧ Cols W ∧ Nm W w.heap.size key ∧ Nm W bn non ∧ HAt W bd A ∧ Pnt W bs r s o) ⟨B, hD, hO, hK, hE, hY, hS⟩ ?_
  clear B hD hO hK hE hY hS ghE
  rintro W ⟨B, hD, hO, hK, hE, hY, hS⟩
  with_reducible refine (F2.out _ hD).mono ?_
  rintro e w3 ⟨rfl, hb⟩
  replace B := B.trans (hb.mono B.size)
  replace hD := hD.keep hb; replace hO := hO.keep hb; replace hK := hK.keep hb; replace hE := hE.keep hb; replace hY := hY.keep hb; replace hS := hS.keep hb
  clear hb W
  go_wp2_with fail
  refine wp_world (fun W => Below w.heap.size w W ∧ Mds W ∧ Cols W ∧ Nm W w.heap.size key ∧ Nm W bn non ∧ HAt W bd A ∧ Pnt W bs r s o) ⟨B, hD, hO, hK, hE, hY, hS⟩ ?_
  clear B hD hO hK hE hY hS 
  rintro W ⟨B, hD, hO, hK, hE, hY, hS⟩
  refine put_tail (A := ?AA1) 8 (fun V kk => put9 V kk r s o) (by kernel_rfl) (by kernel_rfl) rfl rfl rfl (alloc_sg _ _ _) (fun V V0 h0 h1 => below_put9 (alloc_below h0 h1) h0.size) (fun V hV => ?HH1) (fun V V0 h0 h1 => ?EE1) (fun V0 V w1 h0 h1 h2 => ?TT1)
  case HH1 =>
    have hDg : ∀ d os, Mds (grow (redrawn V d) os) := fun d os => (hD.keep hV).keep (below_regrown V d os)
    have hOg : ∀ d os, Cols (grow (redrawn V d) os) := fun d os => (hO.keep hV).keep (below_regrown V d os)
    have ghK := (hK.keep hV).grown
    have ghE := (hE.keep hV).grown
    have ldY : ∀ w', (∃ p : Regrown, w' = grow (redrawn V p.d) p.os) → w'.rangeAt bd 0 (A.map fun z => Value.int .u8 z) := by rintro w' ⟨p, rfl⟩; exact ((hY.keep hV).keep (below_regrown V p.d p.os)).2
    unfold Gr
    simp only [List.take_succ_cons, List.take_zero]
    repeat
      first
        | go_big_quiet_skip
        | (go_big_quiet_want; go_big_quiet_op; go_big_quiet_on)
        | (go_big_quiet_want; refine quiet_load_mid 48 _ rfl bd 0 rfl (A.map fun z => Value.int .u8 z) _ ldY Tryd.underlying48 rfl (by rw [List.length_map, hl]; kernel_rfl) ?_; simp only [Act.put, List.setIfInBounds_toArray, List.set_cons_succ, List.set_cons_zero]; go_big_quiet_on)
        | (go_big_quiet_want
           go_big_quiet_op
           apply Exists.intro
           refine ⟨fun p => ?_, ?_⟩
           · (first | (go_at_call 23; with_reducible exact Calls.regrown_of (NG.out _ (hDg p.d p.os))) | (go_at_call 21; with_reducible exact Calls.regrown_of (SV.out _ (hDg p.d p.os) (hOg p.d p.os))))
           go_big_quiet_on)
    refine wpQuiet_nil ?_
    exact rfl
  case EE1 =>
    obtain ⟨c0, c1, c2, c3, c4, c5, c6, c7, c8⟩ := ((Bk9.new rfl).keep h1).cells
    obtain ⟨f0, f1, f2, f3, f4, f5, f6, f7, f8⟩ := ((Bk9.new rfl).keep h1).free
    unfold put9
    simp [execOp, Act.put, Act.eval, go_sem, c0, c1, c2, c3, c4, c5, c6, c7, c8, f0, f1, f2, f3, f4, f5, f6, f7, f8]
  case TT1 =>
    have hN := (((Bk9.new rfl).keep h1).put9 r s o).keep h2
    have hb := alloc_below h0 h1
    have nhD : V0.heap.size ≠ 0 := Nat.ne_of_gt (Nat.lt_of_lt_of_le hD.lt h0.size)
    have nhO : V0.heap.size ≠ 1 := Nat.ne_of_gt (Nat.lt_of_lt_of_le hO.lt h0.size)
    have nhK : V0.heap.size ≠ w.heap.size := Nat.ne_of_gt (Nat.lt_of_lt_of_le hK.lt h0.size)
    have nhE : V0.heap.size ≠ bn := Nat.ne_of_gt (Nat.lt_of_lt_of_le hE.lt h0.size)
    have nhY : V0.heap.size ≠ bd := Nat.ne_of_gt (Nat.lt_of_lt_of_le hY.lt h0.size)
    have nhS : V0.heap.size ≠ bs := Nat.ne_of_gt (Nat.lt_of_lt_of_le hS.lt h0.size)
    have gn : w.heap.size ≤ V0.heap.size := Nat.le_trans B.size h0.size
    have B1 := below_put9 (x' := r) (y' := s) (j := o) (B.trans (hb.mono B.size)) gn
    replace B := B1.trans (h2.mono B1.size)
    replace hD := ((hD.keep hb).put9 nhD).keep h2
    replace hO := ((hO.keep hb).put9 nhO).keep h2
    replace hK := ((hK.keep hb).put9 nhK).keep h2
    replace hE := ((hE.keep hb).put9 nhE).keep h2
    replace hY := ((hY.keep hb).put9 nhY).keep h2
    replace hS := ((hS.keep hb).put9 nhS).keep h2
    clear hb h0 h1 h2 B1 W gn nhD nhO nhK nhE nhY nhS
    generalize V0.heap.size = bt at *
    clear V V0
    have ghS := hS.cells
    have gN := hN.cells
    simp only [List.drop_succ_cons, List.drop_zero, Act.put, List.setIfInBounds_toArray, List.set_cons_zero, List.set_cons_succ]
    go_wp2
    simp [bodyPost, results, Tryd.results6, go_sem]
    exact B

set_option maxRecDepth 100000 in
set_option maxHeartbeats 16000000 in
theorem etn_e65 {key non nn r s : Int} {o : Bool} {A : List Int} (hl : A.length = 32) (SW : Hid (∀ w, Mds w → Cols w → Calls Tryd.prog 21 #[.agg #[.int .u64 (l0 key), .int .u64 (l1 key), .int .u64 (l2 key), .int .u64 (l3 key)], .agg #[.int .u64 (l0 non), .int .u64 (l1 non), .int .u64 (l2 non), .int .u64 (l3 non)], .agg ((A.map fun z => Value.int .u8 z).toArray)] w fun e w' => e = .returned (.tuple #[.agg #[.int .u64 (l0 r), .int .u64 (l1 r), .int .u64 (l2 r), .int .u64 (l3 r), .int .u64 (l0 s), .int .u64 (l1 s), .int .u64 (l2 s), .int .u64 (l3 s), .bool o], .int .i64 65]) ∧ Below w.heap.size w w')) (F1 : Hid (∀ w, Mds w → Calls Tryd.prog 22 #[.agg #[.int .u64 (l0 key), .int .u64 (l1 key), .int .u64 (l2 key), .int .u64 (l3 key)]] w fun e w' => e = .returned (.bool true) ∧ Below w.heap.size w w')) (F2 : Hid (∀ w, Mds w → Calls Tryd.prog 22 #[.agg #[.int .u64 (l0 non), .int .u64 (l1 non), .int .u64 (l2 non), .int .u64 (l3 non)]] w fun e w' => e = .returned (.bool true) ∧ Below w.heap.size w w')) (NG : Hid (∀ w, Mds w → Calls Tryd.prog 23 #[.agg #[.int .u64 (l0 non), .int .u64 (l1 non), .int .u64 (l2 non), .int .u64 (l3 non)]] w fun e w' => e = .returned (.agg #[.int .u64 (l0 nn), .int .u64 (l1 nn), .int .u64 (l2 nn), .int .u64 (l3 nn)]) ∧ Below w.heap.size w w')) (SV : Hid (∀ w, Mds w → Cols w → Calls Tryd.prog 21 #[.agg #[.int .u64 (l0 key), .int .u64 (l1 key), .int .u64 (l2 key), .int .u64 (l3 key)], .agg #[.int .u64 (l0 nn), .int .u64 (l1 nn), .int .u64 (l2 nn), .int .u64 (l3 nn)], .agg ((A.map fun z => Value.int .u8 z).toArray)] w fun e w' => e = .returned (.tuple #[.agg #[.int .u64 (l0 r), .int .u64 (l1 r), .int .u64 (l2 r), .int .u64 (l3 r), .int .u64 (l0 s), .int .u64 (l1 s), .int .u64 (l2 s), .int .u64 (l3 s), .bool o], .int .i64 65]) ∧ Below w.heap.size w w')) (E1 : ∀ w, (Op.equalIn 10000 27 (.agg #[.int .u64 (l0 r), .int .u64 (l1 r), .int .u64 (l2 r), .int .u64 (l3 r), .int .u64 (l0 s), .int .u64 (l1 s), .int .u64 (l2 s), .int .u64 (l3 s), .bool o]) (.agg #[.int .u64 (l0 r), .int .u64 (l1 r), .int .u64 (l2 r), .int .u64 (l3 r), .int .u64 (l0 s), .int .u64 (l1 s), .int .u64 (l2 s), .int .u64 (l3 s), .bool o])).run Tryd.prog w = .ok true w) (w : World) (hm : Mds w) (hc : Cols w) :
    Calls Tryd.prog 6 #[.agg #[.int .u64 (l0 key), .int .u64 (l1 key), .int .u64 (l2 key), .int .u64 (l3 key)], .agg #[.int .u64 (l0 non), .int .u64 (l1 non), .int .u64 (l2 non), .int .u64 (l3 non)], hashV A] w fun e w' => e = .returned (.bool true) ∧ Below w.heap.size w w' := by
  unfold hashV at *
  have ra : (((w.alloc (.cells #[.int .u64 (l0 key), .int .u64 (l1 key), .int .u64 (l2 key), .int .u64 (l3 key)] 25)).alloc (.cells #[.int .u64 (l0 non), .int .u64 (l1 non), .int .u64 (l2 non), .int .u64 (l3 non)] 25)).alloc (.cells ((A.map fun z => Value.int .u8 z).toArray) 48)).rangeAt (w.heap.size + 1 + 1) 0 (A.map fun z => Value.int .u8 z) := (HAt.new hl (by simp)).2
  go_enter Tryd.func6, Tryd.ntmps6
  go_wp2_with (refine wpList_load_mid rfl 48 _ rfl (w.heap.size + 1 + 1) 0 rfl (A.map fun z => Value.int .u8 z) _ ra Tryd.underlying48 rfl (by rw [List.length_map, hl]; kernel_rfl) ?_)
  refine calls_world (fun W => Below w.heap.size w W ∧ Mds W ∧ Cols W ∧ Nm W w.heap.size key ∧ Nm W (w.heap.size + 1) non ∧ HAt W (w.heap.size + 1 + 1) A) ⟨by repeat (first | with_reducible exact Below.refl _ _ | with_reducible refine Below.alloc ?_ (by first | omega | (simp; done) | (simp; omega)) _), ((hm.alloc _).alloc _).alloc _, ((Cols.alloc hc _).alloc _).alloc _, (Nm.alloc (Cl.new _ rfl rfl) _).alloc _, Nm.alloc (Cl.new _ (by simp) rfl) _, HAt.new hl (by simp)⟩ ?_
  clear ra
  rintro W ⟨B, hD, hO, hK, hE, hY⟩
  generalize w.heap.size + 1 + 1 = bd at *
  generalize w.heap.size + 1 = bn at *
  with_reducible refine (SW.out _ hD hO).mono ?_
  rintro e w1 ⟨rfl, hb⟩
  replace B := B.trans (hb.mono B.size)
  replace hD := hD.keep hb; replace hO := hO.keep hb; replace hK := hK.keep hb; replace hE := hE.keep hb; replace hY := hY.keep hb
  clear hb W
  have ghK := fun o => (hK.alloc o).cells
  go_wp2_with fail
  refine calls_world (fun W => Below w.heap.size w W ∧ Mds W ∧ Cols W ∧ Nm W w.heap.size key ∧ Nm W bn non ∧ HAt W bd A ∧ Pnt W w1.heap.size r s o) ⟨B.alloc B.size _, hD.alloc _, hO.alloc _, hK.alloc _, hE.alloc _, hY.alloc _, Pnt.new rfl⟩ ?_
  clear B hD hO hK hE hY ghK
  rintro W ⟨B, hD, hO, hK, hE, hY, hS⟩
  generalize w1.heap.size = bs at *
  with_reducible refine (F1.out _ hD).mono ?_
  rintro e w2 ⟨rfl, hb⟩
  replace B := B.trans (hb.mono B.size)
  replace hD := hD.keep hb; replace hO := hO.keep hb; replace hK := hK.keep hb; replace hE := hE.keep hb; replace hY := hY.keep hb; replace hS := hS.keep hb
  clear hb W
  have ghE := hE.cells
  go_wp2_with fail
  refine calls_world (fun W => Below w.heap.size w W ∧ Mds W ∧ Cols W ∧ Nm W w.heap.size key ∧ Nm W bn non ∧ HAt W bd A ∧ Pnt W bs r s o) ⟨B, hD, hO, hK, hE, hY, hS⟩ ?_
  clear B hD hO hK hE hY hS ghE
  rintro W ⟨B, hD, hO, hK, hE, hY, hS⟩
  with_reducible refine (F2.out _ hD).mono ?_
  rintro e w3 ⟨rfl, hb⟩
  replace B := B.trans (hb.mono B.size)
  replace hD := hD.keep hb; replace hO := hO.keep hb; replace hK := hK.keep hb; replace hE := hE.keep hb; replace hY := hY.keep hb; replace hS := hS.keep hb
  clear hb W
  go_wp2_with fail
  refine wp_world (fun W => Below w.heap.size w W ∧ Mds W ∧ Cols W ∧ Nm W w.heap.size key ∧ Nm W bn non ∧ HAt W bd A ∧ Pnt W bs r s o) ⟨B, hD, hO, hK, hE, hY, hS⟩ ?_
  clear B hD hO hK hE hY hS 
  rintro W ⟨B, hD, hO, hK, hE, hY, hS⟩
  refine put_tail (A := ?AA1) 8 (fun V kk => put9 V kk r s o) (by kernel_rfl) (by kernel_rfl) rfl rfl rfl (alloc_sg _ _ _) (fun V V0 h0 h1 => below_put9 (alloc_below h0 h1) h0.size) (fun V hV => ?HH1) (fun V V0 h0 h1 => ?EE1) (fun V0 V w1 h0 h1 h2 => ?TT1)
  case HH1 =>
    have hDg : ∀ d os, Mds (grow (redrawn V d) os) := fun d os => (hD.keep hV).keep (below_regrown V d os)
    have hOg : ∀ d os, Cols (grow (redrawn V d) os) := fun d os => (hO.keep hV).keep (below_regrown V d os)
    have ghK := (hK.keep hV).grown
    have ghE := (hE.keep hV).grown
    have ldY : ∀ w', (∃ p : Regrown, w' = grow (redrawn V p.d) p.os) → w'.rangeAt bd 0 (A.map fun z => Value.int .u8 z) := by rintro w' ⟨p, rfl⟩; exact ((hY.keep hV).keep (below_regrown V p.d p.os)).2
    unfold Gr
    simp only [List.take_succ_cons, List.take_zero]
    repeat
      first
        | go_big_quiet_skip
        | (go_big_quiet_want; go_big_quiet_op; go_big_quiet_on)
        | (go_big_quiet_want; refine quiet_load_mid 48 _ rfl bd 0 rfl (A.map fun z => Value.int .u8 z) _ ldY Tryd.underlying48 rfl (by rw [List.length_map, hl]; kernel_rfl) ?_; simp only [Act.put, List.setIfInBounds_toArray, List.set_cons_succ, List.set_cons_zero]; go_big_quiet_on)
        | (go_big_quiet_want
           go_big_quiet_op
           apply Exists.intro
           refine ⟨fun p => ?_, ?_⟩
           · (first | (go_at_call 23; with_reducible exact Calls.regrown_of (NG.out _ (hDg p.d p.os))) | (go_at_call 21; with_reducible exact Calls.regrown_of (SV.out _ (hDg p.d p.os) (hOg p.d p.os))))
           go_big_quiet_on)
    refine wpQuiet_nil ?_
    exact rfl
  case EE1 =>
    obtain ⟨c0, c1, c2, c3, c4, c5, c6, c7, c8⟩ := ((Bk9.new rfl).keep h1).cells
    obtain ⟨f0, f1, f2, f3, f4, f5, f6, f7, f8⟩ := ((Bk9.new rfl).keep h1).free
    unfold put9
    simp [execOp, Act.put, Act.eval, go_sem, c0, c1, c2, c3, c4, c5, c6, c7, c8, f0, f1, f2, f3, f4, f5, f6, f7, f8]
  case TT1 =>
    have hN := (((Bk9.new rfl).keep h1).put9 r s o).keep h2
    have hb := alloc_below h0 h1
    have nhD : V0.heap.size ≠ 0 := Nat.ne_of_gt (Nat.lt_of_lt_of_le hD.lt h0.size)
    have nhO : V0.heap.size ≠ 1 := Nat.ne_of_gt (Nat.lt_of_lt_of_le hO.lt h0.size)
    have nhK : V0.heap.size ≠ w.heap.size := Nat.ne_of_gt (Nat.lt_of_lt_of_le hK.lt h0.size)
    have nhE : V0.heap.size ≠ bn := Nat.ne_of_gt (Nat.lt_of_lt_of_le hE.lt h0.size)
    have nhY : V0.heap.size ≠ bd := Nat.ne_of_gt (Nat.lt_of_lt_of_le hY.lt h0.size)
    have nhS : V0.heap.size ≠ bs := Nat.ne_of_gt (Nat.lt_of_lt_of_le hS.lt h0.size)
    have gn : w.heap.size ≤ V0.heap.size := Nat.le_trans B.size h0.size
    have B1 := below_put9 (x' := r) (y' := s) (j := o) (B.trans (hb.mono B.size)) gn
    replace B := B1.trans (h2.mono B1.size)
    replace hD := ((hD.keep hb).put9 nhD).keep h2
    replace hO := ((hO.keep hb).put9 nhO).keep h2
    replace hK := ((hK.keep hb).put9 nhK).keep h2
    replace hE := ((hE.keep hb).put9 nhE).keep h2
    replace hY := ((hY.keep hb).put9 nhY).keep h2
    replace hS := ((hS.keep hb).put9 nhS).keep h2
    clear hb h0 h1 h2 B1 W gn nhD nhO nhK nhE nhY nhS
    generalize V0.heap.size = bt at *
    clear V V0
    have ghS := hS.cells
    have gN := hN.cells
    simp only [List.drop_succ_cons, List.drop_zero, Act.put, List.setIfInBounds_toArray, List.set_cons_zero, List.set_cons_succ]
    go_wp2
    simp [bodyPost, results, Tryd.results6, go_sem]
    exact B

set_option maxRecDepth 100000 in
set_option maxHeartbeats 16000000 in
theorem etn_ok {key non nn r s n hs : Int} {o : Bool} {A : List Int} (hl : A.length = 32) (SW : Hid (∀ w, Mds w → Cols w → Calls Tryd.prog 21 #[.agg #[.int .u64 (l0 key), .int .u64 (l1 key), .int .u64 (l2 key), .int .u64 (l3 key)], .agg #[.int .u64 (l0 non), .int .u64 (l1 non), .int .u64 (l2 non), .int .u64 (l3 non)], .agg ((A.map fun z => Value.int .u8 z).toArray)] w fun e w' => e = .returned (.tuple #[.agg #[.int .u64 (l0 r), .int .u64 (l1 r), .int .u64 (l2 r), .int .u64 (l3 r), .int .u64 (l0 s), .int .u64 (l1 s), .int .u64 (l2 s), .int .u64 (l3 s), .bool o], .int .i64 0]) ∧ Below w.heap.size w w')) (F1 : Hid (∀ w, Mds w → Calls Tryd.prog 22 #[.agg #[.int .u64 (l0 key), .int .u64 (l1 key), .int .u64 (l2 key), .int .u64 (l3 key)]] w fun e w' => e = .returned (.bool true) ∧ Below w.heap.size w w')) (F2 : Hid (∀ w, Mds w → Calls Tryd.prog 22 #[.agg #[.int .u64 (l0 non), .int .u64 (l1 non), .int .u64 (l2 non), .int .u64 (l3 non)]] w fun e w' => e = .returned (.bool true) ∧ Below w.heap.size w w')) (NG : Hid (∀ w, Mds w → Calls Tryd.prog 23 #[.agg #[.int .u64 (l0 non), .int .u64 (l1 non), .int .u64 (l2 non), .int .u64 (l3 non)]] w fun e w' => e = .returned (.agg #[.int .u64 (l0 nn), .int .u64 (l1 nn), .int .u64 (l2 nn), .int .u64 (l3 nn)]) ∧ Below w.heap.size w w')) (SV : Hid (∀ w, Mds w → Cols w → Calls Tryd.prog 21 #[.agg #[.int .u64 (l0 key), .int .u64 (l1 key), .int .u64 (l2 key), .int .u64 (l3 key)], .agg #[.int .u64 (l0 nn), .int .u64 (l1 nn), .int .u64 (l2 nn), .int .u64 (l3 nn)], .agg ((A.map fun z => Value.int .u8 z).toArray)] w fun e w' => e = .returned (.tuple #[.agg #[.int .u64 (l0 r), .int .u64 (l1 r), .int .u64 (l2 r), .int .u64 (l3 r), .int .u64 (l0 s), .int .u64 (l1 s), .int .u64 (l2 s), .int .u64 (l3 s), .bool o], .int .i64 0]) ∧ Below w.heap.size w w')) (E1 : ∀ w, (Op.equalIn 10000 27 (.agg #[.int .u64 (l0 r), .int .u64 (l1 r), .int .u64 (l2 r), .int .u64 (l3 r), .int .u64 (l0 s), .int .u64 (l1 s), .int .u64 (l2 s), .int .u64 (l3 s), .bool o]) (.agg #[.int .u64 (l0 r), .int .u64 (l1 r), .int .u64 (l2 r), .int .u64 (l3 r), .int .u64 (l0 s), .int .u64 (l1 s), .int .u64 (l2 s), .int .u64 (l3 s), .bool o])).run Tryd.prog w = .ok true w) (MO : Hid (∀ w, Mds w → Calls Tryd.prog 24 #[.int .i64 1] w fun e w' => e = .returned (.tuple #[.agg #[.int .u64 (l0 n), .int .u64 (l1 n), .int .u64 (l2 n), .int .u64 (l3 n)], .int .i64 0]) ∧ Below w.heap.size w w')) (NH : Hid (∀ w, Mds w → Calls Tryd.prog 23 #[.agg #[.int .u64 (l0 s), .int .u64 (l1 s), .int .u64 (l2 s), .int .u64 (l3 s)]] w fun e w' => e = .returned (.agg #[.int .u64 (l0 hs), .int .u64 (l1 hs), .int .u64 (l2 hs), .int .u64 (l3 hs)]) ∧ Below w.heap.size w w')) (K1 : Hid (∀ w, Mds w → Calls Tryd.prog 13 #[.agg #[.int .u64 (l0 r), .int .u64 (l1 r), .int .u64 (l2 r), .int .u64 (l3 r), .int .u64 (l0 hs), .int .u64 (l1 hs), .int .u64 (l2 hs), .int .u64 (l3 hs), .bool o]] w fun e w' => e = .returned (.int .i64 63) ∧ Below w.heap.size w w')) (K2 : Hid (∀ w, Mds w → Calls Tryd.prog 13 #[.agg #[.int .u64 0, .int .u64 0, .int .u64 0, .int .u64 0, .int .u64 (l0 s), .int .u64 (l1 s), .int .u64 (l2 s), .int .u64 (l3 s), .bool o]] w fun e w' => e = .returned (.int .i64 61) ∧ Below w.heap.size w w')) (K3 : Hid (∀ w, Mds w → Calls Tryd.prog 13 #[.agg #[.int .u64 (l0 r), .int .u64 (l1 r), .int .u64 (l2 r), .int .u64 (l3 r), .int .u64 (l0 n), .int .u64 (l1 n), .int .u64 (l2 n), .int .u64 (l3 n), .bool o]] w fun e w' => e = .returned (.int .i64 62) ∧ Below w.heap.size w w')) (w : World) (hm : Mds w) (hc : Cols w) :
    Calls Tryd.prog 6 #[.agg #[.int .u64 (l0 key), .int .u64 (l1 key), .int .u64 (l2 key), .int .u64 (l3 key)], .agg #[.int .u64 (l0 non), .int .u64 (l1 non), .int .u64 (l2 non), .int .u64 (l3 non)], hashV A] w fun e w' => e = .returned (.bool true) ∧ Below w.heap.size w w' := by
  unfold hashV at *
  have ra : (((w.alloc (.cells #[.int .u64 (l0 key), .int .u64 (l1 key), .int .u64 (l2 key), .int .u64 (l3 key)] 25)).alloc (.cells #[.int .u64 (l0 non), .int .u64 (l1 non), .int .u64 (l2 non), .int .u64 (l3 non)] 25)).alloc (.cells ((A.map fun z => Value.int .u8 z).toArray) 48)).rangeAt (w.heap.size + 1 + 1) 0 (A.map fun z => Value.int .u8 z) := (HAt.new hl (by simp)).2
  go_enter Tryd.func6, Tryd.ntmps6
  go_wp2_with (refine wpList_load_mid rfl 48 _ rfl (w.heap.size + 1 + 1) 0 rfl (A.map fun z => Value.int .u8 z) _ ra Tryd.underlying48 rfl (by rw [List.length_map, hl]; kernel_rfl) ?_)
  refine calls_world (fun W => Below w.heap.size w W ∧ Mds W ∧ Cols W ∧ Nm W w.heap.size key ∧ Nm W (w.heap.size + 1) non ∧ HAt W (w.heap.size + 1 + 1) A) ⟨by repeat (first | with_reducible exact Below.refl _ _ | with_reducible refine Below.alloc ?_ (by first | omega | (simp; done) | (simp; omega)) _), ((hm.alloc _).alloc _).alloc _, ((Cols.alloc hc _).alloc _).alloc _, (Nm.alloc (Cl.new _ rfl rfl) _).alloc _, Nm.alloc (Cl.new _ (by simp) rfl) _, HAt.new hl (by simp)⟩ ?_
  clear ra
  rintro W ⟨B, hD, hO, hK, hE, hY⟩
  generalize w.heap.size + 1 + 1 = bd at *
  generalize w.heap.size + 1 = bn at *
  with_reducible refine (SW.out _ hD hO).mono ?_
  rintro e w1 ⟨rfl, hb⟩
  replace B := B.trans (hb.mono B.size)
  replace hD := hD.keep hb; replace hO := hO.keep hb; replace hK := hK.keep hb; replace hE := hE.keep hb; replace hY := hY.keep hb
  clear hb W
  have ghK := fun o => (hK.alloc o).cells
  go_wp2_with fail
  refine calls_world (fun W => Below w.heap.size w W ∧ Mds W ∧ Cols W ∧ Nm W w.heap.size key ∧ Nm W bn non ∧ HAt W bd A ∧ Pnt W w1.heap.size r s o) ⟨B.alloc B.size _, hD.alloc _, hO.alloc _, hK.alloc _, hE.alloc _, hY.alloc _, Pnt.new rfl⟩ ?_
  clear B hD hO hK hE hY ghK
  rintro W ⟨B, hD, hO, hK, hE, hY, hS⟩
  generalize w1.heap.size = bs at *
  with_reducible refine (F1.out _ hD).mono ?_
  rintro e w2 ⟨rfl, hb⟩
  replace B := B.trans (hb.mono B.size)
  replace hD := hD.keep hb; replace hO := hO.keep hb; replace hK := hK.keep hb; replace hE := hE.keep hb; replace hY := hY.keep hb; replace hS := hS.keep hb
  clear hb W
  have ghE := hE.cells
  go_wp2_with fail
  refine calls_world (fun W => Below w.heap.size w W ∧ Mds W ∧ Cols W ∧ Nm W w.heap.size key ∧ Nm W bn non ∧ HAt W bd A ∧ Pnt W bs r s o) ⟨B, hD, hO, hK, hE, hY, hS⟩ ?_
  clear B hD hO hK hE hY hS ghE
  rintro W ⟨B, hD, hO, hK, hE, hY, hS⟩
  with_reducible refine (F2.out _ hD).mono ?_
  rintro e w3 ⟨rfl, hb⟩
  replace B := B.trans (hb.mono B.size)
  replace hD := hD.keep hb; replace hO := hO.keep hb; replace hK := hK.keep hb; replace hE := hE.keep hb; replace hY := hY.keep hb; replace hS := hS.keep hb
  clear hb W
  go_wp2_with fail
  refine wp_world (fun W => Below w.heap.size w W ∧ Mds W ∧ Cols W ∧ Nm W w.heap.size key ∧ Nm W bn non ∧ HAt W bd A ∧ Pnt W bs r s o) ⟨B, hD, hO, hK, hE, hY, hS⟩ ?_
  clear B hD hO hK hE hY hS 
  rintro W ⟨B, hD, hO, hK, hE, hY, hS⟩
  refine put_tail (A := ?AA1) 8 (fun V kk => put9 V kk r s o) (by kernel_rfl) (by kernel_rfl) rfl rfl rfl (alloc_sg _ _ _) (fun V V0 h0 h1 => below_put9 (alloc_below h0 h1) h0.size) (fun V hV => ?HH1) (fun V V0 h0 h1 => ?EE1) (fun V0 V w1 h0 h1 h2 => ?TT1)
  case HH1 =>
    have hDg : ∀ d os, Mds (grow (redrawn V d) os) := fun d os => (hD.keep hV).keep (below_regrown V d os)
    have hOg : ∀ d os, Cols (grow (redrawn V d) os) := fun d os => (hO.keep hV).keep (below_regrown V d os)
    have ghK := (hK.keep hV).grown
    have ghE := (hE.keep hV).grown
    have ldY : ∀ w', (∃ p : Regrown, w' = grow (redrawn V p.d) p.os) → w'.rangeAt bd 0 (A.map fun z => Value.int .u8 z) := by rintro w' ⟨p, rfl⟩; exact ((hY.keep hV).keep (below_regrown V p.d p.os)).2
    unfold Gr
    simp only [List.take_succ_cons, List.take_zero]
    repeat
      first
        | go_big_quiet_skip
        | (go_big_quiet_want; go_big_quiet_op; go_big_quiet_on)
        | (go_big_quiet_want; refine quiet_load_mid 48 _ rfl bd 0 rfl (A.map fun z => Value.int .u8 z) _ ldY Tryd.underlying48 rfl (by rw [List.length_map, hl]; kernel_rfl) ?_; simp only [Act.put, List.setIfInBounds_toArray, List.set_cons_succ, List.set_cons_zero]; go_big_quiet_on)
        | (go_big_quiet_want
           go_big_quiet_op
           apply Exists.intro
           refine ⟨fun p => ?_, ?_⟩
           · (first | (go_at_call 23; with_reducible exact Calls.regrown_of (NG.out _ (hDg p.d p.os))) | (go_at_call 21; with_reducible exact Calls.regrown_of (SV.out _ (hDg p.d p.os) (hOg p.d p.os))))
           go_big_quiet_on)
    refine wpQuiet_nil ?_
    exact rfl
  case EE1 =>
    obtain ⟨c0, c1, c2, c3, c4, c5, c6, c7, c8⟩ := ((Bk9.new rfl).keep h1).cells
    obtain ⟨f0, f1, f2, f3, f4, f5, f6, f7, f8⟩ := ((Bk9.new rfl).keep h1).free
    unfold put9
    simp [execOp, Act.put, Act.eval, go_sem, c0, c1, c2, c3, c4, c5, c6, c7, c8, f0, f1, f2, f3, f4, f5, f6, f7, f8]
  case TT1 =>
    have hN := (((Bk9.new rfl).keep h1).put9 r s o).keep h2
    have hb := alloc_below h0 h1
    have nhD : V0.heap.size ≠ 0 := Nat.ne_of_gt (Nat.lt_of_lt_of_le hD.lt h0.size)
    have nhO : V0.heap.size ≠ 1 := Nat.ne_of_gt (Nat.lt_of_lt_of_le hO.lt h0.size)
    have nhK : V0.heap.size ≠ w.heap.size := Nat.ne_of_gt (Nat.lt_of_lt_of_le hK.lt h0.size)
    have nhE : V0.heap.size ≠ bn := Nat.ne_of_gt (Nat.lt_of_lt_of_le hE.lt h0.size)
    have nhY : V0.heap.size ≠ bd := Nat.ne_of_gt (Nat.lt_of_lt_of_le hY.lt h0.size)
    have nhS : V0.heap.size ≠ bs := Nat.ne_of_gt (Nat.lt_of_lt_of_le hS.lt h0.size)
    have gn : w.heap.size ≤ V0.heap.size := Nat.le_trans B.size h0.size
    have B1 := below_put9 (x' := r) (y' := s) (j := o) (B.trans (hb.mono B.size)) gn
    replace B := B1.trans (h2.mono B1.size)
    replace hD := ((hD.keep hb).put9 nhD).keep h2
    replace hO := ((hO.keep hb).put9 nhO).keep h2
    replace hK := ((hK.keep hb).put9 nhK).keep h2
    replace hE := ((hE.keep hb).put9 nhE).keep h2
    replace hY := ((hY.keep hb).put9 nhY).keep h2
    replace hS := ((hS.keep hb).put9 nhS).keep h2
    clear hb h0 h1 h2 B1 W gn nhD nhO nhK nhE nhY nhS
    generalize V0.heap.size = bt at *
    clear V V0
    have ghS := hS.cells
    have gN := hN.cells
    simp only [List.drop_succ_cons, List.drop_zero, Act.put, List.setIfInBounds_toArray, List.set_cons_zero, List.set_cons_succ]
    go_wp2_with fail
    refine calls_world (fun W => Below w.heap.size w W ∧ Mds W ∧ Cols W ∧ Nm W w.heap.size key ∧ Nm W bn non ∧ HAt W bd A ∧ Pnt W bs r s o ∧ Pnt W bt r s o) ⟨B, hD, hO, hK, hE, hY, hS, hN⟩ ?_
    clear B hN gN hD hO hK hE hY hS ghS
    rintro W ⟨B, hD, hO, hK, hE, hY, hS, hT⟩
    clear w1
    clear hK hE hY hT
    with_reducible refine (MO.out _ hD).mono ?_
    rintro e w9 ⟨rfl, hb⟩
    replace B := B.trans (hb.mono B.size)
    replace hD := hD.keep hb; replace hO := hO.keep hb; replace hS := hS.keep hb
    clear hb W
    have gS1 := fun a => (hS.alloc a).cells
    have gS2 := fun a b => ((hS.alloc a).alloc b).cells
    go_wp2_with fail
    refine calls_world (fun W => Below w.heap.size w W ∧ Mds W ∧ Pnt W bs r s o ∧ Nm W w9.heap.size n ∧ Pnt W (w9.heap.size + 1) r s o ∧ Loose W (w9.heap.size + 1) 9) ⟨(B.alloc B.size _).alloc (by have := B.size; simp; omega) _, (hD.alloc _).alloc _, (hS.alloc _).alloc _, Nm.alloc (Cl.new _ rfl rfl) _, Pnt.new (by simp), loose_new (by simp)⟩ ?_
    have n1 : w9.heap.size + 1 ≠ bs := by have := hS.lt; omega
    have n2 : w9.heap.size + 1 ≠ w9.heap.size := by omega
    have n3 : w9.heap.size ≠ bs := by have := hS.lt; omega
    have g1 : w.heap.size ≤ w9.heap.size + 1 := by have := B.size; omega
    have nd : w9.heap.size + 1 ≠ 0 := by have := hD.lt; omega
    clear B hD hS hO gS1 gS2
    rintro W ⟨B, hD, hS, hM, hH, lH⟩
    generalize w9.heap.size + 1 = bh at *
    generalize w9.heap.size = bm at *
    clear w9
    with_reducible refine (NH.out _ hD).mono ?_
    rintro e w8 ⟨rfl, hb⟩
    replace B := B.trans (hb.mono B.size)
    replace lH := lH.keep hb hH.lt
    replace hD := hD.keep hb; replace hS := hS.keep hb; replace hM := hM.keep hb; replace hH := hH.keep hb
    clear hb W
    have gS := hS.cells; have gM := hM.cells; have gH := hH.cells
    have f4 := lH 4 (by decide); have f5 := lH 5 (by decide); have f6 := lH 6 (by decide); have f7 := lH 7 (by decide)
    have ls := hS.lt; have lm := hM.lt; have lh := hH.lt
    have n1s := n1.symm; have n2s := n2.symm; have n3s := n3.symm
    have bz := B.size
    go_wp2_with fail
    refine calls_world (fun W => Below w.heap.size w W ∧ Mds W ∧ Cl W w8.heap.size [.int .u64 0, .int .u64 0, .int .u64 0, .int .u64 0, .int .u64 (l0 s), .int .u64 (l1 s), .int .u64 (l2 s), .int .u64 (l3 s), .bool o] ∧ Pnt W (w8.heap.size + 1) r n o) ⟨?_, ((((((hD.set nd _).set nd _).set nd _).set nd _).alloc _).alloc _), (Cl.new _ (by simp) rfl).alloc _, Pnt.new (by simp)⟩ ?_
    · repeat (first | with_reducible exact B | with_reducible refine Below.setCell ?_ g1 _ | with_reducible refine Below.alloc ?_ (by first | omega | (simp; omega)) _)
    clear B hD hS hM hH lH gS gM gH f4 f5 f6 f7 ls lm lh bz
    rintro W ⟨B, hD, hNo, hV⟩
    generalize w8.heap.size + 1 = bv at *
    generalize w8.heap.size = bo at *
    clear w8
    with_reducible refine (K1.out _ hD).mono ?_
    rintro e w7 ⟨rfl, hb⟩
    replace B := B.trans (hb.mono B.size)
    replace hD := hD.keep hb; replace hNo := Cl.keep hNo hb; replace hV := hV.keep hb
    clear hb W
    have c0 := hNo 0 (by simp)
    have c1 := hNo 1 (by simp)
    have c2 := hNo 2 (by simp)
    have c3 := hNo 3 (by simp)
    have c4 := hNo 4 (by simp)
    have c5 := hNo 5 (by simp)
    have c6 := hNo 6 (by simp)
    have c7 := hNo 7 (by simp)
    have c8 := hNo 8 (by simp)
    go_wp2_with fail
    refine calls_world (fun W => Below w.heap.size w W ∧ Mds W ∧ Pnt W bv r n o) ⟨B, hD, hV⟩ ?_
    clear B hD hV hNo c0 c1 c2 c3 c4 c5 c6 c7 c8
    rintro W ⟨B, hD, hV⟩
    clear w7
    with_reducible refine (K2.out _ hD).mono ?_
    rintro e w6 ⟨rfl, hb⟩
    replace B := B.trans (hb.mono B.size)
    replace hD := hD.keep hb; replace hV := hV.keep hb
    clear hb W
    have gV := hV.cells
    go_wp2_with fail
    refine calls_world (fun W => Below w.heap.size w W ∧ Mds W) ⟨B, hD⟩ ?_
    clear B hD hV gV
    rintro W ⟨B, hD⟩
    clear w6
    with_reducible refine (K3.out _ hD).mono ?_
    rintro e w5 ⟨rfl, hb⟩
    replace B := B.trans (hb.mono B.size)
    clear hb hD W
    go_wp2
    simp [bodyPost, results, Tryd.results6, go_sem]
    exact B
end Go.Proofs.YtbcjikoajjhfaaaDoor

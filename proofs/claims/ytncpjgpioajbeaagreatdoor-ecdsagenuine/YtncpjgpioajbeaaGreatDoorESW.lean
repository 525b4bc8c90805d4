import Derived.Test.YtncpjgpioajbeaaGreatDoorESign
import Derived.Test.YtncpjgpioajbeaaGreatDoorENum
import Derived.Test.YtncpjgpioajbeaaGreatDoorCCols
namespace Go.Proofs.YtncpjgpioajbeaaGreatDoor
open Go.RowKit Go.Sort

theorem quiet_load_mid {P : Program} {C : World → Prop} {a : Act} {o : Oper} {K : Act → Prop} (ty : TypeId) (x : Operand) (ho : o.op = .load ty x)
    (b f : Nat) (hx : a.eval x = .pointer (some ⟨b, f, none⟩)) (cs : List Value) (d : TypeDesc) (hS : ∀ w, C w → w.rangeAt b f cs)
    (hu : P.underlying ty = some d) (hd : d.isRow = true) (hi : (P.info? ty).map (·.size) = some cs.length) (h : K (a.put o.dst (.agg cs.toArray))) : o.quiet P a C K :=
  ⟨.agg cs.toArray, fun w hw => by
    unfold Oper.quietAt execOp
    simp only [ho, hx, Instr.loadAt, Instr.sureAddr, Sem.run_bind, Sem.run_pure, Result.andThen_ok, run_loadVar_mid w b f ty cs d (hS w hw) hu hd hi]
    exact ⟨rfl, rfl⟩, h⟩
/-- A digest in a block. -/
def HAt (W : World) (b : Nat) (A : List Int) : Prop := A.length = 32 ∧ W.rangeAt b 0 (A.map fun z => Value.int .u8 z)
theorem HAt.lt {W : World} {b : Nat} {A : List Int} (h : HAt W b A) : b < W.heap.size := by
  have hl : 0 < A.length := by rw [h.1]; decide
  exact World.block_lt_of_cell? W _ (h.2 0 _ (List.getElem?_eq_getElem (by simpa using hl)))
theorem HAt.keep {W w1 : World} {b : Nat} {A : List Int} (h : HAt W b A) (hb : Below W.heap.size W w1) : HAt w1 b A := ⟨h.1, fun j v hv => cell_keep hb (h.2 j v hv)⟩
theorem HAt.alloc {W : World} {b : Nat} {A : List Int} (h : HAt W b A) (ob : Obj) : HAt (W.alloc ob) b A := h.keep ((Below.refl _ _).alloc (Nat.le_refl _) ob)
theorem HAt.put9 {W : World} {b b' : Nat} {A : List Int} {x' y' : Int} {j : Bool} (h : HAt W b A) (ne : b' ≠ b) : HAt (Go.Proofs.YtncpjgpioajbeaaGreatDoor.put9 W b' x' y' j) b A := ⟨h.1, fun k v hv => by
  unfold Go.Proofs.YtncpjgpioajbeaaGreatDoor.put9
  exact cell_far (cell_far (cell_far (cell_far (cell_far (cell_far (cell_far (cell_far (cell_far (h.2 k v hv) ne) ne) ne) ne) ne) ne) ne) ne) ne⟩
theorem HAt.new {W : World} {b : Nat} {A : List Int} {t : TypeId} (hl : A.length = 32) (e : b = W.heap.size) : HAt (W.alloc (.cells ((A.map fun z => Value.int .u8 z).toArray) t)) b A := ⟨hl, fun j v hv => by
  subst e
  rw [Nat.zero_add]
  simpa [go_sem] using hv⟩
theorem alloc_sg (dst : Option Tmp) (pos : String) (ty : TypeId) (ρ : Operand → Value) (w : World) : (execOp ρ { dst := dst, op := Op.alloc 28, type := ty, pos := pos, after := #[], guard := none }).run Tryz.prog w = .ok (.value (.pointer (some ⟨w.heap.size, 0, none⟩))) (w.alloc (.cells #[.int .u64 0, .int .u64 0, .int .u64 0, .int .u64 0, .int .u64 0, .int .u64 0, .int .u64 0, .int .u64 0, .bool false] 28)) := by
  simp [execOp, go_sem]

set_option maxRecDepth 100000 in
set_option maxHeartbeats 8000000 in
theorem esw_key0 {key non : Int} {A : List Int} (hl : A.length = 32) (C0 : Hid (∀ w, Mds w → Calls Tryz.prog 13 #[.agg #[.int .u64 (l0 key), .int .u64 (l1 key), .int .u64 (l2 key), .int .u64 (l3 key)]] w fun e w' => e = .returned (.bool false) ∧ Below w.heap.size w w')) (w : World) (hm : Mds w) (hc : Cols w) :
    Calls Tryz.prog 8 #[.agg #[.int .u64 (l0 key), .int .u64 (l1 key), .int .u64 (l2 key), .int .u64 (l3 key)], .agg #[.int .u64 (l0 non), .int .u64 (l1 non), .int .u64 (l2 non), .int .u64 (l3 non)], hashV A] w fun e w' => e = .returned (.tuple #[.agg #[.int .u64 (l0 0), .int .u64 (l1 0), .int .u64 (l2 0), .int .u64 (l3 0), .int .u64 (l0 0), .int .u64 (l1 0), .int .u64 (l2 0), .int .u64 (l3 0), .bool false], .int .i64 60]) ∧ Below w.heap.size w w' := by
  obtain ⟨z0, z1, z2, z3⟩ := zero_limbs
  rw [z0, z1, z2, z3]
  clear z0 z1 z2 z3
  unfold hashV at *
  go_enter Tryz.func8, Tryz.ntmps8
  go_wp2_with fail
  refine calls_world (fun W => Below w.heap.size w W ∧ Mds W ∧ Cols W ∧ Nm W w.heap.size key ∧ Nm W (w.heap.size + 1) non ∧ HAt W (w.heap.size + 1 + 1) A ∧ Bk9 W (w.heap.size + 1 + 1 + 1)) ⟨by repeat (first | with_reducible exact Below.refl _ _ | with_reducible refine Below.alloc ?_ (by first | omega | (simp; done) | (simp; omega)) _), (((hm.alloc _).alloc _).alloc _).alloc _, (((Cols.alloc hc _).alloc _).alloc _).alloc _, ((Nm.alloc (Cl.new _ rfl rfl) _).alloc _).alloc _, (Nm.alloc (Cl.new _ (by simp) rfl) _).alloc _, (HAt.new hl (by simp)).alloc _, Bk9.new (by simp)⟩ ?_
  rintro W ⟨B, hD, hO, hK, hE, hY, hR⟩
  have o3 : w.heap.size ≤ w.heap.size + 1 + 1 + 1 := by omega
  generalize w.heap.size + 1 + 1 + 1 = br at *
  generalize w.heap.size + 1 + 1 = bd at *
  generalize w.heap.size + 1 = bn at *
  with_reducible refine (C0.out _ hD).mono ?_
  rintro e w9 ⟨rfl, hb⟩
  replace B := B.trans (hb.mono B.size)
  replace hD := hD.keep hb; replace hO := hO.keep hb; replace hK := hK.keep hb; replace hE := hE.keep hb; replace hY := hY.keep hb; replace hR := hR.keep hb
  clear hb W hD hO hK hE hY
  have gR := hR.cells; have fR := hR.free
  go_wp2
  simp [bodyPost, results, Tryz.results8, go_sem, gR]
  repeat (first | with_reducible exact B | with_reducible refine Below.setCell ?_ o3 _)

set_option maxRecDepth 100000 in
set_option maxHeartbeats 8000000 in
theorem esw_key1 {key non : Int} {A : List Int} (hl : A.length = 32) (C0 : Hid (∀ w, Mds w → Calls Tryz.prog 13 #[.agg #[.int .u64 (l0 key), .int .u64 (l1 key), .int .u64 (l2 key), .int .u64 (l3 key)]] w fun e w' => e = .returned (.bool true) ∧ Below w.heap.size w w')) (C1 : Hid (∀ w, Mds w → Calls Tryz.prog 13 #[.agg #[.int .u64 (l0 non), .int .u64 (l1 non), .int .u64 (l2 non), .int .u64 (l3 non)]] w fun e w' => e = .returned (.bool false) ∧ Below w.heap.size w w')) (w : World) (hm : Mds w) (hc : Cols w) :
    Calls Tryz.prog 8 #[.agg #[.int .u64 (l0 key), .int .u64 (l1 key), .int .u64 (l2 key), .int .u64 (l3 key)], .agg #[.int .u64 (l0 non), .int .u64 (l1 non), .int .u64 (l2 non), .int .u64 (l3 non)], hashV A] w fun e w' => e = .returned (.tuple #[.agg #[.int .u64 (l0 0), .int .u64 (l1 0), .int .u64 (l2 0), .int .u64 (l3 0), .int .u64 (l0 0), .int .u64 (l1 0), .int .u64 (l2 0), .int .u64 (l3 0), .bool false], .int .i64 60]) ∧ Below w.heap.size w w' := by
  obtain ⟨z0, z1, z2, z3⟩ := zero_limbs
  rw [z0, z1, z2, z3]
  clear z0 z1 z2 z3
  unfold hashV at *
  go_enter Tryz.func8, Tryz.ntmps8
  go_wp2_with fail
  refine calls_world (fun W => Below w.heap.size w W ∧ Mds W ∧ Cols W ∧ Nm W w.heap.size key ∧ Nm W (w.heap.size + 1) non ∧ HAt W (w.heap.size + 1 + 1) A ∧ Bk9 W (w.heap.size + 1 + 1 + 1)) ⟨by repeat (first | with_reducible exact Below.refl _ _ | with_reducible refine Below.alloc ?_ (by first | omega | (simp; done) | (simp; omega)) _), (((hm.alloc _).alloc _).alloc _).alloc _, (((Cols.alloc hc _).alloc _).alloc _).alloc _, ((Nm.alloc (Cl.new _ rfl rfl) _).alloc _).alloc _, (Nm.alloc (Cl.new _ (by simp) rfl) _).alloc _, (HAt.new hl (by simp)).alloc _, Bk9.new (by simp)⟩ ?_
  rintro W ⟨B, hD, hO, hK, hE, hY, hR⟩
  have o3 : w.heap.size ≤ w.heap.size + 1 + 1 + 1 := by omega
  generalize w.heap.size + 1 + 1 + 1 = br at *
  generalize w.heap.size + 1 + 1 = bd at *
  generalize w.heap.size + 1 = bn at *
  with_reducible refine (C0.out _ hD).mono ?_
  rintro e w1 ⟨rfl, hb⟩
  replace B := B.trans (hb.mono B.size)
  replace hD := hD.keep hb; replace hO := hO.keep hb; replace hK := hK.keep hb; replace hE := hE.keep hb; replace hY := hY.keep hb; replace hR := hR.keep hb
  clear hb W
  have ghE := hE.cells
  go_wp2_with fail
  refine calls_world (fun W => Below w.heap.size w W ∧ Mds W ∧ Cols W ∧ Nm W w.heap.size key ∧ Nm W bn non ∧ HAt W bd A ∧ Bk9 W br) ⟨B, hD, hO, hK, hE, hY, hR⟩ ?_
  clear B hD hO hK hE hY hR ghE
  rintro W ⟨B, hD, hO, hK, hE, hY, hR⟩
  with_reducible refine (C1.out _ hD).mono ?_
  rintro e w9 ⟨rfl, hb⟩
  replace B := B.trans (hb.mono B.size)
  replace hD := hD.keep hb; replace hO := hO.keep hb; replace hK := hK.keep hb; replace hE := hE.keep hb; replace hY := hY.keep hb; replace hR := hR.keep hb
  clear hb W hD hO hK hE hY
  have gR := hR.cells; have fR := hR.free
  go_wp2
  simp [bodyPost, results, Tryz.results8, go_sem, gR]
  repeat (first | with_reducible exact B | with_reducible refine Below.setCell ?_ o3 _)

theorem Bk9.put9b {W : World} {b b' : Nat} {x' y' : Int} {j : Bool} (h : Bk9 W b) (ne : b' ≠ b) : Bk9 (Go.Proofs.YtncpjgpioajbeaaGreatDoor.put9 W b' x' y' j) b := by
  unfold Go.Proofs.YtncpjgpioajbeaaGreatDoor.put9
  exact ⟨Cl.set (Cl.set (Cl.set (Cl.set (Cl.set (Cl.set (Cl.set (Cl.set (Cl.set (h.1) ne _) ne _) ne _) ne _) ne _) ne _) ne _) ne _) ne _, (((((((((h.2.set _ _).set _ _).set _ _).set _ _).set _ _).set _ _).set _ _).set _ _).set _ _)⟩

set_option maxRecDepth 100000 in
set_option maxHeartbeats 8000000 in
theorem esw_err {key non dg X Y e0 : Int} {j : Bool} {A : List Int} (hl : A.length = 32) (C0 : Hid (∀ w, Mds w → Calls Tryz.prog 13 #[.agg #[.int .u64 (l0 key), .int .u64 (l1 key), .int .u64 (l2 key), .int .u64 (l3 key)]] w fun e w' => e = .returned (.bool true) ∧ Below w.heap.size w w')) (C1 : Hid (∀ w, Mds w → Calls Tryz.prog 13 #[.agg #[.int .u64 (l0 non), .int .u64 (l1 non), .int .u64 (l2 non), .int .u64 (l3 non)]] w fun e w' => e = .returned (.bool true) ∧ Below w.heap.size w w')) (CN : Hid (∀ w, Mds w → Calls Tryz.prog 20 #[.agg ((A.map fun z => Value.int .u8 z).toArray)] w fun e w' => e = .returned (.agg #[.int .u64 (l0 dg), .int .u64 (l1 dg), .int .u64 (l2 dg), .int .u64 (l3 dg)]) ∧ Below w.heap.size w w')) (CG : Hid (∀ w, Mds w → Cols w → Calls Tryz.prog 10 #[.agg #[.int .u64 (l0 non), .int .u64 (l1 non), .int .u64 (l2 non), .int .u64 (l3 non)]] w fun e w' => e = .returned (.agg #[.int .u64 (l0 X), .int .u64 (l1 X), .int .u64 (l2 X), .int .u64 (l3 X), .int .u64 (l0 Y), .int .u64 (l1 Y), .int .u64 (l2 Y), .int .u64 (l3 Y), .bool j]) ∧ Below w.heap.size w w')) (CT : Hid (∀ w, Mds w → Calls Tryz.prog 21 #[.agg #[.int .u64 (l0 key), .int .u64 (l1 key), .int .u64 (l2 key), .int .u64 (l3 key)], .agg #[.int .u64 (l0 non), .int .u64 (l1 non), .int .u64 (l2 non), .int .u64 (l3 non)], .agg #[.int .u64 (l0 dg), .int .u64 (l1 dg), .int .u64 (l2 dg), .int .u64 (l3 dg)], .agg #[.int .u64 (l0 X), .int .u64 (l1 X), .int .u64 (l2 X), .int .u64 (l3 X), .int .u64 (l0 Y), .int .u64 (l1 Y), .int .u64 (l2 Y), .int .u64 (l3 Y), .bool j]] w fun e w' => e = .returned (.tuple #[.agg #[.int .u64 (l0 0), .int .u64 (l1 0), .int .u64 (l2 0), .int .u64 (l3 0), .int .u64 (l0 0), .int .u64 (l1 0), .int .u64 (l2 0), .int .u64 (l3 0), .bool false], .int .i64 e0]) ∧ Below w.heap.size w w')) (he : e0 ≠ 0) (w : World) (hm : Mds w) (hc : Cols w) :
    Calls Tryz.prog 8 #[.agg #[.int .u64 (l0 key), .int .u64 (l1 key), .int .u64 (l2 key), .int .u64 (l3 key)], .agg #[.int .u64 (l0 non), .int .u64 (l1 non), .int .u64 (l2 non), .int .u64 (l3 non)], hashV A] w fun e w' => e = .returned (.tuple #[.agg #[.int .u64 (l0 0), .int .u64 (l1 0), .int .u64 (l2 0), .int .u64 (l3 0), .int .u64 (l0 0), .int .u64 (l1 0), .int .u64 (l2 0), .int .u64 (l3 0), .bool false], .int .i64 e0]) ∧ Below w.heap.size w w' := by
  unfold hashV at *
  go_enter Tryz.func8, Tryz.ntmps8
  go_wp2_with fail
  refine calls_world (fun W => Below w.heap.size w W ∧ Mds W ∧ Cols W ∧ Nm W w.heap.size key ∧ Nm W (w.heap.size + 1) non ∧ HAt W (w.heap.size + 1 + 1) A ∧ Bk9 W (w.heap.size + 1 + 1 + 1)) ⟨by repeat (first | with_reducible exact Below.refl _ _ | with_reducible refine Below.alloc ?_ (by first | omega | (simp; done) | (simp; omega)) _), (((hm.alloc _).alloc _).alloc _).alloc _, (((Cols.alloc hc _).alloc _).alloc _).alloc _, ((Nm.alloc (Cl.new _ rfl rfl) _).alloc _).alloc _, (Nm.alloc (Cl.new _ (by simp) rfl) _).alloc _, (HAt.new hl (by simp)).alloc _, Bk9.new (by simp)⟩ ?_
  rintro W ⟨B, hD, hO, hK, hE, hY, hR⟩
  have o3 : w.heap.size ≤ w.heap.size + 1 + 1 + 1 := by omega
  generalize w.heap.size + 1 + 1 + 1 = br at *
  generalize w.heap.size + 1 + 1 = bd at *
  generalize w.heap.size + 1 = bn at *
  with_reducible refine (C0.out _ hD).mono ?_
  rintro e w1 ⟨rfl, hb⟩
  replace B := B.trans (hb.mono B.size)
  replace hD := hD.keep hb; replace hO := hO.keep hb; replace hK := hK.keep hb; replace hE := hE.keep hb; replace hY := hY.keep hb; replace hR := hR.keep hb
  clear hb W
  have ghE := hE.cells
  go_wp2_with fail
  refine calls_world (fun W => Below w.heap.size w W ∧ Mds W ∧ Cols W ∧ Nm W w.heap.size key ∧ Nm W bn non ∧ HAt W bd A ∧ Bk9 W br) ⟨B, hD, hO, hK, hE, hY, hR⟩ ?_
  clear B hD hO hK hE hY hR ghE
  rintro W ⟨B, hD, hO, hK, hE, hY, hR⟩
  with_reducible refine (C1.out _ hD).mono ?_
  rintro e w2 ⟨rfl, hb⟩
  replace B := B.trans (hb.mono B.size)
  replace hD := hD.keep hb; replace hO := hO.keep hb; replace hK := hK.keep hb; replace hE := hE.keep hb; replace hY := hY.keep hb; replace hR := hR.keep hb
  clear hb W
  go_wp2_with fail
  refine wp_world (fun W => Below w.heap.size w W ∧ Mds W ∧ Cols W ∧ Nm W w.heap.size key ∧ Nm W bn non ∧ HAt W bd A ∧ Bk9 W br) ⟨B, hD, hO, hK, hE, hY, hR⟩ ?_
  clear B hD hO hK hE hY hR 
  rintro W ⟨B, hD, hO, hK, hE, hY, hR⟩
  refine put_tail (A := ?AA1) 10 (fun V kk => put9 V kk 0 0 false) (by kernel_rfl) (by kernel_rfl) rfl rfl rfl (alloc_sg _ _ _) (fun V V0 h0 h1 => below_put9 (alloc_below h0 h1) h0.size) (fun V hV => ?HH1) (fun V V0 h0 h1 => ?EE1) (fun V0 V w1 h0 h1 h2 => ?TT1)
  case HH1 =>
    have hDg : ∀ d os, Mds (grow (redrawn V d) os) := fun d os => (hD.keep hV).keep (below_regrown V d os)
    have hOg : ∀ d os, Cols (grow (redrawn V d) os) := fun d os => (hO.keep hV).keep (below_regrown V d os)
    have ghK := (hK.keep hV).grown
    have ghE := (hE.keep hV).grown
    have ldY : ∀ w', (∃ p : Regrown, w' = grow (redrawn V p.d) p.os) → w'.rangeAt bd 0 (A.map fun z => Value.int .u8 z) := by rintro w' ⟨p, rfl⟩; exact ((hY.keep hV).keep (below_regrown V p.d p.os)).2
    have hl32 := hY.1
    unfold Gr
    simp only [List.take_succ_cons, List.take_zero]
    repeat
      first
        | go_big_quiet_skip
        | (go_big_quiet_want; go_big_quiet_op; go_big_quiet_on)
        | (go_big_quiet_want; refine quiet_load_mid 26 _ rfl bd 0 rfl (A.map fun z => Value.int .u8 z) _ ldY Tryz.underlying26 rfl (by rw [List.length_map, hl32]; kernel_rfl) ?_; simp only [Act.put, List.setIfInBounds_toArray, List.set_cons_succ, List.set_cons_zero]; go_big_quiet_on)
        | (go_big_quiet_want
           go_big_quiet_op
           apply Exists.intro
           refine ⟨fun p => ?_, ?_⟩
           · (first | (go_at_call 20; with_reducible exact Calls.regrown_of (CN.out _ (hDg p.d p.os))) | (go_at_call 10; with_reducible exact Calls.regrown_of (CG.out _ (hDg p.d p.os) (hOg p.d p.os))) | (go_at_call 21; with_reducible exact Calls.regrown_of (CT.out _ (hDg p.d p.os))))
           go_big_quiet_on)
    refine wpQuiet_nil ?_
    exact rfl
  case EE1 =>
    obtain ⟨c0, c1, c2, c3, c4, c5, c6, c7, c8⟩ := ((Bk9.new rfl).keep h1).cells
    obtain ⟨f0, f1, f2, f3, f4, f5, f6, f7, f8⟩ := ((Bk9.new rfl).keep h1).free
    unfold put9
    simp [execOp, Act.put, Act.eval, go_sem, c0, c1, c2, c3, c4, c5, c6, c7, c8, f0, f1, f2, f3, f4, f5, f6, f7, f8]
  case TT1 =>
    have hN := (((Bk9.new rfl).keep h1).put9 0 0 false).keep h2
    have hb := alloc_below h0 h1
    have nhD : V0.heap.size ≠ 1 := Nat.ne_of_gt (Nat.lt_of_lt_of_le hD.lt h0.size)
    have nhO : V0.heap.size ≠ 0 := Nat.ne_of_gt (Nat.lt_of_lt_of_le hO.lt h0.size)
    have nhK : V0.heap.size ≠ w.heap.size := Nat.ne_of_gt (Nat.lt_of_lt_of_le hK.lt h0.size)
    have nhE : V0.heap.size ≠ bn := Nat.ne_of_gt (Nat.lt_of_lt_of_le hE.lt h0.size)
    have nhY : V0.heap.size ≠ bd := Nat.ne_of_gt (Nat.lt_of_lt_of_le hY.lt h0.size)
    have nhR : V0.heap.size ≠ br := Nat.ne_of_gt (Nat.lt_of_lt_of_le hR.lt h0.size)
    have gn : w.heap.size ≤ V0.heap.size := Nat.le_trans B.size h0.size
    have B1 := below_put9 (x' := 0) (y' := 0) (j := false) (B.trans (hb.mono B.size)) gn
    replace B := B1.trans (h2.mono B1.size)
    replace hD := ((hD.keep hb).put9 nhD).keep h2
    replace hO := ((hO.keep hb).put9 nhO).keep h2
    replace hK := ((hK.keep hb).put9 nhK).keep h2
    replace hE := ((hE.keep hb).put9 nhE).keep h2
    replace hY := ((hY.keep hb).put9 nhY).keep h2
    replace hR := ((hR.keep hb).put9b nhR).keep h2
    clear hb h0 h1 h2 B1 W gn nhD nhO nhK nhE nhY nhR
    generalize V0.heap.size = bs at *
    clear V V0
    simp only [List.drop_succ_cons, List.drop_zero, Act.put, List.setIfInBounds_toArray, List.set_cons_zero, List.set_cons_succ]
    have gR := hR.cells; have fR := hR.free
    go_wp2
    simp [bodyPost, results, Tryz.results8, go_sem, gR]
    refine ⟨by decide, ?_⟩
    repeat (first | with_reducible exact B | with_reducible refine Below.setCell ?_ o3 _)

set_option maxRecDepth 100000 in
set_option maxHeartbeats 8000000 in
theorem esw_ok {key non dg X Y r s r' s' : Int} {j od od' : Bool} {A : List Int} (hl : A.length = 32) (C0 : Hid (∀ w, Mds w → Calls Tryz.prog 13 #[.agg #[.int .u64 (l0 key), .int .u64 (l1 key), .int .u64 (l2 key), .int .u64 (l3 key)]] w fun e w' => e = .returned (.bool true) ∧ Below w.heap.size w w')) (C1 : Hid (∀ w, Mds w → Calls Tryz.prog 13 #[.agg #[.int .u64 (l0 non), .int .u64 (l1 non), .int .u64 (l2 non), .int .u64 (l3 non)]] w fun e w' => e = .returned (.bool true) ∧ Below w.heap.size w w')) (CN : Hid (∀ w, Mds w → Calls Tryz.prog 20 #[.agg ((A.map fun z => Value.int .u8 z).toArray)] w fun e w' => e = .returned (.agg #[.int .u64 (l0 dg), .int .u64 (l1 dg), .int .u64 (l2 dg), .int .u64 (l3 dg)]) ∧ Below w.heap.size w w')) (CG : Hid (∀ w, Mds w → Cols w → Calls Tryz.prog 10 #[.agg #[.int .u64 (l0 non), .int .u64 (l1 non), .int .u64 (l2 non), .int .u64 (l3 non)]] w fun e w' => e = .returned (.agg #[.int .u64 (l0 X), .int .u64 (l1 X), .int .u64 (l2 X), .int .u64 (l3 X), .int .u64 (l0 Y), .int .u64 (l1 Y), .int .u64 (l2 Y), .int .u64 (l3 Y), .bool j]) ∧ Below w.heap.size w w')) (CT : Hid (∀ w, Mds w → Calls Tryz.prog 21 #[.agg #[.int .u64 (l0 key), .int .u64 (l1 key), .int .u64 (l2 key), .int .u64 (l3 key)], .agg #[.int .u64 (l0 non), .int .u64 (l1 non), .int .u64 (l2 non), .int .u64 (l3 non)], .agg #[.int .u64 (l0 dg), .int .u64 (l1 dg), .int .u64 (l2 dg), .int .u64 (l3 dg)], .agg #[.int .u64 (l0 X), .int .u64 (l1 X), .int .u64 (l2 X), .int .u64 (l3 X), .int .u64 (l0 Y), .int .u64 (l1 Y), .int .u64 (l2 Y), .int .u64 (l3 Y), .bool j]] w fun e w' => e = .returned (.tuple #[.agg #[.int .u64 (l0 r), .int .u64 (l1 r), .int .u64 (l2 r), .int .u64 (l3 r), .int .u64 (l0 s), .int .u64 (l1 s), .int .u64 (l2 s), .int .u64 (l3 s), .bool od], .int .i64 0]) ∧ Below w.heap.size w w')) (CL : Hid (∀ w, Mds w → Calls Tryz.prog 22 #[.agg #[.int .u64 (l0 r), .int .u64 (l1 r), .int .u64 (l2 r), .int .u64 (l3 r), .int .u64 (l0 s), .int .u64 (l1 s), .int .u64 (l2 s), .int .u64 (l3 s), .bool od]] w fun e w' => e = .returned (.agg #[.int .u64 (l0 r'), .int .u64 (l1 r'), .int .u64 (l2 r'), .int .u64 (l3 r'), .int .u64 (l0 s'), .int .u64 (l1 s'), .int .u64 (l2 s'), .int .u64 (l3 s'), .bool od']) ∧ Below w.heap.size w w')) (w : World) (hm : Mds w) (hc : Cols w) :
    Calls Tryz.prog 8 #[.agg #[.int .u64 (l0 key), .int .u64 (l1 key), .int .u64 (l2 key), .int .u64 (l3 key)], .agg #[.int .u64 (l0 non), .int .u64 (l1 non), .int .u64 (l2 non), .int .u64 (l3 non)], hashV A] w fun e w' => e = .returned (.tuple #[.agg #[.int .u64 (l0 r'), .int .u64 (l1 r'), .int .u64 (l2 r'), .int .u64 (l3 r'), .int .u64 (l0 s'), .int .u64 (l1 s'), .int .u64 (l2 s'), .int .u64 (l3 s'), .bool od'], .int .i64 0]) ∧ Below w.heap.size w w' := by
  unfold hashV at *
  go_enter Tryz.func8, Tryz.ntmps8
  go_wp2_with fail
  refine calls_world (fun W => Below w.heap.size w W ∧ Mds W ∧ Cols W ∧ Nm W w.heap.size key ∧ Nm W (w.heap.size + 1) non ∧ HAt W (w.heap.size + 1 + 1) A ∧ Bk9 W (w.heap.size + 1 + 1 + 1)) ⟨by repeat (first | with_reducible exact Below.refl _ _ | with_reducible refine Below.alloc ?_ (by first | omega | (simp; done) | (simp; omega)) _), (((hm.alloc _).alloc _).alloc _).alloc _, (((Cols.alloc hc _).alloc _).alloc _).alloc _, ((Nm.alloc (Cl.new _ rfl rfl) _).alloc _).alloc _, (Nm.alloc (Cl.new _ (by simp) rfl) _).alloc _, (HAt.new hl (by simp)).alloc _, Bk9.new (by simp)⟩ ?_
  rintro W ⟨B, hD, hO, hK, hE, hY, hR⟩
  have o3 : w.heap.size ≤ w.heap.size + 1 + 1 + 1 := by omega
  generalize w.heap.size + 1 + 1 + 1 = br at *
  generalize w.heap.size + 1 + 1 = bd at *
  generalize w.heap.size + 1 = bn at *
  with_reducible refine (C0.out _ hD).mono ?_
  rintro e w1 ⟨rfl, hb⟩
  replace B := B.trans (hb.mono B.size)
  replace hD := hD.keep hb; replace hO := hO.keep hb; replace hK := hK.keep hb; replace hE := hE.keep hb; replace hY := hY.keep hb; replace hR := hR.keep hb
  clear hb W
  have ghE := hE.cells
  go_wp2_with fail
  refine calls_world (fun W => Below w.heap.size w W ∧ Mds W ∧ Cols W ∧ Nm W w.heap.size key ∧ Nm W bn non ∧ HAt W bd A ∧ Bk9 W br) ⟨B, hD, hO, hK, hE, hY, hR⟩ ?_
  clear B hD hO hK hE hY hR ghE
  rintro W ⟨B, hD, hO, hK, hE, hY, hR⟩
  with_reducible refine (C1.out _ hD).mono ?_
  rintro e w2 ⟨rfl, hb⟩
  replace B := B.trans (hb.mono B.size)
  replace hD := hD.keep hb; replace hO := hO.keep hb; replace hK := hK.keep hb; replace hE := hE.keep hb; replace hY := hY.keep hb; replace hR := hR.keep hb
  clear hb W
  go_wp2_with fail
  refine wp_world (fun W => Below w.heap.size w W ∧ Mds W ∧ Cols W ∧ Nm W w.heap.size key ∧ Nm W bn non ∧ HAt W bd A ∧ Bk9 W br) ⟨B, hD, hO, hK, hE, hY, hR⟩ ?_
  clear B hD hO hK hE hY hR 
  rintro W ⟨B, hD, hO, hK, hE, hY, hR⟩
  refine put_tail (A := ?AA1) 10 (fun V kk => put9 V kk r s od) (by kernel_rfl) (by kernel_rfl) rfl rfl rfl (alloc_sg _ _ _) (fun V V0 h0 h1 => below_put9 (alloc_below h0 h1) h0.size) (fun V hV => ?HH1) (fun V V0 h0 h1 => ?EE1) (fun V0 V w1 h0 h1 h2 => ?TT1)
  case HH1 =>
    have hDg : ∀ d os, Mds (grow (redrawn V d) os) := fun d os => (hD.keep hV).keep (below_regrown V d os)
    have hOg : ∀ d os, Cols (grow (redrawn V d) os) := fun d os => (hO.keep hV).keep (below_regrown V d os)
    have ghK := (hK.keep hV).grown
    have ghE := (hE.keep hV).grown
    have ldY : ∀ w', (∃ p : Regrown, w' = grow (redrawn V p.d) p.os) → w'.rangeAt bd 0 (A.map fun z => Value.int .u8 z) := by rintro w' ⟨p, rfl⟩; exact ((hY.keep hV).keep (below_regrown V p.d p.os)).2
    have hl32 := hY.1
    unfold Gr
    simp only [List.take_succ_cons, List.take_zero]
    repeat
      first
        | go_big_quiet_skip
        | (go_big_quiet_want; go_big_quiet_op; go_big_quiet_on)
        | (go_big_quiet_want; refine quiet_load_mid 26 _ rfl bd 0 rfl (A.map fun z => Value.int .u8 z) _ ldY Tryz.underlying26 rfl (by rw [List.length_map, hl32]; kernel_rfl) ?_; simp only [Act.put, List.setIfInBounds_toArray, List.set_cons_succ, List.set_cons_zero]; go_big_quiet_on)
        | (go_big_quiet_want
           go_big_quiet_op
           apply Exists.intro
           refine ⟨fun p => ?_, ?_⟩
           · (first | (go_at_call 20; with_reducible exact Calls.regrown_of (CN.out _ (hDg p.d p.os))) | (go_at_call 10; with_reducible exact Calls.regrown_of (CG.out _ (hDg p.d p.os) (hOg p.d p.os))) | (go_at_call 21; with_reducible exact Calls.regrown_of (CT.out _ (hDg p.d p.os))))
           go_big_quiet_on)
    refine wpQuiet_nil ?_
    exact rfl
  case EE1 =>
    obtain ⟨c0, c1, c2, c3, c4, c5, c6, c7, c8⟩ := ((Bk9.new rfl).keep h1).cells
    obtain ⟨f0, f1, f2, f3, f4, f5, f6, f7, f8⟩ := ((Bk9.new rfl).keep h1).free
    unfold put9
    simp [execOp, Act.put, Act.eval, go_sem, c0, c1, c2, c3, c4, c5, c6, c7, c8, f0, f1, f2, f3, f4, f5, f6, f7, f8]
  case TT1 =>
    have hN := (((Bk9.new rfl).keep h1).put9 r s od).keep h2
    have hb := alloc_below h0 h1
    have nhD : V0.heap.size ≠ 1 := Nat.ne_of_gt (Nat.lt_of_lt_of_le hD.lt h0.size)
    have nhO : V0.heap.size ≠ 0 := Nat.ne_of_gt (Nat.lt_of_lt_of_le hO.lt h0.size)
    have nhK : V0.heap.size ≠ w.heap.size := Nat.ne_of_gt (Nat.lt_of_lt_of_le hK.lt h0.size)
    have nhE : V0.heap.size ≠ bn := Nat.ne_of_gt (Nat.lt_of_lt_of_le hE.lt h0.size)
    have nhY : V0.heap.size ≠ bd := Nat.ne_of_gt (Nat.lt_of_lt_of_le hY.lt h0.size)
    have nhR : V0.heap.size ≠ br := Nat.ne_of_gt (Nat.lt_of_lt_of_le hR.lt h0.size)
    have gn : w.heap.size ≤ V0.heap.size := Nat.le_trans B.size h0.size
    have B1 := below_put9 (x' := r) (y' := s) (j := od) (B.trans (hb.mono B.size)) gn
    replace B := B1.trans (h2.mono B1.size)
    replace hD := ((hD.keep hb).put9 nhD).keep h2
    replace hO := ((hO.keep hb).put9 nhO).keep h2
    replace hK := ((hK.keep hb).put9 nhK).keep h2
    replace hE := ((hE.keep hb).put9 nhE).keep h2
    replace hY := ((hY.keep hb).put9 nhY).keep h2
    replace hR := ((hR.keep hb).put9b nhR).keep h2
    clear hb h0 h1 h2 B1 W gn nhD nhO nhK nhE nhY nhR
    generalize V0.heap.size = bs at *
    clear V V0
    have gN := hN.cells
    simp only [List.drop_succ_cons, List.drop_zero, Act.put, List.setIfInBounds_toArray, List.set_cons_zero, List.set_cons_succ]
    go_wp2_with fail
    refine calls_world (fun W => Below w.heap.size w W ∧ Mds W ∧ Cols W ∧ Nm W w.heap.size key ∧ Nm W bn non ∧ HAt W bd A ∧ Bk9 W br ∧ Pnt W bs r s od) ⟨B, hD, hO, hK, hE, hY, hR, hN⟩ ?_
    clear B hN gN hD hO hK hE hY hR 
    rintro W ⟨B, hD, hO, hK, hE, hY, hR, hS⟩
    clear w1
    with_reducible refine (CL.out _ hD).mono ?_
    rintro e w9 ⟨rfl, hb⟩
    replace B := B.trans (hb.mono B.size)
    replace hD := hD.keep hb; replace hO := hO.keep hb; replace hK := hK.keep hb; replace hE := hE.keep hb; replace hY := hY.keep hb; replace hR := hR.keep hb; replace hS := hS.keep hb
    clear hb W hD hO hK hE hY hS
    have gR := hR.cells; have fR := hR.free
    go_wp2
    simp [bodyPost, results, Tryz.results8, go_sem, gR]
    repeat (first | with_reducible exact B | with_reducible refine Below.setCell ?_ o3 _)

/-- The textbook's s. -/
def swS (key non dg X : Int) : Int := modN nN (modN nN (dg + modN nN (X * key)) * invN nN non)
end Go.Proofs.YtncpjgpioajbeaaGreatDoor

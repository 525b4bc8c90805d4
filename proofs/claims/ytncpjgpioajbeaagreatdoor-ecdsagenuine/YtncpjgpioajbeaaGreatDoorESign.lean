import Derived.Test.YtncpjgpioajbeaaGreatDoorEMod
import Derived.Test.YtncpjgpioajbeaaGreatDoorQAlloc
import Derived.Test.YtncpjgpioajbeaaGreatDoorCPt
namespace Go.Proofs.YtncpjgpioajbeaaGreatDoor
open Go.RowKit Go.Sort

set_option maxRecDepth 100000 in
set_option maxHeartbeats 8000000 in
theorem etext_x {key non dig x y : Int} {i : Bool} (C0 : Hid (∀ w, Mds w → Calls Tryz.prog 35 #[.agg #[.int .u64 (l0 x), .int .u64 (l1 x), .int .u64 (l2 x), .int .u64 (l3 x)]] w fun e w' => e = .returned (.bool false) ∧ Below w.heap.size w w')) (w : World) (hm : Mds w) :
    Calls Tryz.prog 21 #[.agg #[.int .u64 (l0 key), .int .u64 (l1 key), .int .u64 (l2 key), .int .u64 (l3 key)], .agg #[.int .u64 (l0 non), .int .u64 (l1 non), .int .u64 (l2 non), .int .u64 (l3 non)], .agg #[.int .u64 (l0 dig), .int .u64 (l1 dig), .int .u64 (l2 dig), .int .u64 (l3 dig)], .agg #[.int .u64 (l0 x), .int .u64 (l1 x), .int .u64 (l2 x), .int .u64 (l3 x), .int .u64 (l0 y), .int .u64 (l1 y), .int .u64 (l2 y), .int .u64 (l3 y), .bool i]] w fun e w' => e = .returned (.tuple #[.agg #[.int .u64 (l0 0), .int .u64 (l1 0), .int .u64 (l2 0), .int .u64 (l3 0), .int .u64 (l0 0), .int .u64 (l1 0), .int .u64 (l2 0), .int .u64 (l3 0), .bool false], .int .i64 64]) ∧ Below w.heap.size w w' := by
  obtain ⟨z0, z1, z2, z3⟩ := zero_limbs
  rw [z0, z1, z2, z3]
  clear z0 z1 z2 z3
  go_enter Tryz.func21, Tryz.ntmps21
  go_wp2_with fail
  refine calls_world (fun W => Below w.heap.size w W ∧ Mds W ∧ Hold W w.heap.size key ∧ Hold W (w.heap.size + 1) non ∧ Hold W (w.heap.size + 1 + 1) dig ∧ Pnt W (w.heap.size + 1 + 1 + 1) x y i ∧ Bk9 W (w.heap.size + 1 + 1 + 1 + 1)) ⟨by repeat (first | with_reducible exact Below.refl _ _ | with_reducible refine Below.alloc ?_ (by first | omega | (simp; done) | (simp; omega)) _), ((((hm.alloc _).alloc _).alloc _).alloc _).alloc _, ((((Hold.new _ _ _).alloc _).alloc _).alloc _).alloc _, (((Hold.fresh (by simp)).alloc _).alloc _).alloc _, ((Hold.fresh (by simp)).alloc _).alloc _, (Pnt.new (by simp)).alloc _, Bk9.new (by simp)⟩ ?_
  rintro W ⟨B, hD, hK, hE, hG, hP, hR⟩
  have o3 : w.heap.size ≤ w.heap.size + 1 + 1 + 1 + 1 := by omega
  generalize w.heap.size + 1 + 1 + 1 + 1 = br at *
  generalize w.heap.size + 1 + 1 + 1 = bp at *
  generalize w.heap.size + 1 + 1 = bg at *
  generalize w.heap.size + 1 = bn at *
  with_reducible refine (C0.out _ hD).mono ?_
  rintro e w9 ⟨rfl, hb⟩
  replace B := B.trans (hb.mono B.size)
  replace hD := hD.keep hb; replace hK := hK.keep hb; replace hE := hE.keep hb; replace hG := hG.keep hb; replace hP := hP.keep hb; replace hR := hR.keep hb
  clear hb W hD hK hE hG hP
  have gR := hR.cells; have fR := hR.free
  go_wp2
  simp [bodyPost, results, Tryz.results21, go_sem, gR]
  repeat (first | with_reducible exact B | with_reducible refine Below.setCell ?_ o3 _)

set_option maxRecDepth 100000 in
set_option maxHeartbeats 8000000 in
theorem etext_z1 {key non dig x y a b v s : Int} {i : Bool} (C0 : Hid (∀ w, Mds w → Calls Tryz.prog 35 #[.agg #[.int .u64 (l0 x), .int .u64 (l1 x), .int .u64 (l2 x), .int .u64 (l3 x)]] w fun e w' => e = .returned (.bool true) ∧ Below w.heap.size w w')) (A1 : Hid (∀ w, Mds w → Calls Tryz.prog 27 #[.agg #[.int .u64 (l0 x), .int .u64 (l1 x), .int .u64 (l2 x), .int .u64 (l3 x)], .agg #[.int .u64 (l0 key), .int .u64 (l1 key), .int .u64 (l2 key), .int .u64 (l3 key)]] w fun e w' => e = .returned (.agg #[.int .u64 (l0 a), .int .u64 (l1 a), .int .u64 (l2 a), .int .u64 (l3 a)]) ∧ Below w.heap.size w w')) (A2 : Hid (∀ w, Mds w → Calls Tryz.prog 44 #[.agg #[.int .u64 (l0 dig), .int .u64 (l1 dig), .int .u64 (l2 dig), .int .u64 (l3 dig)], .agg #[.int .u64 (l0 a), .int .u64 (l1 a), .int .u64 (l2 a), .int .u64 (l3 a)]] w fun e w' => e = .returned (.agg #[.int .u64 (l0 b), .int .u64 (l1 b), .int .u64 (l2 b), .int .u64 (l3 b)]) ∧ Below w.heap.size w w')) (A3 : Hid (∀ w, Mds w → Calls Tryz.prog 25 #[.agg #[.int .u64 (l0 non), .int .u64 (l1 non), .int .u64 (l2 non), .int .u64 (l3 non)]] w fun e w' => e = .returned (.agg #[.int .u64 (l0 v), .int .u64 (l1 v), .int .u64 (l2 v), .int .u64 (l3 v)]) ∧ Below w.heap.size w w')) (A4 : Hid (∀ w, Mds w → Calls Tryz.prog 27 #[.agg #[.int .u64 (l0 b), .int .u64 (l1 b), .int .u64 (l2 b), .int .u64 (l3 b)], .agg #[.int .u64 (l0 v), .int .u64 (l1 v), .int .u64 (l2 v), .int .u64 (l3 v)]] w fun e w' => e = .returned (.agg #[.int .u64 (l0 s), .int .u64 (l1 s), .int .u64 (l2 s), .int .u64 (l3 s)]) ∧ Below w.heap.size w w')) (Z1 : Hid (∀ w, Calls Tryz.prog 34 #[.agg #[.int .u64 (l0 x), .int .u64 (l1 x), .int .u64 (l2 x), .int .u64 (l3 x)]] w fun e w' => e = .returned (.bool true) ∧ Below w.heap.size w w')) (w : World) (hm : Mds w) :
    Calls Tryz.prog 21 #[.agg #[.int .u64 (l0 key), .int .u64 (l1 key), .int .u64 (l2 key), .int .u64 (l3 key)], .agg #[.int .u64 (l0 non), .int .u64 (l1 non), .int .u64 (l2 non), .int .u64 (l3 non)], .agg #[.int .u64 (l0 dig), .int .u64 (l1 dig), .int .u64 (l2 dig), .int .u64 (l3 dig)], .agg #[.int .u64 (l0 x), .int .u64 (l1 x), .int .u64 (l2 x), .int .u64 (l3 x), .int .u64 (l0 y), .int .u64 (l1 y), .int .u64 (l2 y), .int .u64 (l3 y), .bool i]] w fun e w' => e = .returned (.tuple #[.agg #[.int .u64 (l0 0), .int .u64 (l1 0), .int .u64 (l2 0), .int .u64 (l3 0), .int .u64 (l0 0), .int .u64 (l1 0), .int .u64 (l2 0), .int .u64 (l3 0), .bool false], .int .i64 65]) ∧ Below w.heap.size w w' := by
  obtain ⟨z0, z1, z2, z3⟩ := zero_limbs
  rw [z0, z1, z2, z3]
  clear z0 z1 z2 z3
  go_enter Tryz.func21, Tryz.ntmps21
  go_wp2_with fail
  refine calls_world (fun W => Below w.heap.size w W ∧ Mds W ∧ Hold W w.heap.size key ∧ Hold W (w.heap.size + 1) non ∧ Hold W (w.heap.size + 1 + 1) dig ∧ Pnt W (w.heap.size + 1 + 1 + 1) x y i ∧ Bk9 W (w.heap.size + 1 + 1 + 1 + 1)) ⟨by repeat (first | with_reducible exact Below.refl _ _ | with_reducible refine Below.alloc ?_ (by first | omega | (simp; done) | (simp; omega)) _), ((((hm.alloc _).alloc _).alloc _).alloc _).alloc _, ((((Hold.new _ _ _).alloc _).alloc _).alloc _).alloc _, (((Hold.fresh (by simp)).alloc _).alloc _).alloc _, ((Hold.fresh (by simp)).alloc _).alloc _, (Pnt.new (by simp)).alloc _, Bk9.new (by simp)⟩ ?_
  rintro W ⟨B, hD, hK, hE, hG, hP, hR⟩
  have o3 : w.heap.size ≤ w.heap.size + 1 + 1 + 1 + 1 := by omega
  generalize w.heap.size + 1 + 1 + 1 + 1 = br at *
  generalize w.heap.size + 1 + 1 + 1 = bp at *
  generalize w.heap.size + 1 + 1 = bg at *
  generalize w.heap.size + 1 = bn at *
  with_reducible refine (C0.out _ hD).mono ?_
  rintro e w1 ⟨rfl, hb⟩
  replace B := B.trans (hb.mono B.size)
  replace hD := hD.keep hb; replace hK := hK.keep hb; replace hE := hE.keep hb; replace hG := hG.keep hb; replace hP := hP.keep hb; replace hR := hR.keep hb
  clear hb W
  go_wp2_with fail
  refine wp_world (fun W => Below w.heap.size w W ∧ Mds W ∧ Hold W w.heap.size key ∧ Hold W bn non ∧ Hold W bg dig ∧ Pnt W bp x y i ∧ Bk9 W br) ⟨B, hD, hK, hE, hG, hP, hR⟩ ?_
  clear B hD hK hE hG hP hR 
  rintro W ⟨B, hD, hK, hE, hG, hP, hR⟩
  refine alloc_tail (A := ?AA1) 9 (by kernel_rfl) (by kernel_rfl) rfl rfl (alloc_num _ _ _) (fun V hV => ?HH1) (fun V w1 hV hw => ?TT1)
  case HH1 =>
    have hDg : ∀ d os, Mds (grow (redrawn V d) os) := fun d os => (hD.keep hV).keep (below_regrown V d os)
    have ghK := (hK.keep hV).grown
    have ghE := (hE.keep hV).grown
    have ghG := (hG.keep hV).grown
    have ghP := (hP.keep hV).grown
    unfold Gr
    simp only [List.take_succ_cons, List.take_zero]
    repeat
      first
        | go_big_quiet_skip
        | (go_big_quiet_want; go_big_quiet_op; go_big_quiet_on)
        | (go_big_quiet_want
           go_big_quiet_op
           apply Exists.intro
           refine ⟨fun p => ?_, ?_⟩
           · (first | (go_at_call 27; with_reducible exact Calls.regrown_of (A1.out _ (hDg p.d p.os))) | (go_at_call 44; with_reducible exact Calls.regrown_of (A2.out _ (hDg p.d p.os))) | (go_at_call 25; with_reducible exact Calls.regrown_of (A3.out _ (hDg p.d p.os))) | (go_at_call 27; with_reducible exact Calls.regrown_of (A4.out _ (hDg p.d p.os))))
           go_big_quiet_on)
    refine wpQuiet_nil ?_
    exact rfl
  case TT1 =>
    have hb := alloc_below hV hw
    have hN := (Blank.new rfl).keep hw
    have nhD : V.heap.size ≠ 1 := Nat.ne_of_gt (Nat.lt_of_lt_of_le (hD.lt) hV.size)
    have nhK : V.heap.size ≠ w.heap.size := Nat.ne_of_gt (Nat.lt_of_lt_of_le (World.block_lt_of_cell? _ _ hK.1) hV.size)
    have nhE : V.heap.size ≠ bn := Nat.ne_of_gt (Nat.lt_of_lt_of_le (World.block_lt_of_cell? _ _ hE.1) hV.size)
    have nhG : V.heap.size ≠ bg := Nat.ne_of_gt (Nat.lt_of_lt_of_le (World.block_lt_of_cell? _ _ hG.1) hV.size)
    have nhP : V.heap.size ≠ bp := Nat.ne_of_gt (Nat.lt_of_lt_of_le (hP.lt) hV.size)
    have nhR : V.heap.size ≠ br := Nat.ne_of_gt (Nat.lt_of_lt_of_le (hR.lt) hV.size)
    have gn : w.heap.size ≤ V.heap.size := Nat.le_trans B.size hV.size
    replace B := B.trans (hb.mono B.size)
    replace hD := hD.keep hb; replace hK := hK.keep hb; replace hE := hE.keep hb; replace hG := hG.keep hb; replace hP := hP.keep hb; replace hR := hR.keep hb
    clear hb hw hV W
    generalize V.heap.size = bs at *
    clear V
    have gN := hN.1.all4; have qN := hN.2.all4
    have ghP := hP.cells
    have mhD := nhD.symm
    have mhK := nhK.symm
    have mhE := nhE.symm
    have mhG := nhG.symm
    have mhP := nhP.symm
    have mhR := nhR.symm
    simp only [List.drop_succ_cons, List.drop_zero, Act.put, List.setIfInBounds_toArray, List.set_cons_zero, List.set_cons_succ]
    go_wp2_with fail
    refine calls_world (fun W => Below w.heap.size w W ∧ Mds W ∧ Hold W w.heap.size key ∧ Hold W bn non ∧ Hold W bg dig ∧ Pnt W bp x y i ∧ Bk9 W br ∧ Hold W bs s) ⟨below_set4 B gn _ _ _ _, hD.set4 nhD _ _ _ _, hK.set4 nhK _ _ _ _, hE.set4 nhE _ _ _ _, hG.set4 nhG _ _ _ _, hP.set4 nhP _ _ _ _, hR.set4 nhR _ _ _ _, Hold.sets4 (Blank.has hN)⟩ ?_
    clear B hN gN qN hD hK hE hG hP hR nhD mhD nhK mhK nhE mhE nhG mhG nhP mhP nhR mhR ghP gn
    rintro W ⟨B, hD, hK, hE, hG, hP, hR, hS⟩
    clear w1
    clear hK hE hG
    with_reducible refine (Z1.out _).mono ?_
    rintro e w9 ⟨rfl, hb⟩
    replace B := B.trans (hb.mono B.size)
    replace hD := hD.keep hb; replace hP := hP.keep hb; replace hR := hR.keep hb; replace hS := hS.keep hb
    clear hb W hD hP hS
    have gR := hR.cells; have fR := hR.free
    go_wp2
    simp [bodyPost, results, Tryz.results21, go_sem, gR]
    repeat (first | with_reducible exact B | with_reducible refine Below.setCell ?_ o3 _)

set_option maxRecDepth 100000 in
set_option maxHeartbeats 8000000 in
theorem etext_z2 {key non dig x y a b v s : Int} {i : Bool} (C0 : Hid (∀ w, Mds w → Calls Tryz.prog 35 #[.agg #[.int .u64 (l0 x), .int .u64 (l1 x), .int .u64 (l2 x), .int .u64 (l3 x)]] w fun e w' => e = .returned (.bool true) ∧ Below w.heap.size w w')) (A1 : Hid (∀ w, Mds w → Calls Tryz.prog 27 #[.agg #[.int .u64 (l0 x), .int .u64 (l1 x), .int .u64 (l2 x), .int .u64 (l3 x)], .agg #[.int .u64 (l0 key), .int .u64 (l1 key), .int .u64 (l2 key), .int .u64 (l3 key)]] w fun e w' => e = .returned (.agg #[.int .u64 (l0 a), .int .u64 (l1 a), .int .u64 (l2 a), .int .u64 (l3 a)]) ∧ Below w.heap.size w w')) (A2 : Hid (∀ w, Mds w → Calls Tryz.prog 44 #[.agg #[.int .u64 (l0 dig), .int .u64 (l1 dig), .int .u64 (l2 dig), .int .u64 (l3 dig)], .agg #[.int .u64 (l0 a), .int .u64 (l1 a), .int .u64 (l2 a), .int .u64 (l3 a)]] w fun e w' => e = .returned (.agg #[.int .u64 (l0 b), .int .u64 (l1 b), .int .u64 (l2 b), .int .u64 (l3 b)]) ∧ Below w.heap.size w w')) (A3 : Hid (∀ w, Mds w → Calls Tryz.prog 25 #[.agg #[.int .u64 (l0 non), .int .u64 (l1 non), .int .u64 (l2 non), .int .u64 (l3 non)]] w fun e w' => e = .returned (.agg #[.int .u64 (l0 v), .int .u64 (l1 v), .int .u64 (l2 v), .int .u64 (l3 v)]) ∧ Below w.heap.size w w')) (A4 : Hid (∀ w, Mds w → Calls Tryz.prog 27 #[.agg #[.int .u64 (l0 b), .int .u64 (l1 b), .int .u64 (l2 b), .int .u64 (l3 b)], .agg #[.int .u64 (l0 v), .int .u64 (l1 v), .int .u64 (l2 v), .int .u64 (l3 v)]] w fun e w' => e = .returned (.agg #[.int .u64 (l0 s), .int .u64 (l1 s), .int .u64 (l2 s), .int .u64 (l3 s)]) ∧ Below w.heap.size w w')) (Z1 : Hid (∀ w, Calls Tryz.prog 34 #[.agg #[.int .u64 (l0 x), .int .u64 (l1 x), .int .u64 (l2 x), .int .u64 (l3 x)]] w fun e w' => e = .returned (.bool false) ∧ Below w.heap.size w w')) (Z2 : Hid (∀ w, Calls Tryz.prog 34 #[.agg #[.int .u64 (l0 s), .int .u64 (l1 s), .int .u64 (l2 s), .int .u64 (l3 s)]] w fun e w' => e = .returned (.bool true) ∧ Below w.heap.size w w')) (w : World) (hm : Mds w) :
    Calls Tryz.prog 21 #[.agg #[.int .u64 (l0 key), .int .u64 (l1 key), .int .u64 (l2 key), .int .u64 (l3 key)], .agg #[.int .u64 (l0 non), .int .u64 (l1 non), .int .u64 (l2 non), .int .u64 (l3 non)], .agg #[.int .u64 (l0 dig), .int .u64 (l1 dig), .int .u64 (l2 dig), .int .u64 (l3 dig)], .agg #[.int .u64 (l0 x), .int .u64 (l1 x), .int .u64 (l2 x), .int .u64 (l3 x), .int .u64 (l0 y), .int .u64 (l1 y), .int .u64 (l2 y), .int .u64 (l3 y), .bool i]] w fun e w' => e = .returned (.tuple #[.agg #[.int .u64 (l0 0), .int .u64 (l1 0), .int .u64 (l2 0), .int .u64 (l3 0), .int .u64 (l0 0), .int .u64 (l1 0), .int .u64 (l2 0), .int .u64 (l3 0), .bool false], .int .i64 65]) ∧ Below w.heap.size w w' := by
  obtain ⟨z0, z1, z2, z3⟩ := zero_limbs
  rw [z0, z1, z2, z3]
  clear z0 z1 z2 z3
  go_enter Tryz.func21, Tryz.ntmps21
  go_wp2_with fail
  refine calls_world (fun W => Below w.heap.size w W ∧ Mds W ∧ Hold W w.heap.size key ∧ Hold W (w.heap.size + 1) non ∧ Hold W (w.heap.size + 1 + 1) dig ∧ Pnt W (w.heap.size + 1 + 1 + 1) x y i ∧ Bk9 W (w.heap.size + 1 + 1 + 1 + 1)) ⟨by repeat (first | with_reducible exact Below.refl _ _ | with_reducible refine Below.alloc ?_ (by first | omega | (simp; done) | (simp; omega)) _), ((((hm.alloc _).alloc _).alloc _).alloc _).alloc _, ((((Hold.new _ _ _).alloc _).alloc _).alloc _).alloc _, (((Hold.fresh (by simp)).alloc _).alloc _).alloc _, ((Hold.fresh (by simp)).alloc _).alloc _, (Pnt.new (by simp)).alloc _, Bk9.new (by simp)⟩ ?_
  rintro W ⟨B, hD, hK, hE, hG, hP, hR⟩
  have o3 : w.heap.size ≤ w.heap.size + 1 + 1 + 1 + 1 := by omega
  generalize w.heap.size + 1 + 1 + 1 + 1 = br at *
  generalize w.heap.size + 1 + 1 + 1 = bp at *
  generalize w.heap.size + 1 + 1 = bg at *
  generalize w.heap.size + 1 = bn at *
  with_reducible refine (C0.out _ hD).mono ?_
  rintro e w1 ⟨rfl, hb⟩
  replace B := B.trans (hb.mono B.size)
  replace hD := hD.keep hb; replace hK := hK.keep hb; replace hE := hE.keep hb; replace hG := hG.keep hb; replace hP := hP.keep hb; replace hR := hR.keep hb
  clear hb W
  go_wp2_with fail
  refine wp_world (fun W => Below w.heap.size w W ∧ Mds W ∧ Hold W w.heap.size key ∧ Hold W bn non ∧ Hold W bg dig ∧ Pnt W bp x y i ∧ Bk9 W br) ⟨B, hD, hK, hE, hG, hP, hR⟩ ?_
  clear B hD hK hE hG hP hR 
  rintro W ⟨B, hD, hK, hE, hG, hP, hR⟩
  refine alloc_tail (A := ?AA1) 9 (by kernel_rfl) (by kernel_rfl) rfl rfl (alloc_num _ _ _) (fun V hV => ?HH1) (fun V w1 hV hw => ?TT1)
  case HH1 =>
    have hDg : ∀ d os, Mds (grow (redrawn V d) os) := fun d os => (hD.keep hV).keep (below_regrown V d os)
    have ghK := (hK.keep hV).grown
    have ghE := (hE.keep hV).grown
    have ghG := (hG.keep hV).grown
    have ghP := (hP.keep hV).grown
    unfold Gr
    simp only [List.take_succ_cons, List.take_zero]
    repeat
      first
        | go_big_quiet_skip
        | (go_big_quiet_want; go_big_quiet_op; go_big_quiet_on)
        | (go_big_quiet_want
           go_big_quiet_op
           apply Exists.intro
           refine ⟨fun p => ?_, ?_⟩
           · (first | (go_at_call 27; with_reducible exact Calls.regrown_of (A1.out _ (hDg p.d p.os))) | (go_at_call 44; with_reducible exact Calls.regrown_of (A2.out _ (hDg p.d p.os))) | (go_at_call 25; with_reducible exact Calls.regrown_of (A3.out _ (hDg p.d p.os))) | (go_at_call 27; with_reducible exact Calls.regrown_of (A4.out _ (hDg p.d p.os))))
           go_big_quiet_on)
    refine wpQuiet_nil ?_
    exact rfl
  case TT1 =>
    have hb := alloc_below hV hw
    have hN := (Blank.new rfl).keep hw
    have nhD : V.heap.size ≠ 1 := Nat.ne_of_gt (Nat.lt_of_lt_of_le (hD.lt) hV.size)
    have nhK : V.heap.size ≠ w.heap.size := Nat.ne_of_gt (Nat.lt_of_lt_of_le (World.block_lt_of_cell? _ _ hK.1) hV.size)
    have nhE : V.heap.size ≠ bn := Nat.ne_of_gt (Nat.lt_of_lt_of_le (World.block_lt_of_cell? _ _ hE.1) hV.size)
    have nhG : V.heap.size ≠ bg := Nat.ne_of_gt (Nat.lt_of_lt_of_le (World.block_lt_of_cell? _ _ hG.1) hV.size)
    have nhP : V.heap.size ≠ bp := Nat.ne_of_gt (Nat.lt_of_lt_of_le (hP.lt) hV.size)
    have nhR : V.heap.size ≠ br := Nat.ne_of_gt (Nat.lt_of_lt_of_le (hR.lt) hV.size)
    have gn : w.heap.size ≤ V.heap.size := Nat.le_trans B.size hV.size
    replace B := B.trans (hb.mono B.size)
    replace hD := hD.keep hb; replace hK := hK.keep hb; replace hE := hE.keep hb; replace hG := hG.keep hb; replace hP := hP.keep hb; replace hR := hR.keep hb
    clear hb hw hV W
    generalize V.heap.size = bs at *
    clear V
    have gN := hN.1.all4; have qN := hN.2.all4
    have ghP := hP.cells
    have mhD := nhD.symm
    have mhK := nhK.symm
    have mhE := nhE.symm
    have mhG := nhG.symm
    have mhP := nhP.symm
    have mhR := nhR.symm
    simp only [List.drop_succ_cons, List.drop_zero, Act.put, List.setIfInBounds_toArray, List.set_cons_zero, List.set_cons_succ]
    go_wp2_with fail
    refine calls_world (fun W => Below w.heap.size w W ∧ Mds W ∧ Hold W w.heap.size key ∧ Hold W bn non ∧ Hold W bg dig ∧ Pnt W bp x y i ∧ Bk9 W br ∧ Hold W bs s) ⟨below_set4 B gn _ _ _ _, hD.set4 nhD _ _ _ _, hK.set4 nhK _ _ _ _, hE.set4 nhE _ _ _ _, hG.set4 nhG _ _ _ _, hP.set4 nhP _ _ _ _, hR.set4 nhR _ _ _ _, Hold.sets4 (Blank.has hN)⟩ ?_
    clear B hN gN qN hD hK hE hG hP hR nhD mhD nhK mhK nhE mhE nhG mhG nhP mhP nhR mhR ghP gn
    rintro W ⟨B, hD, hK, hE, hG, hP, hR, hS⟩
    clear w1
    clear hK hE hG
    with_reducible refine (Z1.out _).mono ?_
    rintro e w2 ⟨rfl, hb⟩
    replace B := B.trans (hb.mono B.size)
    replace hD := hD.keep hb; replace hP := hP.keep hb; replace hR := hR.keep hb; replace hS := hS.keep hb
    clear hb W
    have ghS := hS.cells
    go_wp2_with fail
    refine calls_world (fun W => Below w.heap.size w W ∧ Mds W ∧ Pnt W bp x y i ∧ Bk9 W br ∧ Hold W bs s) ⟨B, hD, hP, hR, hS⟩ ?_
    clear B hD hP hR hS ghS
    rintro W ⟨B, hD, hP, hR, hS⟩
    with_reducible refine (Z2.out _).mono ?_
    rintro e w9 ⟨rfl, hb⟩
    replace B := B.trans (hb.mono B.size)
    replace hD := hD.keep hb; replace hP := hP.keep hb; replace hR := hR.keep hb; replace hS := hS.keep hb
    clear hb W hD hP hS
    have gR := hR.cells; have fR := hR.free
    go_wp2
    simp [bodyPost, results, Tryz.results21, go_sem, gR]
    repeat (first | with_reducible exact B | with_reducible refine Below.setCell ?_ o3 _)

set_option maxRecDepth 100000 in
set_option maxHeartbeats 8000000 in
theorem etext_ok {key non dig x y a b v s : Int} {i od : Bool} (C0 : Hid (∀ w, Mds w → Calls Tryz.prog 35 #[.agg #[.int .u64 (l0 x), .int .u64 (l1 x), .int .u64 (l2 x), .int .u64 (l3 x)]] w fun e w' => e = .returned (.bool true) ∧ Below w.heap.size w w')) (A1 : Hid (∀ w, Mds w → Calls Tryz.prog 27 #[.agg #[.int .u64 (l0 x), .int .u64 (l1 x), .int .u64 (l2 x), .int .u64 (l3 x)], .agg #[.int .u64 (l0 key), .int .u64 (l1 key), .int .u64 (l2 key), .int .u64 (l3 key)]] w fun e w' => e = .returned (.agg #[.int .u64 (l0 a), .int .u64 (l1 a), .int .u64 (l2 a), .int .u64 (l3 a)]) ∧ Below w.heap.size w w')) (A2 : Hid (∀ w, Mds w → Calls Tryz.prog 44 #[.agg #[.int .u64 (l0 dig), .int .u64 (l1 dig), .int .u64 (l2 dig), .int .u64 (l3 dig)], .agg #[.int .u64 (l0 a), .int .u64 (l1 a), .int .u64 (l2 a), .int .u64 (l3 a)]] w fun e w' => e = .returned (.agg #[.int .u64 (l0 b), .int .u64 (l1 b), .int .u64 (l2 b), .int .u64 (l3 b)]) ∧ Below w.heap.size w w')) (A3 : Hid (∀ w, Mds w → Calls Tryz.prog 25 #[.agg #[.int .u64 (l0 non), .int .u64 (l1 non), .int .u64 (l2 non), .int .u64 (l3 non)]] w fun e w' => e = .returned (.agg #[.int .u64 (l0 v), .int .u64 (l1 v), .int .u64 (l2 v), .int .u64 (l3 v)]) ∧ Below w.heap.size w w')) (A4 : Hid (∀ w, Mds w → Calls Tryz.prog 27 #[.agg #[.int .u64 (l0 b), .int .u64 (l1 b), .int .u64 (l2 b), .int .u64 (l3 b)], .agg #[.int .u64 (l0 v), .int .u64 (l1 v), .int .u64 (l2 v), .int .u64 (l3 v)]] w fun e w' => e = .returned (.agg #[.int .u64 (l0 s), .int .u64 (l1 s), .int .u64 (l2 s), .int .u64 (l3 s)]) ∧ Below w.heap.size w w')) (Z1 : Hid (∀ w, Calls Tryz.prog 34 #[.agg #[.int .u64 (l0 x), .int .u64 (l1 x), .int .u64 (l2 x), .int .u64 (l3 x)]] w fun e w' => e = .returned (.bool false) ∧ Below w.heap.size w w')) (Z2 : Hid (∀ w, Calls Tryz.prog 34 #[.agg #[.int .u64 (l0 s), .int .u64 (l1 s), .int .u64 (l2 s), .int .u64 (l3 s)]] w fun e w' => e = .returned (.bool false) ∧ Below w.heap.size w w')) (D : Hid (∀ w, Calls Tryz.prog 45 #[.agg #[.int .u64 (l0 y), .int .u64 (l1 y), .int .u64 (l2 y), .int .u64 (l3 y)]] w fun e w' => e = .returned (.bool od) ∧ Below w.heap.size w w')) (w : World) (hm : Mds w) :
    Calls Tryz.prog 21 #[.agg #[.int .u64 (l0 key), .int .u64 (l1 key), .int .u64 (l2 key), .int .u64 (l3 key)], .agg #[.int .u64 (l0 non), .int .u64 (l1 non), .int .u64 (l2 non), .int .u64 (l3 non)], .agg #[.int .u64 (l0 dig), .int .u64 (l1 dig), .int .u64 (l2 dig), .int .u64 (l3 dig)], .agg #[.int .u64 (l0 x), .int .u64 (l1 x), .int .u64 (l2 x), .int .u64 (l3 x), .int .u64 (l0 y), .int .u64 (l1 y), .int .u64 (l2 y), .int .u64 (l3 y), .bool i]] w fun e w' => e = .returned (.tuple #[.agg #[.int .u64 (l0 x), .int .u64 (l1 x), .int .u64 (l2 x), .int .u64 (l3 x), .int .u64 (l0 s), .int .u64 (l1 s), .int .u64 (l2 s), .int .u64 (l3 s), .bool od], .int .i64 0]) ∧ Below w.heap.size w w' := by
  go_enter Tryz.func21, Tryz.ntmps21
  go_wp2_with fail
  refine calls_world (fun W => Below w.heap.size w W ∧ Mds W ∧ Hold W w.heap.size key ∧ Hold W (w.heap.size + 1) non ∧ Hold W (w.heap.size + 1 + 1) dig ∧ Pnt W (w.heap.size + 1 + 1 + 1) x y i ∧ Bk9 W (w.heap.size + 1 + 1 + 1 + 1)) ⟨by repeat (first | with_reducible exact Below.refl _ _ | with_reducible refine Below.alloc ?_ (by first | omega | (simp; done) | (simp; omega)) _), ((((hm.alloc _).alloc _).alloc _).alloc _).alloc _, ((((Hold.new _ _ _).alloc _).alloc _).alloc _).alloc _, (((Hold.fresh (by simp)).alloc _).alloc _).alloc _, ((Hold.fresh (by simp)).alloc _).alloc _, (Pnt.new (by simp)).alloc _, Bk9.new (by simp)⟩ ?_
  rintro W ⟨B, hD, hK, hE, hG, hP, hR⟩
  have o3 : w.heap.size ≤ w.heap.size + 1 + 1 + 1 + 1 := by omega
  generalize w.heap.size + 1 + 1 + 1 + 1 = br at *
  generalize w.heap.size + 1 + 1 + 1 = bp at *
  generalize w.heap.size + 1 + 1 = bg at *
  generalize w.heap.size + 1 = bn at *
  with_reducible refine (C0.out _ hD).mono ?_
  rintro e w1 ⟨rfl, hb⟩
  replace B := B.trans (hb.mono B.size)
  replace hD := hD.keep hb; replace hK := hK.keep hb; replace hE := hE.keep hb; replace hG := hG.keep hb; replace hP := hP.keep hb; replace hR := hR.keep hb
  clear hb W
  go_wp2_with fail
  refine wp_world (fun W => Below w.heap.size w W ∧ Mds W ∧ Hold W w.heap.size key ∧ Hold W bn non ∧ Hold W bg dig ∧ Pnt W bp x y i ∧ Bk9 W br) ⟨B, hD, hK, hE, hG, hP, hR⟩ ?_
  clear B hD hK hE hG hP hR 
  rintro W ⟨B, hD, hK, hE, hG, hP, hR⟩
  refine alloc_tail (A := ?AA1) 9 (by kernel_rfl) (by kernel_rfl) rfl rfl (alloc_num _ _ _) (fun V hV => ?HH1) (fun V w1 hV hw => ?TT1)
  case HH1 =>
    have hDg : ∀ d os, Mds (grow (redrawn V d) os) := fun d os => (hD.keep hV).keep (below_regrown V d os)
    have ghK := (hK.keep hV).grown
    have ghE := (hE.keep hV).grown
    have ghG := (hG.keep hV).grown
    have ghP := (hP.keep hV).grown
    unfold Gr
    simp only [List.take_succ_cons, List.take_zero]
    repeat
      first
        | go_big_quiet_skip
        | (go_big_quiet_want; go_big_quiet_op; go_big_quiet_on)
        | (go_big_quiet_want
           go_big_quiet_op
           apply Exists.intro
           refine ⟨fun p => ?_, ?_⟩
           · (first | (go_at_call 27; with_reducible exact Calls.regrown_of (A1.out _ (hDg p.d p.os))) | (go_at_call 44; with_reducible exact Calls.regrown_of (A2.out _ (hDg p.d p.os))) | (go_at_call 25; with_reducible exact Calls.regrown_of (A3.out _ (hDg p.d p.os))) | (go_at_call 27; with_reducible exact Calls.regrown_of (A4.out _ (hDg p.d p.os))))
           go_big_quiet_on)
    refine wpQuiet_nil ?_
    exact rfl
  case TT1 =>
    have hb := alloc_below hV hw
    have hN := (Blank.new rfl).keep hw
    have nhD : V.heap.size ≠ 1 := Nat.ne_of_gt (Nat.lt_of_lt_of_le (hD.lt) hV.size)
    have nhK : V.heap.size ≠ w.heap.size := Nat.ne_of_gt (Nat.lt_of_lt_of_le (World.block_lt_of_cell? _ _ hK.1) hV.size)
    have nhE : V.heap.size ≠ bn := Nat.ne_of_gt (Nat.lt_of_lt_of_le (World.block_lt_of_cell? _ _ hE.1) hV.size)
    have nhG : V.heap.size ≠ bg := Nat.ne_of_gt (Nat.lt_of_lt_of_le (World.block_lt_of_cell? _ _ hG.1) hV.size)
    have nhP : V.heap.size ≠ bp := Nat.ne_of_gt (Nat.lt_of_lt_of_le (hP.lt) hV.size)
    have nhR : V.heap.size ≠ br := Nat.ne_of_gt (Nat.lt_of_lt_of_le (hR.lt) hV.size)
    have gn : w.heap.size ≤ V.heap.size := Nat.le_trans B.size hV.size
    replace B := B.trans (hb.mono B.size)
    replace hD := hD.keep hb; replace hK := hK.keep hb; replace hE := hE.keep hb; replace hG := hG.keep hb; replace hP := hP.keep hb; replace hR := hR.keep hb
    clear hb hw hV W
    generalize V.heap.size = bs at *
    clear V
    have gN := hN.1.all4; have qN := hN.2.all4
    have ghP := hP.cells
    have mhD := nhD.symm
    have mhK := nhK.symm
    have mhE := nhE.symm
    have mhG := nhG.symm
    have mhP := nhP.symm
    have mhR := nhR.symm
    simp only [List.drop_succ_cons, List.drop_zero, Act.put, List.setIfInBounds_toArray, List.set_cons_zero, List.set_cons_succ]
    go_wp2_with fail
    refine calls_world (fun W => Below w.heap.size w W ∧ Mds W ∧ Hold W w.heap.size key ∧ Hold W bn non ∧ Hold W bg dig ∧ Pnt W bp x y i ∧ Bk9 W br ∧ Hold W bs s) ⟨below_set4 B gn _ _ _ _, hD.set4 nhD _ _ _ _, hK.set4 nhK _ _ _ _, hE.set4 nhE _ _ _ _, hG.set4 nhG _ _ _ _, hP.set4 nhP _ _ _ _, hR.set4 nhR _ _ _ _, Hold.sets4 (Blank.has hN)⟩ ?_
    clear B hN gN qN hD hK hE hG hP hR nhD mhD nhK mhK nhE mhE nhG mhG nhP mhP nhR mhR ghP gn
    rintro W ⟨B, hD, hK, hE, hG, hP, hR, hS⟩
    clear w1
    clear hK hE hG
    with_reducible refine (Z1.out _).mono ?_
    rintro e w2 ⟨rfl, hb⟩
    replace B := B.trans (hb.mono B.size)
    replace hD := hD.keep hb; replace hP := hP.keep hb; replace hR := hR.keep hb; replace hS := hS.keep hb
    clear hb W
    have ghS := hS.cells
    go_wp2_with fail
    refine calls_world (fun W => Below w.heap.size w W ∧ Mds W ∧ Pnt W bp x y i ∧ Bk9 W br ∧ Hold W bs s) ⟨B, hD, hP, hR, hS⟩ ?_
    clear B hD hP hR hS ghS
    rintro W ⟨B, hD, hP, hR, hS⟩
    with_reducible refine (Z2.out _).mono ?_
    rintro e w3 ⟨rfl, hb⟩
    replace B := B.trans (hb.mono B.size)
    replace hD := hD.keep hb; replace hP := hP.keep hb; replace hR := hR.keep hb; replace hS := hS.keep hb
    clear hb W
    go_wp2_with fail
    refine wp_world (fun W => Below w.heap.size w W ∧ Mds W ∧ Pnt W bp x y i ∧ Bk9 W br ∧ Hold W bs s) ⟨B, hD, hP, hR, hS⟩ ?_
    clear B hD hP hR hS 
    rintro W ⟨B, hD, hP, hR, hS⟩
    have ghP := hP.grown
    have ghS := hS.grown
    have hDg : ∀ d os, Mds (grow (redrawn W d) os) := fun d os => hD.keep (below_regrown W d os)
    refine below_tail 7 (by kernel_rfl) (by kernel_rfl) ?_
    simp only [List.take_succ_cons, List.take_zero, List.drop_succ_cons, List.drop_zero]
    repeat
      first
        | go_big_quiet_skip
        | (go_big_quiet_want; go_big_quiet_op; go_big_quiet_on)
        | (go_big_quiet_want
           go_big_quiet_op
           apply Exists.intro
           refine ⟨fun p => ?_, ?_⟩
           · (first | (go_at_call 45; with_reducible exact Calls.regrown_of (D.out _)))
           go_big_quiet_on)
    refine wpQuiet_nil ?_
    rintro w4 ⟨p, rfl⟩
    have hb := below_regrown W p.d p.os
    generalize grow (redrawn W p.d) p.os = w4 at *
    replace B := B.trans (hb.mono B.size)
    replace hD := hD.keep hb; replace hP := hP.keep hb; replace hR := hR.keep hb; replace hS := hS.keep hb
    clear hb W ghP ghS hDg
    clear hD hP hS
    have gR := hR.cells; have fR := hR.free
    go_wp2
    simp [bodyPost, results, Tryz.results21, go_sem, gR]
    repeat (first | with_reducible exact B | with_reducible refine Below.setCell ?_ o3 _)

set_option maxRecDepth 100000 in
set_option maxHeartbeats 4000000 in
theorem elowered_yes {r s : Int} {od : Bool} (C0 : Hid (∀ w, Mds w → Calls Tryz.prog 46 #[.agg #[.int .u64 (l0 s), .int .u64 (l1 s), .int .u64 (l2 s), .int .u64 (l3 s)]] w fun e w' => e = .returned (.bool true) ∧ Below w.heap.size w w')) (w : World) (hm : Mds w) :
    Calls Tryz.prog 22 #[.agg #[.int .u64 (l0 r), .int .u64 (l1 r), .int .u64 (l2 r), .int .u64 (l3 r), .int .u64 (l0 s), .int .u64 (l1 s), .int .u64 (l2 s), .int .u64 (l3 s), .bool od]] w fun e w' => e = .returned (.agg #[.int .u64 (l0 r), .int .u64 (l1 r), .int .u64 (l2 r), .int .u64 (l3 r), .int .u64 (l0 s), .int .u64 (l1 s), .int .u64 (l2 s), .int .u64 (l3 s), .bool od]) ∧ Below w.heap.size w w' := by
  go_enter Tryz.func22, Tryz.ntmps22
  go_wp2_with fail
  refine calls_world (fun W => Below w.heap.size w W ∧ Mds W ∧ Pnt W w.heap.size r s od ∧ Bk9 W (w.heap.size + 1)) ⟨by repeat (first | with_reducible exact Below.refl _ _ | with_reducible refine Below.alloc ?_ (by first | omega | (simp; done) | (simp; omega)) _), (hm.alloc _).alloc _, (Pnt.new rfl).alloc _, Bk9.new (by simp)⟩ ?_
  rintro W ⟨B, hD, hP, hR⟩
  have o3 : w.heap.size ≤ w.heap.size + 1 := by omega
  generalize w.heap.size + 1 = br at *
  with_reducible refine (C0.out _ hD).mono ?_
  rintro e w9 ⟨rfl, hb⟩
  replace B := B.trans (hb.mono B.size)
  replace hD := hD.keep hb; replace hP := hP.keep hb; replace hR := hR.keep hb
  clear hb W hD
  have gP := hP.cells
  clear hP
  have gR := hR.cells; have fR := hR.free
  go_wp2
  simp [bodyPost, results, Tryz.results22, go_sem, gR]
  repeat (first | with_reducible exact B | with_reducible refine Below.setCell ?_ o3 _)

set_option maxRecDepth 100000 in
set_option maxHeartbeats 4000000 in
theorem elowered_no {r s t : Int} {od : Bool} (C0 : Hid (∀ w, Mds w → Calls Tryz.prog 46 #[.agg #[.int .u64 (l0 s), .int .u64 (l1 s), .int .u64 (l2 s), .int .u64 (l3 s)]] w fun e w' => e = .returned (.bool false) ∧ Below w.heap.size w w')) (C1 : Hid (∀ w, Mds w → Calls Tryz.prog 28 #[.agg #[.int .u64 (l0 s), .int .u64 (l1 s), .int .u64 (l2 s), .int .u64 (l3 s)]] w fun e w' => e = .returned (.agg #[.int .u64 (l0 t), .int .u64 (l1 t), .int .u64 (l2 t), .int .u64 (l3 t)]) ∧ Below w.heap.size w w')) (w : World) (hm : Mds w) :
    Calls Tryz.prog 22 #[.agg #[.int .u64 (l0 r), .int .u64 (l1 r), .int .u64 (l2 r), .int .u64 (l3 r), .int .u64 (l0 s), .int .u64 (l1 s), .int .u64 (l2 s), .int .u64 (l3 s), .bool od]] w fun e w' => e = .returned (.agg #[.int .u64 (l0 r), .int .u64 (l1 r), .int .u64 (l2 r), .int .u64 (l3 r), .int .u64 (l0 t), .int .u64 (l1 t), .int .u64 (l2 t), .int .u64 (l3 t), .bool (!od)]) ∧ Below w.heap.size w w' := by
  go_enter Tryz.func22, Tryz.ntmps22
  go_wp2_with fail
  refine calls_world (fun W => Below w.heap.size w W ∧ Mds W ∧ Pnt W w.heap.size r s od ∧ Bk9 W (w.heap.size + 1)) ⟨by repeat (first | with_reducible exact Below.refl _ _ | with_reducible refine Below.alloc ?_ (by first | omega | (simp; done) | (simp; omega)) _), (hm.alloc _).alloc _, (Pnt.new rfl).alloc _, Bk9.new (by simp)⟩ ?_
  rintro W ⟨B, hD, hP, hR⟩
  have o3 : w.heap.size ≤ w.heap.size + 1 := by omega
  generalize w.heap.size + 1 = br at *
  with_reducible refine (C0.out _ hD).mono ?_
  rintro e w1 ⟨rfl, hb⟩
  replace B := B.trans (hb.mono B.size)
  replace hD := hD.keep hb; replace hP := hP.keep hb; replace hR := hR.keep hb
  clear hb W
  go_wp2_with fail
  refine wp_world (fun W => Below w.heap.size w W ∧ Mds W ∧ Pnt W w.heap.size r s od ∧ Bk9 W br) ⟨B, hD, hP, hR⟩ ?_
  clear B hD hP hR 
  rintro W ⟨B, hD, hP, hR⟩
  have ghP := hP.grown
  have hDg : ∀ d os, Mds (grow (redrawn W d) os) := fun d os => hD.keep (below_regrown W d os)
  refine below_tail 9 (by kernel_rfl) (by kernel_rfl) ?_
  simp only [List.take_succ_cons, List.take_zero, List.drop_succ_cons, List.drop_zero]
  repeat
    first
      | go_big_quiet_skip
      | (go_big_quiet_want; go_big_quiet_op; go_big_quiet_on)
      | (go_big_quiet_want
         go_big_quiet_op
         apply Exists.intro
         refine ⟨fun p => ?_, ?_⟩
         · (first | (go_at_call 28; with_reducible exact Calls.regrown_of (C1.out _ (hDg p.d p.os))))
         go_big_quiet_on)
  refine wpQuiet_nil ?_
  rintro w2 ⟨p, rfl⟩
  have hb := below_regrown W p.d p.os
  generalize grow (redrawn W p.d) p.os = w2 at *
  replace B := B.trans (hb.mono B.size)
  replace hD := hD.keep hb; replace hP := hP.keep hb; replace hR := hR.keep hb
  clear hb W ghP hDg
  clear hD hP
  have gR := hR.cells; have fR := hR.free
  go_wp2
  simp [bodyPost, results, Tryz.results22, go_sem, gR]
  repeat (first | with_reducible exact B | with_reducible refine Below.setCell ?_ o3 _)
end Go.Proofs.YtncpjgpioajbeaaGreatDoor

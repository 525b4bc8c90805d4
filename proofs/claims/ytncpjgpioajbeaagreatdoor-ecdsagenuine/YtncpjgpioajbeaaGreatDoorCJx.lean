import Derived.Test.YtncpjgpioajbeaaGreatDoorEMod
import Derived.Test.YtncpjgpioajbeaaGreatDoorCAdd
import Derived.Test.YtncpjgpioajbeaaGreatDoorCFp
import Derived.Test.YtncpjgpioajbeaaGreatDoorFBin
namespace Go.Proofs.YtncpjgpioajbeaaGreatDoor
open Go.RowKit Go.Sort

set_option maxHeartbeats 2000000 in
theorem cdbl_id {x y z : Int} (C0 : Hid (∀ w, Calls Tryz.prog 61 #[.agg #[.int .u64 (l0 x), .int .u64 (l1 x), .int .u64 (l2 x), .int .u64 (l3 x), .int .u64 (l0 y), .int .u64 (l1 y), .int .u64 (l2 y), .int .u64 (l3 y), .int .u64 (l0 z), .int .u64 (l1 z), .int .u64 (l2 z), .int .u64 (l3 z)]] w fun e w' => e = .returned (.bool true) ∧ Below w.heap.size w w')) (w : World) :
    Calls Tryz.prog 56 #[.agg #[.int .u64 (l0 x), .int .u64 (l1 x), .int .u64 (l2 x), .int .u64 (l3 x), .int .u64 (l0 y), .int .u64 (l1 y), .int .u64 (l2 y), .int .u64 (l3 y), .int .u64 (l0 z), .int .u64 (l1 z), .int .u64 (l2 z), .int .u64 (l3 z)]] w fun e w' => e = .returned (.agg #[.int .u64 (l0 x), .int .u64 (l1 x), .int .u64 (l2 x), .int .u64 (l3 x), .int .u64 (l0 y), .int .u64 (l1 y), .int .u64 (l2 y), .int .u64 (l3 y), .int .u64 (l0 z), .int .u64 (l1 z), .int .u64 (l2 z), .int .u64 (l3 z)]) ∧ Below w.heap.size w w' := by
  go_enter Tryz.func56, Tryz.ntmps56
  go_wp2_with fail
  refine calls_world (fun W => Below w.heap.size w W ∧ Thr W w.heap.size x y z ∧ Bk12 W (w.heap.size + 1)) ⟨by repeat (first | with_reducible exact Below.refl _ _ | with_reducible refine Below.alloc ?_ (by first | omega | (simp; done) | (simp; omega)) _), (Thr.new rfl).alloc _, Bk12.new (by simp)⟩ ?_
  rintro W ⟨B, hT, hR⟩
  have o3 : w.heap.size ≤ w.heap.size + 1 := by omega
  generalize w.heap.size + 1 = br at *
  with_reducible refine (C0.out _).mono ?_
  rintro e w1 ⟨rfl, hb⟩
  replace B := B.trans (hb.mono B.size)
  replace hR := hR.keep hb; replace hT := hT.keep hb
  have gT := hT.cells
  clear hb W hT
  have gR := hR.cells; have fR := hR.free
  go_wp2
  simp [bodyPost, results, Tryz.results56, go_sem, gR]
  repeat (first | with_reducible exact B | with_reducible refine Below.setCell ?_ o3 _)

set_option maxHeartbeats 2000000 in
theorem cadd_l {x y z x2 y2 z2 : Int} (C0 : Hid (∀ w, Calls Tryz.prog 61 #[.agg #[.int .u64 (l0 x), .int .u64 (l1 x), .int .u64 (l2 x), .int .u64 (l3 x), .int .u64 (l0 y), .int .u64 (l1 y), .int .u64 (l2 y), .int .u64 (l3 y), .int .u64 (l0 z), .int .u64 (l1 z), .int .u64 (l2 z), .int .u64 (l3 z)]] w fun e w' => e = .returned (.bool true) ∧ Below w.heap.size w w')) (w : World) :
    Calls Tryz.prog 57 #[.agg #[.int .u64 (l0 x), .int .u64 (l1 x), .int .u64 (l2 x), .int .u64 (l3 x), .int .u64 (l0 y), .int .u64 (l1 y), .int .u64 (l2 y), .int .u64 (l3 y), .int .u64 (l0 z), .int .u64 (l1 z), .int .u64 (l2 z), .int .u64 (l3 z)], .agg #[.int .u64 (l0 x2), .int .u64 (l1 x2), .int .u64 (l2 x2), .int .u64 (l3 x2), .int .u64 (l0 y2), .int .u64 (l1 y2), .int .u64 (l2 y2), .int .u64 (l3 y2), .int .u64 (l0 z2), .int .u64 (l1 z2), .int .u64 (l2 z2), .int .u64 (l3 z2)]] w fun e w' => e = .returned (.agg #[.int .u64 (l0 x2), .int .u64 (l1 x2), .int .u64 (l2 x2), .int .u64 (l3 x2), .int .u64 (l0 y2), .int .u64 (l1 y2), .int .u64 (l2 y2), .int .u64 (l3 y2), .int .u64 (l0 z2), .int .u64 (l1 z2), .int .u64 (l2 z2), .int .u64 (l3 z2)]) ∧ Below w.heap.size w w' := by
  go_enter Tryz.func57, Tryz.ntmps57
  go_wp2_with fail
  refine calls_world (fun W => Below w.heap.size w W ∧ Thr W (w.heap.size + 1) x2 y2 z2 ∧ Bk12 W (w.heap.size + 1 + 1)) ⟨by repeat (first | with_reducible exact Below.refl _ _ | with_reducible refine Below.alloc ?_ (by first | omega | (simp; done) | (simp; omega)) _), (Thr.new (by simp)).alloc _, Bk12.new (by simp)⟩ ?_
  rintro W ⟨B, hT, hR⟩
  have o3 : w.heap.size ≤ w.heap.size + 1 + 1 := by omega
  generalize w.heap.size + 1 + 1 = br at *
  generalize w.heap.size + 1 = bo at *
  with_reducible refine (C0.out _).mono ?_
  rintro e w1 ⟨rfl, hb⟩
  replace B := B.trans (hb.mono B.size)
  replace hR := hR.keep hb; replace hT := hT.keep hb
  have gT := hT.cells
  clear hb W hT
  have gR := hR.cells; have fR := hR.free
  go_wp2
  simp [bodyPost, results, Tryz.results57, go_sem, gR]
  repeat (first | with_reducible exact B | with_reducible refine Below.setCell ?_ o3 _)

set_option maxHeartbeats 2000000 in
theorem cadd_r {x y z x2 y2 z2 : Int} (C0 : Hid (∀ w, Calls Tryz.prog 61 #[.agg #[.int .u64 (l0 x), .int .u64 (l1 x), .int .u64 (l2 x), .int .u64 (l3 x), .int .u64 (l0 y), .int .u64 (l1 y), .int .u64 (l2 y), .int .u64 (l3 y), .int .u64 (l0 z), .int .u64 (l1 z), .int .u64 (l2 z), .int .u64 (l3 z)]] w fun e w' => e = .returned (.bool false) ∧ Below w.heap.size w w')) (C1 : Hid (∀ w, Calls Tryz.prog 61 #[.agg #[.int .u64 (l0 x2), .int .u64 (l1 x2), .int .u64 (l2 x2), .int .u64 (l3 x2), .int .u64 (l0 y2), .int .u64 (l1 y2), .int .u64 (l2 y2), .int .u64 (l3 y2), .int .u64 (l0 z2), .int .u64 (l1 z2), .int .u64 (l2 z2), .int .u64 (l3 z2)]] w fun e w' => e = .returned (.bool true) ∧ Below w.heap.size w w')) (w : World) :
    Calls Tryz.prog 57 #[.agg #[.int .u64 (l0 x), .int .u64 (l1 x), .int .u64 (l2 x), .int .u64 (l3 x), .int .u64 (l0 y), .int .u64 (l1 y), .int .u64 (l2 y), .int .u64 (l3 y), .int .u64 (l0 z), .int .u64 (l1 z), .int .u64 (l2 z), .int .u64 (l3 z)], .agg #[.int .u64 (l0 x2), .int .u64 (l1 x2), .int .u64 (l2 x2), .int .u64 (l3 x2), .int .u64 (l0 y2), .int .u64 (l1 y2), .int .u64 (l2 y2), .int .u64 (l3 y2), .int .u64 (l0 z2), .int .u64 (l1 z2), .int .u64 (l2 z2), .int .u64 (l3 z2)]] w fun e w' => e = .returned (.agg #[.int .u64 (l0 x), .int .u64 (l1 x), .int .u64 (l2 x), .int .u64 (l3 x), .int .u64 (l0 y), .int .u64 (l1 y), .int .u64 (l2 y), .int .u64 (l3 y), .int .u64 (l0 z), .int .u64 (l1 z), .int .u64 (l2 z), .int .u64 (l3 z)]) ∧ Below w.heap.size w w' := by
  go_enter Tryz.func57, Tryz.ntmps57
  go_wp2_with fail
  refine calls_world (fun W => Below w.heap.size w W ∧ Thr W w.heap.size x y z ∧ Thr W (w.heap.size + 1) x2 y2 z2 ∧ Bk12 W (w.heap.size + 1 + 1)) ⟨by repeat (first | with_reducible exact Below.refl _ _ | with_reducible refine Below.alloc ?_ (by first | omega | (simp; done) | (simp; omega)) _), ((Thr.new rfl).alloc _).alloc _, (Thr.new (by simp)).alloc _, Bk12.new (by simp)⟩ ?_
  rintro W ⟨B, hT, hO, hR⟩
  have o3 : w.heap.size ≤ w.heap.size + 1 + 1 := by omega
  generalize w.heap.size + 1 + 1 = br at *
  generalize w.heap.size + 1 = bo at *
  with_reducible refine (C0.out _).mono ?_
  rintro e w1 ⟨rfl, hb⟩
  replace B := B.trans (hb.mono B.size)
  replace hR := hR.keep hb; replace hT := hT.keep hb; replace hO := hO.keep hb
  clear hb W
  have gO := hO.cells
  go_wp2_with fail
  refine calls_world (fun W => Below w.heap.size w W ∧ Thr W w.heap.size x y z ∧ Bk12 W br) ⟨B, hT, hR⟩ ?_
  clear B hT hO hR gO
  rintro W ⟨B, hT, hR⟩
  with_reducible refine (C1.out _).mono ?_
  rintro e w2 ⟨rfl, hb⟩
  replace B := B.trans (hb.mono B.size)
  replace hR := hR.keep hb; replace hT := hT.keep hb
  have gT := hT.cells
  clear hb W hT
  have gR := hR.cells; have fR := hR.free
  go_wp2
  simp [bodyPost, results, Tryz.results57, go_sem, gR]
  repeat (first | with_reducible exact B | with_reducible refine Below.setCell ?_ o3 _)

open EC in
def J3 (x y z : Int) : EC.J := ⟨EC.fp x, EC.fp y, EC.fp z⟩
theorem fp_nz {x : Int} (h : EC.Low x) (h0 : x ≠ 0) : EC.fp x ≠ 0 := fun e => h0 (EC.fp_inj h ⟨by decide, by decide⟩ (by rw [e, EC.fp_zero]))

/-- Twice. -/
theorem cdbl_J {x y z : Int} (hx : EC.Low x) (hy : EC.Low y) (hz : EC.Low z) : ∃ x' y' z', EC.Low x' ∧ EC.Low y' ∧ EC.Low z' ∧ J3 x' y' z' = EC.jd (J3 x y z) ∧
    ∀ w, Mds w → Calls Tryz.prog 56 #[.agg #[.int .u64 (l0 x), .int .u64 (l1 x), .int .u64 (l2 x), .int .u64 (l3 x), .int .u64 (l0 y), .int .u64 (l1 y), .int .u64 (l2 y), .int .u64 (l3 y), .int .u64 (l0 z), .int .u64 (l1 z), .int .u64 (l2 z), .int .u64 (l3 z)]] w fun e w' => e = .returned (.agg #[.int .u64 (l0 x'), .int .u64 (l1 x'), .int .u64 (l2 x'), .int .u64 (l3 x'), .int .u64 (l0 y'), .int .u64 (l1 y'), .int .u64 (l2 y'), .int .u64 (l3 y'), .int .u64 (l0 z'), .int .u64 (l1 z'), .int .u64 (l2 z'), .int .u64 (l3 z')]) ∧ Below w.heap.size w w' := by
  by_cases h0 : z = 0
  · refine ⟨x, y, z, hx, hy, hz, ?_, fun w _ => cdbl_id (fun w => ?_) w⟩
    · unfold EC.jd
      rw [if_pos (by show EC.fp z = 0; rw [h0, EC.fp_zero])]
    · have := cisid_any (x := x) (y := y) hz.num w
      rw [decide_eq_true h0] at this; exact this
  · have C0 : Hid (∀ w, Calls Tryz.prog 61 #[.agg #[.int .u64 (l0 x), .int .u64 (l1 x), .int .u64 (l2 x), .int .u64 (l3 x), .int .u64 (l0 y), .int .u64 (l1 y), .int .u64 (l2 y), .int .u64 (l3 y), .int .u64 (l0 z), .int .u64 (l1 z), .int .u64 (l2 z), .int .u64 (l3 z)]] w fun e w' => e = .returned (.bool false) ∧ Below w.heap.size w w') := fun w => by
      have := cisid_any (x := x) (y := y) hz.num w
      rw [decide_eq_false h0] at this; exact this
    refine ⟨_, _, _, EC.low_mod _, EC.low_mod _, EC.low_mod _, ?_, fun w hm => cdbl_walk C0 (fun w hm => csquare_any hy.num w hm) (fun w hm => csquare_any (modN_Num fit_p _) w hm) (fun w hm => csquare_any hx.num w hm)
      (fun w hm => ctwice_any (modN_Num fit_p _) w hm) (fun w hm => cplus_any (modN_Num fit_p _) (modN_Num fit_p _) w hm) (fun w hm => ctimes_any hx.num (modN_Num fit_p _) w hm) (fun w hm => ctwice_any (modN_Num fit_p _) w hm) (fun w hm => ctwice_any (modN_Num fit_p _) w hm)
      (fun w hm => csquare_any (modN_Num fit_p _) w hm) (fun w hm => ctwice_any (modN_Num fit_p _) w hm) (fun w hm => cminus_any (modN_Num fit_p _) (modN_Num fit_p _) w hm) (fun w hm => cminus_any (modN_Num fit_p _) (modN_Num fit_p _) w hm) (fun w hm => ctimes_any (modN_Num fit_p _) (modN_Num fit_p _) w hm)
      (fun w hm => ctwice_any (modN_Num fit_p _) w hm) (fun w hm => ctwice_any (modN_Num fit_p _) w hm) (fun w hm => ctwice_any (modN_Num fit_p _) w hm) (fun w hm => cminus_any (modN_Num fit_p _) (modN_Num fit_p _) w hm) (fun w hm => ctimes_any hy.num hz.num w hm) (fun w hm => ctwice_any (modN_Num fit_p _) w hm) w hm⟩
    unfold EC.jd
    rw [if_neg (show ¬ (J3 x y z).z = 0 from fp_nz hz h0)]
    unfold J3
    simp only [EC.fp_mod, EC.fp_mul, EC.fp_add, EC.fp_sub]
    generalize EC.fp x = X; generalize EC.fp y = Y; generalize EC.fp z = Z
    congr 1
    · unfold EC.dx; grind -lia -linarith
    · unfold EC.dy EC.dx; grind -lia -linarith
    · unfold EC.dz; grind -lia -linarith

/-- The sum. -/
theorem cadd_J {x y z x2 y2 z2 : Int} (hx : EC.Low x) (hy : EC.Low y) (hz : EC.Low z) (hx2 : EC.Low x2) (hy2 : EC.Low y2) (hz2 : EC.Low z2) : ∃ x' y' z', EC.Low x' ∧ EC.Low y' ∧ EC.Low z' ∧ J3 x' y' z' = EC.ja (J3 x y z) (J3 x2 y2 z2) ∧
    ∀ w, Mds w → Calls Tryz.prog 57 #[.agg #[.int .u64 (l0 x), .int .u64 (l1 x), .int .u64 (l2 x), .int .u64 (l3 x), .int .u64 (l0 y), .int .u64 (l1 y), .int .u64 (l2 y), .int .u64 (l3 y), .int .u64 (l0 z), .int .u64 (l1 z), .int .u64 (l2 z), .int .u64 (l3 z)], .agg #[.int .u64 (l0 x2), .int .u64 (l1 x2), .int .u64 (l2 x2), .int .u64 (l3 x2), .int .u64 (l0 y2), .int .u64 (l1 y2), .int .u64 (l2 y2), .int .u64 (l3 y2), .int .u64 (l0 z2), .int .u64 (l1 z2), .int .u64 (l2 z2), .int .u64 (l3 z2)]] w fun e w' => e = .returned (.agg #[.int .u64 (l0 x'), .int .u64 (l1 x'), .int .u64 (l2 x'), .int .u64 (l3 x'), .int .u64 (l0 y'), .int .u64 (l1 y'), .int .u64 (l2 y'), .int .u64 (l3 y'), .int .u64 (l0 z'), .int .u64 (l1 z'), .int .u64 (l2 z'), .int .u64 (l3 z')]) ∧ Below w.heap.size w w' := by
  by_cases h0 : z = 0
  · refine ⟨x2, y2, z2, hx2, hy2, hz2, ?_, fun w _ => cadd_l (fun w => ?_) w⟩
    · unfold EC.ja
      rw [if_pos (show (J3 x y z).z = 0 by show EC.fp z = 0; rw [h0, EC.fp_zero])]
    · have := cisid_any (x := x) (y := y) hz.num w
      rw [decide_eq_true h0] at this; exact this
  have C0 : Hid (∀ w, Calls Tryz.prog 61 #[.agg #[.int .u64 (l0 x), .int .u64 (l1 x), .int .u64 (l2 x), .int .u64 (l3 x), .int .u64 (l0 y), .int .u64 (l1 y), .int .u64 (l2 y), .int .u64 (l3 y), .int .u64 (l0 z), .int .u64 (l1 z), .int .u64 (l2 z), .int .u64 (l3 z)]] w fun e w' => e = .returned (.bool false) ∧ Below w.heap.size w w') := fun w => by
    have := cisid_any (x := x) (y := y) hz.num w
    rw [decide_eq_false h0] at this; exact this
  have n0 : ¬ (J3 x y z).z = 0 := fp_nz hz h0
  by_cases h2 : z2 = 0
  · refine ⟨x, y, z, hx, hy, hz, ?_, fun w _ => cadd_r C0 (fun w => ?_) w⟩
    · unfold EC.ja
      rw [if_neg n0, if_pos (show (J3 x2 y2 z2).z = 0 by show EC.fp z2 = 0; rw [h2, EC.fp_zero])]
    · have := cisid_any (x := x2) (y := y2) hz2.num w
      rw [decide_eq_true h2] at this; exact this
  have C1 : Hid (∀ w, Calls Tryz.prog 61 #[.agg #[.int .u64 (l0 x2), .int .u64 (l1 x2), .int .u64 (l2 x2), .int .u64 (l3 x2), .int .u64 (l0 y2), .int .u64 (l1 y2), .int .u64 (l2 y2), .int .u64 (l3 y2), .int .u64 (l0 z2), .int .u64 (l1 z2), .int .u64 (l2 z2), .int .u64 (l3 z2)]] w fun e w' => e = .returned (.bool false) ∧ Below w.heap.size w w') := fun w => by
    have := cisid_any (x := x2) (y := y2) hz2.num w
    rw [decide_eq_false h2] at this; exact this
  have n2 : ¬ (J3 x2 y2 z2).z = 0 := fp_nz hz2 h2
  obtain ⟨h, eh⟩ : ∃ h, h = modN pN (modN pN (x2 * modN pN (z * z)) - modN pN (x * modN pN (z2 * z2))) := ⟨_, rfl⟩
  obtain ⟨r, er⟩ : ∃ r, r = modN pN (modN pN (y2 * modN pN (modN pN (z * z) * z)) - modN pN (y * modN pN (modN pN (z2 * z2) * z2))) := ⟨_, rfl⟩
  have lh : EC.Low h := by rw [eh]; exact EC.low_mod _
  have lr : EC.Low r := by rw [er]; exact EC.low_mod _
  have fh : EC.fp h = EC.run (J3 x y z).x (J3 x y z).z (J3 x2 y2 z2).x (J3 x2 y2 z2).z := by
    rw [eh]; simp only [EC.fp_mod, EC.fp_mul, EC.fp_sub]; rfl
  have fr : EC.fp r = EC.rise (J3 x y z).y (J3 x y z).z (J3 x2 y2 z2).y (J3 x2 y2 z2).z := by
    rw [er]; simp only [EC.fp_mod, EC.fp_mul, EC.fp_sub]; rfl
  by_cases hh : h = 0
  · have e0 : EC.run (J3 x y z).x (J3 x y z).z (J3 x2 y2 z2).x (J3 x2 y2 z2).z = 0 := by rw [← fh, hh, EC.fp_zero]
    have he : ∀ w, (Op.equalIn 10000 24 (.agg #[.int .u64 (l0 h), .int .u64 (l1 h), .int .u64 (l2 h), .int .u64 (l3 h)]) (.agg #[.int .u64 0, .int .u64 0, .int .u64 0, .int .u64 0])).run Tryz.prog w = .ok true w := fun w => by
      have := eq_num lh.num (m := 0) ⟨by decide, by decide⟩ w
      obtain ⟨z0, z1, z2, z3⟩ := zero_limbs
      rw [z0, z1, z2, z3, decide_eq_true hh] at this
      exact this
    have key : ∃ x' y' z', EC.Low x' ∧ EC.Low y' ∧ EC.Low z' ∧ J3 x' y' z' = EC.ja (J3 x y z) (J3 x2 y2 z2) ∧ Hid (∀ w, Mds w → Calls Tryz.prog 93 #[.agg #[.int .u64 (l0 x), .int .u64 (l1 x), .int .u64 (l2 x), .int .u64 (l3 x), .int .u64 (l0 y), .int .u64 (l1 y), .int .u64 (l2 y), .int .u64 (l3 y), .int .u64 (l0 z), .int .u64 (l1 z), .int .u64 (l2 z), .int .u64 (l3 z)], .agg #[.int .u64 (l0 r), .int .u64 (l1 r), .int .u64 (l2 r), .int .u64 (l3 r)]] w fun e w' => e = .returned (.agg #[.int .u64 (l0 x'), .int .u64 (l1 x'), .int .u64 (l2 x'), .int .u64 (l3 x'), .int .u64 (l0 y'), .int .u64 (l1 y'), .int .u64 (l2 y'), .int .u64 (l3 y'), .int .u64 (l0 z'), .int .u64 (l1 z'), .int .u64 (l2 z'), .int .u64 (l3 z')]) ∧ Below w.heap.size w w') := by
      by_cases hr : r = 0
      · obtain ⟨x', y', z', l1, l2, l3, ej, cj⟩ := cdbl_J hx hy hz
        refine ⟨x', y', z', l1, l2, l3, ?_, fun w hm => ?_⟩
        · rw [ej]; unfold EC.ja
          rw [if_neg n0, if_neg n2, if_pos e0, if_pos (by rw [← fr, hr, EC.fp_zero])]
        · rw [hr]; exact csamex_yes cj w hm
      · refine ⟨0, 0, 0, ⟨by decide, by decide⟩, ⟨by decide, by decide⟩, ⟨by decide, by decide⟩, ?_, fun w _ => csamex_no lr.num hr w⟩
        unfold EC.ja
        rw [if_neg n0, if_neg n2, if_pos e0, if_neg (by rw [← fr]; exact fp_nz lr hr)]
        unfold J3 EC.J.o
        rw [EC.fp_zero]
    obtain ⟨x', y', z', l1, l2, l3, ej, cj⟩ := key
    subst eh; subst er
    exact ⟨x', y', z', l1, l2, l3, ej, fun w hm => cadd_walk C0 C1 (fun w hm => csquare_any hz.num w hm) (fun w hm => csquare_any hz2.num w hm) (fun w hm => ctimes_any hx.num (modN_Num fit_p _) w hm) (fun w hm => ctimes_any (modN_Num fit_p _) hz2.num w hm) (fun w hm => ctimes_any hy.num (modN_Num fit_p _) w hm) (fun w hm => ctimes_any hx2.num (modN_Num fit_p _) w hm) (fun w hm => cminus_any (modN_Num fit_p _) (modN_Num fit_p _) w hm) (fun w hm => ctimes_any (modN_Num fit_p _) hz.num w hm) (fun w hm => ctimes_any hy2.num (modN_Num fit_p _) w hm) (fun w hm => cminus_any (modN_Num fit_p _) (modN_Num fit_p _) w hm) (.inl ⟨he, cj⟩) w hm⟩
  · have e0 : ¬ EC.run (J3 x y z).x (J3 x y z).z (J3 x2 y2 z2).x (J3 x2 y2 z2).z = 0 := by rw [← fh]; exact fp_nz lh hh
    have he : ∀ w, (Op.equalIn 10000 24 (.agg #[.int .u64 (l0 h), .int .u64 (l1 h), .int .u64 (l2 h), .int .u64 (l3 h)]) (.agg #[.int .u64 0, .int .u64 0, .int .u64 0, .int .u64 0])).run Tryz.prog w = .ok false w := fun w => by
      have := eq_num lh.num (m := 0) ⟨by decide, by decide⟩ w
      obtain ⟨z0, z1, z2, z3⟩ := zero_limbs
      rw [z0, z1, z2, z3, decide_eq_false hh] at this
      exact this
    subst eh; subst er
    refine ⟨_, _, _, EC.low_mod _, EC.low_mod _, EC.low_mod _, ?_, fun w hm => cadd_walk C0 C1 (fun w hm => csquare_any hz.num w hm) (fun w hm => csquare_any hz2.num w hm) (fun w hm => ctimes_any hx.num (modN_Num fit_p _) w hm) (fun w hm => ctimes_any (modN_Num fit_p _) hz2.num w hm) (fun w hm => ctimes_any hy.num (modN_Num fit_p _) w hm) (fun w hm => ctimes_any hx2.num (modN_Num fit_p _) w hm) (fun w hm => cminus_any (modN_Num fit_p _) (modN_Num fit_p _) w hm) (fun w hm => ctimes_any (modN_Num fit_p _) hz.num w hm) (fun w hm => ctimes_any hy2.num (modN_Num fit_p _) w hm) (fun w hm => cminus_any (modN_Num fit_p _) (modN_Num fit_p _) w hm) (.inr ⟨he, _, _, _, _, _, _, _, _, _, _, ⟨(fun w hm => csquare_any (modN_Num fit_p _) w hm), (fun w hm => ctimes_any (modN_Num fit_p _) (modN_Num fit_p _) w hm), (fun w hm => ctimes_any (modN_Num fit_p _) (modN_Num fit_p _) w hm), (fun w hm => csquare_any (modN_Num fit_p _) w hm), (fun w hm => cminus_any (modN_Num fit_p _) (modN_Num fit_p _) w hm), (fun w hm => ctwice_any (modN_Num fit_p _) w hm), (fun w hm => cminus_any (modN_Num fit_p _) (modN_Num fit_p _) w hm), (fun w hm => cminus_any (modN_Num fit_p _) (modN_Num fit_p _) w hm), (fun w hm => ctimes_any (modN_Num fit_p _) (modN_Num fit_p _) w hm), (fun w hm => ctimes_any (modN_Num fit_p _) (modN_Num fit_p _) w hm), (fun w hm => cminus_any (modN_Num fit_p _) (modN_Num fit_p _) w hm), (fun w hm => ctimes_any hz.num hz2.num w hm), (fun w hm => ctimes_any (modN_Num fit_p _) (modN_Num fit_p _) w hm)⟩⟩) w hm⟩
    unfold EC.ja
    rw [if_neg n0, if_neg n2, if_neg e0, ← fh, ← fr]
    unfold J3
    simp only [EC.fp_mod, EC.fp_mul, EC.fp_add, EC.fp_sub]
    generalize EC.fp x = X; generalize EC.fp y = Y; generalize EC.fp z = Z; generalize EC.fp x2 = X2; generalize EC.fp y2 = Y2; generalize EC.fp z2 = Z2
    generalize X2 * (Z * Z) - X * (Z2 * Z2) = H
    generalize Y2 * (Z * Z * Z) - Y * (Z2 * Z2 * Z2) = R
    congr 1
    · unfold EC.ax; grind -lia -linarith
    · unfold EC.ay EC.ax; grind -lia -linarith
end Go.Proofs.YtncpjgpioajbeaaGreatDoor

namespace Go.Proofs.YtncpjgpioajbeaaGreatDoor
open Go.RowKit Go.Sort

set_option maxHeartbeats 2000000 in
theorem clift_high {x : Int} {i : Bool} (C1 : Hid (∀ w, Mds w → Calls Tryz.prog 47 #[.agg #[.int .u64 (l0 x), .int .u64 (l1 x), .int .u64 (l2 x), .int .u64 (l3 x)]] w fun e w' => e = .returned (.bool false) ∧ Below w.heap.size w w')) (w : World) (hm : Mds w) :
    Calls Tryz.prog 24 #[.agg #[.int .u64 (l0 x), .int .u64 (l1 x), .int .u64 (l2 x), .int .u64 (l3 x)], .bool i] w fun e w' => e = .returned (.tuple #[.agg #[.int .u64 0, .int .u64 0, .int .u64 0, .int .u64 0, .int .u64 0, .int .u64 0, .int .u64 0, .int .u64 0, .bool false], .int .i64 50]) ∧ Below w.heap.size w w' := by
  go_enter Tryz.func24, Tryz.ntmps24
  go_wp2_with fail
  refine calls_world (fun W => Below w.heap.size w W ∧ Mds W ∧ Hold W w.heap.size x ∧ Bk9 W (w.heap.size + 1)) ⟨by repeat (first | with_reducible exact Below.refl _ _ | with_reducible refine Below.alloc ?_ (by first | omega | (simp; done) | (simp; omega)) _), (hm.alloc _).alloc _, (Hold.fresh (by simp)).alloc _, Bk9.new (by simp)⟩ ?_
  rintro W ⟨B, hD, hX, hR⟩
  have o3 : w.heap.size ≤ w.heap.size + 1 := by omega
  generalize w.heap.size + 1 = br at *
  with_reducible refine (C1.out _ hD).mono ?_
  rintro e w1 ⟨rfl, hb⟩
  replace B := B.trans (hb.mono B.size)
  replace hD := hD.keep hb; replace hX := hX.keep hb; replace hR := hR.keep hb
  clear hb W hD
  clear hX
  have gR := hR.cells; have fR := hR.free
  go_wp2
  simp [bodyPost, results, Tryz.results24, go_sem, gR]
  repeat (first | with_reducible exact B | with_reducible refine Below.setCell ?_ o3 _)

set_option maxHeartbeats 2000000 in
theorem clift_none {x c r e1 : Int} {i : Bool} (C1 : Hid (∀ w, Mds w → Calls Tryz.prog 47 #[.agg #[.int .u64 (l0 x), .int .u64 (l1 x), .int .u64 (l2 x), .int .u64 (l3 x)]] w fun e w' => e = .returned (.bool true) ∧ Below w.heap.size w w')) (C2 : Hid (∀ w, Mds w → Calls Tryz.prog 49 #[.agg #[.int .u64 (l0 x), .int .u64 (l1 x), .int .u64 (l2 x), .int .u64 (l3 x)]] w fun e w' => e = .returned (.agg #[.int .u64 (l0 c), .int .u64 (l1 c), .int .u64 (l2 c), .int .u64 (l3 c)]) ∧ Below w.heap.size w w')) (C3 : Hid (∀ w, Mds w → Calls Tryz.prog 48 #[.agg #[.int .u64 (l0 c), .int .u64 (l1 c), .int .u64 (l2 c), .int .u64 (l3 c)]] w fun e w' => e = .returned (.tuple #[.agg #[.int .u64 (l0 r), .int .u64 (l1 r), .int .u64 (l2 r), .int .u64 (l3 r)], .int .i64 e1]) ∧ Below w.heap.size w w')) (he : e1 ≠ 0) (w : World) (hm : Mds w) :
    Calls Tryz.prog 24 #[.agg #[.int .u64 (l0 x), .int .u64 (l1 x), .int .u64 (l2 x), .int .u64 (l3 x)], .bool i] w fun e w' => e = .returned (.tuple #[.agg #[.int .u64 0, .int .u64 0, .int .u64 0, .int .u64 0, .int .u64 0, .int .u64 0, .int .u64 0, .int .u64 0, .bool false], .int .i64 50]) ∧ Below w.heap.size w w' := by
  go_enter Tryz.func24, Tryz.ntmps24
  go_wp2_with fail
  refine calls_world (fun W => Below w.heap.size w W ∧ Mds W ∧ Hold W w.heap.size x ∧ Bk9 W (w.heap.size + 1)) ⟨by repeat (first | with_reducible exact Below.refl _ _ | with_reducible refine Below.alloc ?_ (by first | omega | (simp; done) | (simp; omega)) _), (hm.alloc _).alloc _, (Hold.fresh (by simp)).alloc _, Bk9.new (by simp)⟩ ?_
  rintro W ⟨B, hD, hX, hR⟩
  have o3 : w.heap.size ≤ w.heap.size + 1 := by omega
  generalize w.heap.size + 1 = br at *
  with_reducible refine (C1.out _ hD).mono ?_
  rintro e w1 ⟨rfl, hb⟩
  replace B := B.trans (hb.mono B.size)
  replace hD := hD.keep hb; replace hX := hX.keep hb; replace hR := hR.keep hb
  clear hb W
  have ghX := hX.cells
  go_wp2_with fail
  refine calls_world (fun W => Below w.heap.size w W ∧ Mds W ∧ Hold W w.heap.size x ∧ Bk9 W br) ⟨B, hD, hX, hR⟩ ?_
  clear B hD hX hR ghX
  rintro W ⟨B, hD, hX, hR⟩
  with_reducible refine (C2.out _ hD).mono ?_
  rintro e w2 ⟨rfl, hb⟩
  replace B := B.trans (hb.mono B.size)
  replace hD := hD.keep hb; replace hX := hX.keep hb; replace hR := hR.keep hb
  clear hb W
  go_wp2_with fail
  refine calls_world (fun W => Below w.heap.size w W ∧ Mds W ∧ Hold W w.heap.size x ∧ Bk9 W br) ⟨B, hD, hX, hR⟩ ?_
  clear B hD hX hR 
  rintro W ⟨B, hD, hX, hR⟩
  with_reducible refine (C3.out _ hD).mono ?_
  rintro e w3 ⟨rfl, hb⟩
  replace B := B.trans (hb.mono B.size)
  replace hD := hD.keep hb; replace hX := hX.keep hb; replace hR := hR.keep hb
  clear hb W hD hX
  have lr := hR.lt
  have nr : w3.heap.size ≠ br := by omega
  have nr' := nr.symm
  have gR := fun o => (hR.alloc o).cells; have fR := fun o => (hR.alloc o).free
  have BB : Hid (∀ o, Below w.heap.size w (w3.alloc o)) := fun o => B.alloc B.size o
  clear B hR lr
  go_wp2
  simp [bodyPost, results, Tryz.results24, go_sem, *]
  repeat (first | with_reducible exact BB.out _ | with_reducible refine Below.drew ?_ | with_reducible refine Below.setCell ?_ (by with_reducible assumption) _)

set_option maxHeartbeats 4000000 in
theorem clift_even {x c r : Int} (C1 : Hid (∀ w, Mds w → Calls Tryz.prog 47 #[.agg #[.int .u64 (l0 x), .int .u64 (l1 x), .int .u64 (l2 x), .int .u64 (l3 x)]] w fun e w' => e = .returned (.bool true) ∧ Below w.heap.size w w')) (C2 : Hid (∀ w, Mds w → Calls Tryz.prog 49 #[.agg #[.int .u64 (l0 x), .int .u64 (l1 x), .int .u64 (l2 x), .int .u64 (l3 x)]] w fun e w' => e = .returned (.agg #[.int .u64 (l0 c), .int .u64 (l1 c), .int .u64 (l2 c), .int .u64 (l3 c)]) ∧ Below w.heap.size w w')) (C3 : Hid (∀ w, Mds w → Calls Tryz.prog 48 #[.agg #[.int .u64 (l0 c), .int .u64 (l1 c), .int .u64 (l2 c), .int .u64 (l3 c)]] w fun e w' => e = .returned (.tuple #[.agg #[.int .u64 (l0 r), .int .u64 (l1 r), .int .u64 (l2 r), .int .u64 (l3 r)], .int .i64 0]) ∧ Below w.heap.size w w')) (w : World) (hm : Mds w) :
    Calls Tryz.prog 24 #[.agg #[.int .u64 (l0 x), .int .u64 (l1 x), .int .u64 (l2 x), .int .u64 (l3 x)], .bool false] w fun e w' => e = .returned (.tuple #[.agg #[.int .u64 (l0 x), .int .u64 (l1 x), .int .u64 (l2 x), .int .u64 (l3 x), .int .u64 (l0 r), .int .u64 (l1 r), .int .u64 (l2 r), .int .u64 (l3 r), .bool false], .int .i64 0]) ∧ Below w.heap.size w w' := by
  go_enter Tryz.func24, Tryz.ntmps24
  go_wp2_with fail
  refine calls_world (fun W => Below w.heap.size w W ∧ Mds W ∧ Hold W w.heap.size x ∧ Bk9 W (w.heap.size + 1)) ⟨by repeat (first | with_reducible exact Below.refl _ _ | with_reducible refine Below.alloc ?_ (by first | omega | (simp; done) | (simp; omega)) _), (hm.alloc _).alloc _, (Hold.fresh (by simp)).alloc _, Bk9.new (by simp)⟩ ?_
  rintro W ⟨B, hD, hX, hR⟩
  have o3 : w.heap.size ≤ w.heap.size + 1 := by omega
  generalize w.heap.size + 1 = br at *
  with_reducible refine (C1.out _ hD).mono ?_
  rintro e w1 ⟨rfl, hb⟩
  replace B := B.trans (hb.mono B.size)
  replace hD := hD.keep hb; replace hX := hX.keep hb; replace hR := hR.keep hb
  clear hb W
  have ghX := hX.cells
  go_wp2_with fail
  refine calls_world (fun W => Below w.heap.size w W ∧ Mds W ∧ Hold W w.heap.size x ∧ Bk9 W br) ⟨B, hD, hX, hR⟩ ?_
  clear B hD hX hR ghX
  rintro W ⟨B, hD, hX, hR⟩
  with_reducible refine (C2.out _ hD).mono ?_
  rintro e w2 ⟨rfl, hb⟩
  replace B := B.trans (hb.mono B.size)
  replace hD := hD.keep hb; replace hX := hX.keep hb; replace hR := hR.keep hb
  clear hb W
  go_wp2_with fail
  refine calls_world (fun W => Below w.heap.size w W ∧ Mds W ∧ Hold W w.heap.size x ∧ Bk9 W br) ⟨B, hD, hX, hR⟩ ?_
  clear B hD hX hR 
  rintro W ⟨B, hD, hX, hR⟩
  with_reducible refine (C3.out _ hD).mono ?_
  rintro e w3 ⟨rfl, hb⟩
  replace B := B.trans (hb.mono B.size)
  replace hD := hD.keep hb; replace hX := hX.keep hb; replace hR := hR.keep hb
  clear hb W hD
  have gX := hX.allocs
  clear hX
  have lr := hR.lt
  have nr : w3.heap.size ≠ br := by omega
  have nr' := nr.symm
  have gR := fun o => (hR.alloc o).cells; have fR := fun o => (hR.alloc o).free
  have BB : Hid (∀ o, Below w.heap.size w (w3.alloc o)) := fun o => B.alloc B.size o
  clear B hR lr
  go_wp2
  simp [bodyPost, results, Tryz.results24, go_sem, *]
  repeat (first | with_reducible exact BB.out _ | with_reducible refine Below.drew ?_ | with_reducible refine Below.setCell ?_ (by with_reducible assumption) _)

set_option maxHeartbeats 4000000 in
theorem clift_odd {x c r s : Int} (C1 : Hid (∀ w, Mds w → Calls Tryz.prog 47 #[.agg #[.int .u64 (l0 x), .int .u64 (l1 x), .int .u64 (l2 x), .int .u64 (l3 x)]] w fun e w' => e = .returned (.bool true) ∧ Below w.heap.size w w')) (C2 : Hid (∀ w, Mds w → Calls Tryz.prog 49 #[.agg #[.int .u64 (l0 x), .int .u64 (l1 x), .int .u64 (l2 x), .int .u64 (l3 x)]] w fun e w' => e = .returned (.agg #[.int .u64 (l0 c), .int .u64 (l1 c), .int .u64 (l2 c), .int .u64 (l3 c)]) ∧ Below w.heap.size w w')) (C3 : Hid (∀ w, Mds w → Calls Tryz.prog 48 #[.agg #[.int .u64 (l0 c), .int .u64 (l1 c), .int .u64 (l2 c), .int .u64 (l3 c)]] w fun e w' => e = .returned (.tuple #[.agg #[.int .u64 (l0 r), .int .u64 (l1 r), .int .u64 (l2 r), .int .u64 (l3 r)], .int .i64 0]) ∧ Below w.heap.size w w')) (C4 : Hid (∀ w, Mds w → Calls Tryz.prog 50 #[.agg #[.int .u64 (l0 r), .int .u64 (l1 r), .int .u64 (l2 r), .int .u64 (l3 r)]] w fun e w' => e = .returned (.agg #[.int .u64 (l0 s), .int .u64 (l1 s), .int .u64 (l2 s), .int .u64 (l3 s)]) ∧ Below w.heap.size w w')) (w : World) (hm : Mds w) :
    Calls Tryz.prog 24 #[.agg #[.int .u64 (l0 x), .int .u64 (l1 x), .int .u64 (l2 x), .int .u64 (l3 x)], .bool true] w fun e w' => e = .returned (.tuple #[.agg #[.int .u64 (l0 x), .int .u64 (l1 x), .int .u64 (l2 x), .int .u64 (l3 x), .int .u64 (l0 s), .int .u64 (l1 s), .int .u64 (l2 s), .int .u64 (l3 s), .bool false], .int .i64 0]) ∧ Below w.heap.size w w' := by
  go_enter Tryz.func24, Tryz.ntmps24
  go_wp2_with fail
  refine calls_world (fun W => Below w.heap.size w W ∧ Mds W ∧ Hold W w.heap.size x ∧ Bk9 W (w.heap.size + 1)) ⟨by repeat (first | with_reducible exact Below.refl _ _ | with_reducible refine Below.alloc ?_ (by first | omega | (simp; done) | (simp; omega)) _), (hm.alloc _).alloc _, (Hold.fresh (by simp)).alloc _, Bk9.new (by simp)⟩ ?_
  rintro W ⟨B, hD, hX, hR⟩
  have o3 : w.heap.size ≤ w.heap.size + 1 := by omega
  generalize w.heap.size + 1 = br at *
  with_reducible refine (C1.out _ hD).mono ?_
  rintro e w1 ⟨rfl, hb⟩
  replace B := B.trans (hb.mono B.size)
  replace hD := hD.keep hb; replace hX := hX.keep hb; replace hR := hR.keep hb
  clear hb W
  have ghX := hX.cells
  go_wp2_with fail
  refine calls_world (fun W => Below w.heap.size w W ∧ Mds W ∧ Hold W w.heap.size x ∧ Bk9 W br) ⟨B, hD, hX, hR⟩ ?_
  clear B hD hX hR ghX
  rintro W ⟨B, hD, hX, hR⟩
  with_reducible refine (C2.out _ hD).mono ?_
  rintro e w2 ⟨rfl, hb⟩
  replace B := B.trans (hb.mono B.size)
  replace hD := hD.keep hb; replace hX := hX.keep hb; replace hR := hR.keep hb
  clear hb W
  go_wp2_with fail
  refine calls_world (fun W => Below w.heap.size w W ∧ Mds W ∧ Hold W w.heap.size x ∧ Bk9 W br) ⟨B, hD, hX, hR⟩ ?_
  clear B hD hX hR 
  rintro W ⟨B, hD, hX, hR⟩
  with_reducible refine (C3.out _ hD).mono ?_
  rintro e w3 ⟨rfl, hb⟩
  replace B := B.trans (hb.mono B.size)
  replace hD := hD.keep hb; replace hX := hX.keep hb; replace hR := hR.keep hb
  clear hb W
  go_wp2_with fail
  have hnx0 : w3.heap.size ≠ w.heap.size := by have h : w.heap.size < w3.heap.size := World.block_lt_of_cell? _ _ hX.1; omega
  have hny0 : w3.heap.size ≠ br := by have := hR.lt; omega
  have geby1 : w.heap.size ≤ w3.heap.size := by have := B.size; omega
  refine calls_world (fun W => Below w.heap.size w W ∧ Mds W ∧ Hold W w.heap.size x ∧ Bk9 W br ∧ Var W w3.heap.size r) ⟨B.alloc B.size _, hD.alloc _, hX.alloc _, hR.alloc _, Var.new rfl⟩ ?_
  clear B hD hX hR 
  rintro W ⟨B, hD, hX, hR, hY⟩
  generalize w3.heap.size = by1 at *
  with_reducible refine (C4.out _ hD).mono ?_
  rintro e w4 ⟨rfl, hb⟩
  replace B := B.trans (hb.mono B.size)
  replace hD := hD.keep hb; replace hX := hX.keep hb; replace hR := hR.keep hb; replace hY := hY.keep hb
  clear hb W hD
  have gX := hX.cells
  have gY := hY.1.cells; have qY := hY.2.all4
  have gR := hR.cells; have fR := hR.free
  have n1 : by1 ≠ w.heap.size := hnx0
  have n2 : by1 ≠ br := hny0
  have n1' := n1.symm
  have n2' := n2.symm
  go_wp2
  simp [bodyPost, results, Tryz.results24, go_sem, *]
  repeat (first | with_reducible exact B | with_reducible refine Below.drew ?_ | with_reducible refine Below.setCell ?_ (by with_reducible assumption) _)

def liftOk (x : Int) : Prop := x < pN ∧ rootE (cubN x) = 0
instance (x : Int) : Decidable (liftOk x) := inferInstanceAs (Decidable (_ ∧ _))
def liftE (x : Int) : Int := if liftOk x then 0 else 50
def liftX (x : Int) : Int := if liftOk x then x else 0
def liftY (odd : Bool) (x : Int) : Int := if liftOk x then (if odd then modN pN (0 - rootN (cubN x)) else rootN (cubN x)) else 0
theorem root_num (x : Int) : Num (rootN x) := by
  unfold rootN
  split
  · obtain ⟨_, a, b, _⟩ := even_one (powN_lt fit_p x qN).1 (powN_lt fit_p x qN).2
    have := fit_p.num
    exact ⟨a, Int.lt_trans b this.2⟩
  · exact ⟨by decide, by decide⟩
theorem clift_any {x : Int} (hx : Num x) (i : Bool) (w : World) (hm : Mds w) :
    Calls Tryz.prog 24 #[.agg #[.int .u64 (l0 x), .int .u64 (l1 x), .int .u64 (l2 x), .int .u64 (l3 x)], .bool i] w fun e w' => e = .returned (.tuple #[.agg #[.int .u64 (l0 (liftX x)), .int .u64 (l1 (liftX x)), .int .u64 (l2 (liftX x)), .int .u64 (l3 (liftX x)), .int .u64 (l0 (liftY i x)), .int .u64 (l1 (liftY i x)), .int .u64 (l2 (liftY i x)), .int .u64 (l3 (liftY i x)), .bool false], .int .i64 (liftE x)]) ∧ Below w.heap.size w w' := by
  obtain ⟨z0, z1, z2, z3⟩ := zero_limbs
  by_cases hp : x < pN
  · have C1 : Hid (∀ w, Mds w → Calls Tryz.prog 47 #[.agg #[.int .u64 (l0 x), .int .u64 (l1 x), .int .u64 (l2 x), .int .u64 (l3 x)]] w fun e w' => e = .returned (.bool true) ∧ Below w.heap.size w w') := fun w hm => by
      have := cbelow_any hx w hm
      rw [decide_eq_true hp] at this; exact this
    by_cases hr : rootE (cubN x) = 0
    · have ok : liftOk x := ⟨hp, hr⟩
      have C3 : Hid (∀ w, Mds w → Calls Tryz.prog 48 #[.agg #[.int .u64 (l0 (cubN x)), .int .u64 (l1 (cubN x)), .int .u64 (l2 (cubN x)), .int .u64 (l3 (cubN x))]] w fun e w' => e = .returned (.tuple #[.agg #[.int .u64 (l0 (rootN (cubN x))), .int .u64 (l1 (rootN (cubN x))), .int .u64 (l2 (rootN (cubN x))), .int .u64 (l3 (rootN (cubN x)))], .int .i64 0]) ∧ Below w.heap.size w w') := fun w hm => by
        have := Root_any (modN_Num fit_p _) w hm (x := cubN x)
        rw [hr] at this; exact this
      unfold liftX liftY liftE
      rw [if_pos ok, if_pos ok, if_pos ok]
      cases i with
      | false => exact clift_even C1 (fun w hm => csqat_any hx w hm) C3 w hm
      | true => exact clift_odd C1 (fun w hm => csqat_any hx w hm) C3 (fun w hm => copposite_any (root_num _) w hm) w hm
    · have no : ¬ liftOk x := fun h => hr h.2
      unfold liftX liftY liftE
      rw [if_neg no, if_neg no, if_neg no, z0, z1, z2, z3]
      exact clift_none C1 (fun w hm => csqat_any hx w hm) (fun w hm => Root_any (modN_Num fit_p _) w hm) hr w hm
  · have no : ¬ liftOk x := fun h => hp h.1
    unfold liftX liftY liftE
    rw [if_neg no, if_neg no, if_neg no, z0, z1, z2, z3]
    exact clift_high (fun w hm => by
      have := cbelow_any hx w hm
      rw [decide_eq_false hp] at this; exact this) w hm

end Go.Proofs.YtncpjgpioajbeaaGreatDoor

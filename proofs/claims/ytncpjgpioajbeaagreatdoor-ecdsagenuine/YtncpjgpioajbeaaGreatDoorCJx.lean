import Derived.Test.YtncpjgpioajbeaaGreatDoorCDbl
import Derived.Test.YtncpjgpioajbeaaGreatDoorCAdd
import Derived.Test.YtncpjgpioajbeaaGreatDoorCJac
namespace Go.Proofs.YtncpjgpioajbeaaGreatDoor
open Go.RowKit Go.Sort

set_option maxHeartbeats 2000000 in
theorem cdbl_id {x y z : Int} (C0 : Hid (∀ w, Calls Tryz.prog 61 #[.agg #[.int .u64 (l0 x), .int .u64 (l1 x), .int .u64 (l2 x), .int .u64 (l3 x), .int .u64 (l0 y), .int .u64 (l1 y), .int .u64 (l2 y), .int .u64 (l3 y), .int .u64 (l0 z), .int .u64 (l1 z), .int .u64 (l2 z), .int .u64 (l3 z)]] w fun e w' => e = .returned (.bool true) ∧ Below w.heap.size w w')) (w : World) :
    Calls Tryz.prog 56 #[.agg #[.int .u64 (l0 x), .int .u64 (l1 x), .int .u64 (l2 x), .int .u64 (l3 x), .int .u64 (l0 y), .int .u64 (l1 y), .int .u64 (l2 y), .int .u64 (l3 y), .int .u64 (l0 z), .int .u64 (l1 z), .int .u64 (l2 z), .int .u64 (l3 z)]] w fun e w' => e = .returned (.agg #[.int .u64 (l0 x), .int .u64 (l1 x), .int .u64 (l2 x), .int .u64 (l3 x), .int .u64 (l0 y), .int .u64 (l1 y), .int .u64 (l2 y), .int .u64 (l3 y), .int .u64 (l0 z), .int .u64 (l1 z), .int .u64 (l2 z), .int .u64 (l3 z)]) ∧ Below w.heap.size w w' := by
  go_enter Tryz.func56, Tryz.ntmps56
  go_wp2_with fail
  refine calls_world (fun W => Below w.heap.size w W ∧ Thr W w.heap.size x y z ∧ Bk12 W (w.heap.size + 1)) ⟨by repeat (first | with_reducible exact Below.refl _ _ | with_reducible refine Below.alloc ?_ (by first | omega | (simp; done) | (simp; omega)) _), (Thr.new rfl).alloc _, Bk12.new (by simp)⟩ ?_
  rintro W ⟨B, hT, hR⟩
  have o3 : w.heap.size ≤ w.heap.size + 1 := by omega
  generalize w.heap.size + 1 = br at *
  with_reducible refine (C0.out _).mono ?_
  rintro e w1 ⟨rfl, hb⟩
  replace B := B.trans (hb.mono B.size)
  replace hR := hR.keep hb; replace hT := hT.keep hb
  have gT := hT.cells
  clear hb W hT
  have gR := hR.cells; have fR := hR.free
  go_wp2
  simp [bodyPost, results, Tryz.results56, go_sem, gR]
  repeat (first | with_reducible exact B | with_reducible refine Below.setCell ?_ o3 _)

set_option maxHeartbeats 2000000 in
theorem cadd_l {x y z x2 y2 z2 : Int} (C0 : Hid (∀ w, Calls Tryz.prog 61 #[.agg #[.int .u64 (l0 x), .int .u64 (l1 x), .int .u64 (l2 x), .int .u64 (l3 x), .int .u64 (l0 y), .int .u64 (l1 y), .int .u64 (l2 y), .int .u64 (l3 y), .int .u64 (l0 z), .int .u64 (l1 z), .int .u64 (l2 z), .int .u64 (l3 z)]] w fun e w' => e = .returned (.bool true) ∧ Below w.heap.size w w')) (w : World) :
    Calls Tryz.prog 57 #[.agg #[.int .u64 (l0 x), .int .u64 (l1 x), .int .u64 (l2 x), .int .u64 (l3 x), .int .u64 (l0 y), .int .u64 (l1 y), .int .u64 (l2 y), .int .u64 (l3 y), .int .u64 (l0 z), .int .u64 (l1 z), .int .u64 (l2 z), .int .u64 (l3 z)], .agg #[.int .u64 (l0 x2), .int .u64 (l1 x2), .int .u64 (l2 x2), .int .u64 (l3 x2), .int .u64 (l0 y2), .int .u64 (l1 y2), .int .u64 (l2 y2), .int .u64 (l3 y2), .int .u64 (l0 z2), .int .u64 (l1 z2), .int .u64 (l2 z2), .int .u64 (l3 z2)]] w fun e w' => e = .returned (.agg #[.int .u64 (l0 x2), .int .u64 (l1 x2), .int .u64 (l2 x2), .int .u64 (l3 x2), .int .u64 (l0 y2), .int .u64 (l1 y2), .int .u64 (l2 y2), .int .u64 (l3 y2), .int .u64 (l0 z2), .int .u64 (l1 z2), .int .u64 (l2 z2), .int .u64 (l3 z2)]) ∧ Below w.heap.size w w' := by
  go_enter Tryz.func57, Tryz.ntmps57
  go_wp2_with fail
  refine calls_world (fun W => Below w.heap.size w W ∧ Thr W (w.heap.size + 1) x2 y2 z2 ∧ Bk12 W (w.heap.size + 1 + 1)) ⟨by repeat (first | with_reducible exact Below.refl _ _ | with_reducible refine Below.alloc ?_ (by first | omega | (simp; done) | (simp; omega)) _), (Thr.new (by simp)).alloc _, Bk12.new (by simp)⟩ ?_
  rintro W ⟨B, hT, hR⟩
  have o3 : w.heap.size ≤ w.heap.size + 1 + 1 := by omega
  generalize w.heap.size + 1 + 1 = br at *
  generalize w.heap.size + 1 = bo at *
  with_reducible refine (C0.out _).mono ?_
  rintro e w1 ⟨rfl, hb⟩
  replace B := B.trans (hb.mono B.size)
  replace hR := hR.keep hb; replace hT := hT.keep hb
  have gT := hT.cells
  clear hb W hT
  have gR := hR.cells; have fR := hR.free
  go_wp2
  simp [bodyPost, results, Tryz.results57, go_sem, gR]
  repeat (first | with_reducible exact B | with_reducible refine Below.setCell ?_ o3 _)

set_option maxHeartbeats 2000000 in
theorem cadd_r {x y z x2 y2 z2 : Int} (C0 : Hid (∀ w, Calls Tryz.prog 61 #[.agg #[.int .u64 (l0 x), .int .u64 (l1 x), .int .u64 (l2 x), .int .u64 (l3 x), .int .u64 (l0 y), .int .u64 (l1 y), .int .u64 (l2 y), .int .u64 (l3 y), .int .u64 (l0 z), .int .u64 (l1 z), .int .u64 (l2 z), .int .u64 (l3 z)]] w fun e w' => e = .returned (.bool false) ∧ Below w.heap.size w w')) (C1 : Hid (∀ w, Calls Tryz.prog 61 #[.agg #[.int .u64 (l0 x2), .int .u64 (l1 x2), .int .u64 (l2 x2), .int .u64 (l3 x2), .int .u64 (l0 y2), .int .u64 (l1 y2), .int .u64 (l2 y2), .int .u64 (l3 y2), .int .u64 (l0 z2), .int .u64 (l1 z2), .int .u64 (l2 z2), .int .u64 (l3 z2)]] w fun e w' => e = .returned (.bool true) ∧ Below w.heap.size w w')) (w : World) :
    Calls Tryz.prog 57 #[.agg #[.int .u64 (l0 x), .int .u64 (l1 x), .int .u64 (l2 x), .int .u64 (l3 x), .int .u64 (l0 y), .int .u64 (l1 y), .int .u64 (l2 y), .int .u64 (l3 y), .int .u64 (l0 z), .int .u64 (l1 z), .int .u64 (l2 z), .int .u64 (l3 z)], .agg #[.int .u64 (l0 x2), .int .u64 (l1 x2), .int .u64 (l2 x2), .int .u64 (l3 x2), .int .u64 (l0 y2), .int .u64 (l1 y2), .int .u64 (l2 y2), .int .u64 (l3 y2), .int .u64 (l0 z2), .int .u64 (l1 z2), .int .u64 (l2 z2), .int .u64 (l3 z2)]] w fun e w' => e = .returned (.agg #[.int .u64 (l0 x), .int .u64 (l1 x), .int .u64 (l2 x), .int .u64 (l3 x), .int .u64 (l0 y), .int .u64 (l1 y), .int .u64 (l2 y), .int .u64 (l3 y), .int .u64 (l0 z), .int .u64 (l1 z), .int .u64 (l2 z), .int .u64 (l3 z)]) ∧ Below w.heap.size w w' := by
  go_enter Tryz.func57, Tryz.ntmps57
  go_wp2_with fail
  refine calls_world (fun W => Below w.heap.size w W ∧ Thr W w.heap.size x y z ∧ Thr W (w.heap.size + 1) x2 y2 z2 ∧ Bk12 W (w.heap.size + 1 + 1)) ⟨by repeat (first | with_reducible exact Below.refl _ _ | with_reducible refine Below.alloc ?_ (by first | omega | (simp; done) | (simp; omega)) _), ((Thr.new rfl).alloc _).alloc _, (Thr.new (by simp)).alloc _, Bk12.new (by simp)⟩ ?_
  rintro W ⟨B, hT, hO, hR⟩
  have o3 : w.heap.size ≤ w.heap.size + 1 + 1 := by omega
  generalize w.heap.size + 1 + 1 = br at *
  generalize w.heap.size + 1 = bo at *
  with_reducible refine (C0.out _).mono ?_
  rintro e w1 ⟨rfl, hb⟩
  replace B := B.trans (hb.mono B.size)
  replace hR := hR.keep hb; replace hT := hT.keep hb; replace hO := hO.keep hb
  clear hb W
  have gO := hO.cells
  go_wp2_with fail
  refine calls_world (fun W => Below w.heap.size w W ∧ Thr W w.heap.size x y z ∧ Bk12 W br) ⟨B, hT, hR⟩ ?_
  clear B hT hO hR gO
  rintro W ⟨B, hT, hR⟩
  with_reducible refine (C1.out _).mono ?_
  rintro e w2 ⟨rfl, hb⟩
  replace B := B.trans (hb.mono B.size)
  replace hR := hR.keep hb; replace hT := hT.keep hb
  have gT := hT.cells
  clear hb W hT
  have gR := hR.cells; have fR := hR.free
  go_wp2
  simp [bodyPost, results, Tryz.results57, go_sem, gR]
  repeat (first | with_reducible exact B | with_reducible refine Below.setCell ?_ o3 _)

open EC in
def J3 (x y z : Int) : EC.J := ⟨EC.fp x, EC.fp y, EC.fp z⟩
theorem fp_nz {x : Int} (h : EC.Low x) (h0 : x ≠ 0) : EC.fp x ≠ 0 := fun e => h0 (EC.fp_inj h ⟨by decide, by decide⟩ (by rw [e, EC.fp_zero]))

/-- Twice. -/
theorem cdbl_J {x y z : Int} (hx : EC.Low x) (hy : EC.Low y) (hz : EC.Low z) : ∃ x' y' z', EC.Low x' ∧ EC.Low y' ∧ EC.Low z' ∧ J3 x' y' z' = EC.jd (J3 x y z) ∧
    ∀ w, Mds w → Calls Tryz.prog 56 #[.agg #[.int .u64 (l0 x), .int .u64 (l1 x), .int .u64 (l2 x), .int .u64 (l3 x), .int .u64 (l0 y), .int .u64 (l1 y), .int .u64 (l2 y), .int .u64 (l3 y), .int .u64 (l0 z), .int .u64 (l1 z), .int .u64 (l2 z), .int .u64 (l3 z)]] w fun e w' => e = .returned (.agg #[.int .u64 (l0 x'), .int .u64 (l1 x'), .int .u64 (l2 x'), .int .u64 (l3 x'), .int .u64 (l0 y'), .int .u64 (l1 y'), .int .u64 (l2 y'), .int .u64 (l3 y'), .int .u64 (l0 z'), .int .u64 (l1 z'), .int .u64 (l2 z'), .int .u64 (l3 z')]) ∧ Below w.heap.size w w' := by
  by_cases h0 : z = 0
  · refine ⟨x, y, z, hx, hy, hz, ?_, fun w _ => cdbl_id (fun w => ?_) w⟩
    · unfold EC.jd
      rw [if_pos (by show EC.fp z = 0; rw [h0, EC.fp_zero])]
    · have := cisid_any (x := x) (y := y) hz.num w
      rw [decide_eq_true h0] at this; exact this
  · have C0 : Hid (∀ w, Calls Tryz.prog 61 #[.agg #[.int .u64 (l0 x), .int .u64 (l1 x), .int .u64 (l2 x), .int .u64 (l3 x), .int .u64 (l0 y), .int .u64 (l1 y), .int .u64 (l2 y), .int .u64 (l3 y), .int .u64 (l0 z), .int .u64 (l1 z), .int .u64 (l2 z), .int .u64 (l3 z)]] w fun e w' => e = .returned (.bool false) ∧ Below w.heap.size w w') := fun w => by
      have := cisid_any (x := x) (y := y) hz.num w
      rw [decide_eq_false h0] at this; exact this
    refine ⟨_, _, _, EC.low_mod _, EC.low_mod _, EC.low_mod _, ?_, fun w hm => cdbl_walk C0 (fun w hm => csquare_any hy.num w hm) (fun w hm => csquare_any (modN_Num fit_p _) w hm) (fun w hm => csquare_any hx.num w hm)
      (fun w hm => ctwice_any (modN_Num fit_p _) w hm) (fun w hm => cplus_any (modN_Num fit_p _) (modN_Num fit_p _) w hm) (fun w hm => ctimes_any hx.num (modN_Num fit_p _) w hm) (fun w hm => ctwice_any (modN_Num fit_p _) w hm) (fun w hm => ctwice_any (modN_Num fit_p _) w hm)
      (fun w hm => csquare_any (modN_Num fit_p _) w hm) (fun w hm => ctwice_any (modN_Num fit_p _) w hm) (fun w hm => cminus_any (modN_Num fit_p _) (modN_Num fit_p _) w hm) (fun w hm => cminus_any (modN_Num fit_p _) (modN_Num fit_p _) w hm) (fun w hm => ctimes_any (modN_Num fit_p _) (modN_Num fit_p _) w hm)
      (fun w hm => ctwice_any (modN_Num fit_p _) w hm) (fun w hm => ctwice_any (modN_Num fit_p _) w hm) (fun w hm => ctwice_any (modN_Num fit_p _) w hm) (fun w hm => cminus_any (modN_Num fit_p _) (modN_Num fit_p _) w hm) (fun w hm => ctimes_any hy.num hz.num w hm) (fun w hm => ctwice_any (modN_Num fit_p _) w hm) w hm⟩
    unfold EC.jd
    rw [if_neg (show ¬ (J3 x y z).z = 0 from fp_nz hz h0)]
    unfold J3
    simp only [EC.fp_mod, EC.fp_mul, EC.fp_add, EC.fp_sub]
    generalize EC.fp x = X; generalize EC.fp y = Y; generalize EC.fp z = Z
    congr 1
    · unfold EC.dx; grind -lia -linarith
    · unfold EC.dy EC.dx; grind -lia -linarith
    · unfold EC.dz; grind -lia -linarith

/-- The sum. -/
theorem cadd_J {x y z x2 y2 z2 : Int} (hx : EC.Low x) (hy : EC.Low y) (hz : EC.Low z) (hx2 : EC.Low x2) (hy2 : EC.Low y2) (hz2 : EC.Low z2) : ∃ x' y' z', EC.Low x' ∧ EC.Low y' ∧ EC.Low z' ∧ J3 x' y' z' = EC.ja (J3 x y z) (J3 x2 y2 z2) ∧
    ∀ w, Mds w → Calls Tryz.prog 57 #[.agg #[.int .u64 (l0 x), .int .u64 (l1 x), .int .u64 (l2 x), .int .u64 (l3 x), .int .u64 (l0 y), .int .u64 (l1 y), .int .u64 (l2 y), .int .u64 (l3 y), .int .u64 (l0 z), .int .u64 (l1 z), .int .u64 (l2 z), .int .u64 (l3 z)], .agg #[.int .u64 (l0 x2), .int .u64 (l1 x2), .int .u64 (l2 x2), .int .u64 (l3 x2), .int .u64 (l0 y2), .int .u64 (l1 y2), .int .u64 (l2 y2), .int .u64 (l3 y2), .int .u64 (l0 z2), .int .u64 (l1 z2), .int .u64 (l2 z2), .int .u64 (l3 z2)]] w fun e w' => e = .returned (.agg #[.int .u64 (l0 x'), .int .u64 (l1 x'), .int .u64 (l2 x'), .int .u64 (l3 x'), .int .u64 (l0 y'), .int .u64 (l1 y'), .int .u64 (l2 y'), .int .u64 (l3 y'), .int .u64 (l0 z'), .int .u64 (l1 z'), .int .u64 (l2 z'), .int .u64 (l3 z')]) ∧ Below w.heap.size w w' := by
  by_cases h0 : z = 0
  · refine ⟨x2, y2, z2, hx2, hy2, hz2, ?_, fun w _ => cadd_l (fun w => ?_) w⟩
    · unfold EC.ja
      rw [if_pos (show (J3 x y z).z = 0 by show EC.fp z = 0; rw [h0, EC.fp_zero])]
    · have := cisid_any (x := x) (y := y) hz.num w
      rw [decide_eq_true h0] at this; exact this
  have C0 : Hid (∀ w, Calls Tryz.prog 61 #[.agg #[.int .u64 (l0 x), .int .u64 (l1 x), .int .u64 (l2 x), .int .u64 (l3 x), .int .u64 (l0 y), .int .u64 (l1 y), .int .u64 (l2 y), .int .u64 (l3 y), .int .u64 (l0 z), .int .u64 (l1 z), .int .u64 (l2 z), .int .u64 (l3 z)]] w fun e w' => e = .returned (.bool false) ∧ Below w.heap.size w w') := fun w => by
    have := cisid_any (x := x) (y := y) hz.num w
    rw [decide_eq_false h0] at this; exact this
  have n0 : ¬ (J3 x y z).z = 0 := fp_nz hz h0
  by_cases h2 : z2 = 0
  · refine ⟨x, y, z, hx, hy, hz, ?_, fun w _ => cadd_r C0 (fun w => ?_) w⟩
    · unfold EC.ja
      rw [if_neg n0, if_pos (show (J3 x2 y2 z2).z = 0 by show EC.fp z2 = 0; rw [h2, EC.fp_zero])]
    · have := cisid_any (x := x2) (y := y2) hz2.num w
      rw [decide_eq_true h2] at this; exact this
  have C1 : Hid (∀ w, Calls Tryz.prog 61 #[.agg #[.int .u64 (l0 x2), .int .u64 (l1 x2), .int .u64 (l2 x2), .int .u64 (l3 x2), .int .u64 (l0 y2), .int .u64 (l1 y2), .int .u64 (l2 y2), .int .u64 (l3 y2), .int .u64 (l0 z2), .int .u64 (l1 z2), .int .u64 (l2 z2), .int .u64 (l3 z2)]] w fun e w' => e = .returned (.bool false) ∧ Below w.heap.size w w') := fun w => by
    have := cisid_any (x := x2) (y := y2) hz2.num w
    rw [decide_eq_false h2] at this; exact this
  have n2 : ¬ (J3 x2 y2 z2).z = 0 := fp_nz hz2 h2
  obtain ⟨h, eh⟩ : ∃ h, h = modN pN (modN pN (x2 * modN pN (z * z)) - modN pN (x * modN pN (z2 * z2))) := ⟨_, rfl⟩
  obtain ⟨r, er⟩ : ∃ r, r = modN pN (modN pN (y2 * modN pN (modN pN (z * z) * z)) - modN pN (y * modN pN (modN pN (z2 * z2) * z2))) := ⟨_, rfl⟩
  have lh : EC.Low h := by rw [eh]; exact EC.low_mod _
  have lr : EC.Low r := by rw [er]; exact EC.low_mod _
  have fh : EC.fp h = EC.run (J3 x y z).x (J3 x y z).z (J3 x2 y2 z2).x (J3 x2 y2 z2).z := by
    rw [eh]; simp only [EC.fp_mod, EC.fp_mul, EC.fp_sub]; rfl
  have fr : EC.fp r = EC.rise (J3 x y z).y (J3 x y z).z (J3 x2 y2 z2).y (J3 x2 y2 z2).z := by
    rw [er]; simp only [EC.fp_mod, EC.fp_mul, EC.fp_sub]; rfl
  by_cases hh : h = 0
  · have e0 : EC.run (J3 x y z).x (J3 x y z).z (J3 x2 y2 z2).x (J3 x2 y2 z2).z = 0 := by rw [← fh, hh, EC.fp_zero]
    have he : ∀ w, (Op.equalIn 10000 24 (.agg #[.int .u64 (l0 h), .int .u64 (l1 h), .int .u64 (l2 h), .int .u64 (l3 h)]) (.agg #[.int .u64 0, .int .u64 0, .int .u64 0, .int .u64 0])).run Tryz.prog w = .ok true w := fun w => by
      have := eq_num lh.num (m := 0) ⟨by decide, by decide⟩ w
      obtain ⟨z0, z1, z2, z3⟩ := zero_limbs
      rw [z0, z1, z2, z3, decide_eq_true hh] at this
      exact this
    have key : ∃ x' y' z', EC.Low x' ∧ EC.Low y' ∧ EC.Low z' ∧ J3 x' y' z' = EC.ja (J3 x y z) (J3 x2 y2 z2) ∧ Hid (∀ w, Mds w → Calls Tryz.prog 93 #[.agg #[.int .u64 (l0 x), .int .u64 (l1 x), .int .u64 (l2 x), .int .u64 (l3 x), .int .u64 (l0 y), .int .u64 (l1 y), .int .u64 (l2 y), .int .u64 (l3 y), .int .u64 (l0 z), .int .u64 (l1 z), .int .u64 (l2 z), .int .u64 (l3 z)], .agg #[.int .u64 (l0 r), .int .u64 (l1 r), .int .u64 (l2 r), .int .u64 (l3 r)]] w fun e w' => e = .returned (.agg #[.int .u64 (l0 x'), .int .u64 (l1 x'), .int .u64 (l2 x'), .int .u64 (l3 x'), .int .u64 (l0 y'), .int .u64 (l1 y'), .int .u64 (l2 y'), .int .u64 (l3 y'), .int .u64 (l0 z'), .int .u64 (l1 z'), .int .u64 (l2 z'), .int .u64 (l3 z')]) ∧ Below w.heap.size w w') := by
      by_cases hr : r = 0
      · obtain ⟨x', y', z', l1, l2, l3, ej, cj⟩ := cdbl_J hx hy hz
        refine ⟨x', y', z', l1, l2, l3, ?_, fun w hm => ?_⟩
        · rw [ej]; unfold EC.ja
          rw [if_neg n0, if_neg n2, if_pos e0, if_pos (by rw [← fr, hr, EC.fp_zero])]
        · rw [hr]; exact csamex_yes cj w hm
      · refine ⟨0, 0, 0, ⟨by decide, by decide⟩, ⟨by decide, by decide⟩, ⟨by decide, by decide⟩, ?_, fun w _ => csamex_no lr.num hr w⟩
        unfold EC.ja
        rw [if_neg n0, if_neg n2, if_pos e0, if_neg (by rw [← fr]; exact fp_nz lr hr)]
        unfold J3 EC.J.o
        rw [EC.fp_zero]
    obtain ⟨x', y', z', l1, l2, l3, ej, cj⟩ := key
    subst eh; subst er
    exact ⟨x', y', z', l1, l2, l3, ej, fun w hm => cadd_walk C0 C1 (fun w hm => csquare_any hz.num w hm) (fun w hm => csquare_any hz2.num w hm) (fun w hm => ctimes_any hx.num (modN_Num fit_p _) w hm) (fun w hm => ctimes_any (modN_Num fit_p _) hz2.num w hm) (fun w hm => ctimes_any hy.num (modN_Num fit_p _) w hm) (fun w hm => ctimes_any hx2.num (modN_Num fit_p _) w hm) (fun w hm => cminus_any (modN_Num fit_p _) (modN_Num fit_p _) w hm) (fun w hm => ctimes_any (modN_Num fit_p _) hz.num w hm) (fun w hm => ctimes_any hy2.num (modN_Num fit_p _) w hm) (fun w hm => cminus_any (modN_Num fit_p _) (modN_Num fit_p _) w hm) (.inl ⟨he, cj⟩) w hm⟩
  · have e0 : ¬ EC.run (J3 x y z).x (J3 x y z).z (J3 x2 y2 z2).x (J3 x2 y2 z2).z = 0 := by rw [← fh]; exact fp_nz lh hh
    have he : ∀ w, (Op.equalIn 10000 24 (.agg #[.int .u64 (l0 h), .int .u64 (l1 h), .int .u64 (l2 h), .int .u64 (l3 h)]) (.agg #[.int .u64 0, .int .u64 0, .int .u64 0, .int .u64 0])).run Tryz.prog w = .ok false w := fun w => by
      have := eq_num lh.num (m := 0) ⟨by decide, by decide⟩ w
      obtain ⟨z0, z1, z2, z3⟩ := zero_limbs
      rw [z0, z1, z2, z3, decide_eq_false hh] at this
      exact this
    subst eh; subst er
    refine ⟨_, _, _, EC.low_mod _, EC.low_mod _, EC.low_mod _, ?_, fun w hm => cadd_walk C0 C1 (fun w hm => csquare_any hz.num w hm) (fun w hm => csquare_any hz2.num w hm) (fun w hm => ctimes_any hx.num (modN_Num fit_p _) w hm) (fun w hm => ctimes_any (modN_Num fit_p _) hz2.num w hm) (fun w hm => ctimes_any hy.num (modN_Num fit_p _) w hm) (fun w hm => ctimes_any hx2.num (modN_Num fit_p _) w hm) (fun w hm => cminus_any (modN_Num fit_p _) (modN_Num fit_p _) w hm) (fun w hm => ctimes_any (modN_Num fit_p _) hz.num w hm) (fun w hm => ctimes_any hy2.num (modN_Num fit_p _) w hm) (fun w hm => cminus_any (modN_Num fit_p _) (modN_Num fit_p _) w hm) (.inr ⟨he, _, _, _, _, _, _, _, _, _, _, ⟨(fun w hm => csquare_any (modN_Num fit_p _) w hm), (fun w hm => ctimes_any (modN_Num fit_p _) (modN_Num fit_p _) w hm), (fun w hm => ctimes_any (modN_Num fit_p _) (modN_Num fit_p _) w hm), (fun w hm => csquare_any (modN_Num fit_p _) w hm), (fun w hm => cminus_any (modN_Num fit_p _) (modN_Num fit_p _) w hm), (fun w hm => ctwice_any (modN_Num fit_p _) w hm), (fun w hm => cminus_any (modN_Num fit_p _) (modN_Num fit_p _) w hm), (fun w hm => cminus_any (modN_Num fit_p _) (modN_Num fit_p _) w hm), (fun w hm => ctimes_any (modN_Num fit_p _) (modN_Num fit_p _) w hm), (fun w hm => ctimes_any (modN_Num fit_p _) (modN_Num fit_p _) w hm), (fun w hm => cminus_any (modN_Num fit_p _) (modN_Num fit_p _) w hm), (fun w hm => ctimes_any hz.num hz2.num w hm), (fun w hm => ctimes_any (modN_Num fit_p _) (modN_Num fit_p _) w hm)⟩⟩) w hm⟩
    unfold EC.ja
    rw [if_neg n0, if_neg n2, if_neg e0, ← fh, ← fr]
    unfold J3
    simp only [EC.fp_mod, EC.fp_mul, EC.fp_add, EC.fp_sub]
    generalize EC.fp x = X; generalize EC.fp y = Y; generalize EC.fp z = Z; generalize EC.fp x2 = X2; generalize EC.fp y2 = Y2; generalize EC.fp z2 = Z2
    generalize X2 * (Z * Z) - X * (Z2 * Z2) = H
    generalize Y2 * (Z * Z * Z) - Y * (Z2 * Z2 * Z2) = R
    congr 1
    · unfold EC.ax; grind -lia -linarith
    · unfold EC.ay EC.ax; grind -lia -linarith
end Go.Proofs.YtncpjgpioajbeaaGreatDoor

import Derived.Test.YtncpjgpioajbeaaGreatDoorCRBoth
import Derived.Test.YtncpjgpioajbeaaGreatDoorFRInv
namespace Go.Proofs.YtncpjgpioajbeaaGreatDoor
open Go.RowKit Go.Sort

theorem eqz {n : Int} (hn : Num n) {v : Bool} (e : decide (n = 0) = v) : ∀ w, (Op.equalIn 10000 24 (.agg #[.int .u64 (l0 n), .int .u64 (l1 n), .int .u64 (l2 n), .int .u64 (l3 n)]) (.agg #[.int .u64 0, .int .u64 0, .int .u64 0, .int .u64 0])).run Tryz.prog w = .ok v w := fun w => by
  have := eq_num hn (m := 0) ⟨by decide, by decide⟩ w
  obtain ⟨z0, z1, z2, z3⟩ := zero_limbs
  rw [z0, z1, z2, z3, e] at this
  exact this

set_option maxHeartbeats 4000000 in
theorem r5twice_J {x y z : Int} (hx : EC.Low x) (hy : EC.Low y) (hz : EC.Low z) : ∃ x' y' z', EC.Low x' ∧ EC.Low y' ∧ EC.Low z' ∧ J3 x' y' z' = ⟨EC.dx (EC.fp x) (EC.fp y), EC.dy (EC.fp x) (EC.fp y), EC.dz (EC.fp y) (EC.fp z)⟩ ∧
    ∀ w, Calls Tryz.prog 142 #[.agg #[.int .u64 (l0 x), .int .u64 (l1 x), .int .u64 (l2 x), .int .u64 (l3 x), .int .u64 (l0 y), .int .u64 (l1 y), .int .u64 (l2 y), .int .u64 (l3 y), .int .u64 (l0 z), .int .u64 (l1 z), .int .u64 (l2 z), .int .u64 (l3 z)]] w fun e w' => e = .returned (.agg #[.int .u64 (l0 x'), .int .u64 (l1 x'), .int .u64 (l2 x'), .int .u64 (l3 x'), .int .u64 (l0 y'), .int .u64 (l1 y'), .int .u64 (l2 y'), .int .u64 (l3 y'), .int .u64 (l0 z'), .int .u64 (l1 z'), .int .u64 (l2 z'), .int .u64 (l3 z')]) ∧ Below w.heap.size w w' := by
  refine ⟨_, _, _, EC.low_mod _, EC.low_mod _, EC.low_mod _, ?_, fun w => r5twice_walk (fun w => r5mul_any hy.num hy.num w) (fun w => r5mul_any hx.num (modN_Num fit_p _) w) (fun w => r5times_any ⟨by decide, by decide⟩ (modN_Num fit_p _) w) (fun w => r5mul_any hx.num hx.num w) (fun w => r5times_any ⟨by decide, by decide⟩ (modN_Num fit_p _) w) (fun w => r5mul_any (modN_Num fit_p _) (modN_Num fit_p _) w) (fun w => r5times_any ⟨by decide, by decide⟩ (modN_Num fit_p _) w) (fun w => r5sub_any (modN_Num fit_p _) (modN_Num fit_p _) w) (fun w => r5sub_any (modN_Num fit_p _) (modN_Num fit_p _) w) (fun w => r5mul_any (modN_Num fit_p _) (modN_Num fit_p _) w) (fun w => r5mul_any (modN_Num fit_p _) (modN_Num fit_p _) w) (fun w => r5times_any ⟨by decide, by decide⟩ (modN_Num fit_p _) w) (fun w => r5sub_any (modN_Num fit_p _) (modN_Num fit_p _) w) (fun w => r5mul_any hy.num hz.num w) (fun w => r5times_any ⟨by decide, by decide⟩ (modN_Num fit_p _) w) w⟩
  unfold J3
  simp only [EC.fp_mod, EC.fp_mul, EC.fp_sub]
  have f2 : EC.fp 2 = 2 := by decide +kernel
  have f3 : EC.fp 3 = 3 := by decide +kernel
  have f4 : EC.fp 4 = 4 := by decide +kernel
  have f8 : EC.fp 8 = 8 := by decide +kernel
  rw [f2, f3, f4, f8]
  rfl
theorem r5twice_pt {x y z : Int} (hx : EC.Low x) (hy : EC.Low y) (hz : EC.Low z) (on : EC.On (J3 x y z).pt) : ∃ x' y' z', EC.Low x' ∧ EC.Low y' ∧ EC.Low z' ∧ (J3 x' y' z').pt = (J3 x y z).pt.add (J3 x y z).pt ∧
    ∀ w, Calls Tryz.prog 142 #[.agg #[.int .u64 (l0 x), .int .u64 (l1 x), .int .u64 (l2 x), .int .u64 (l3 x), .int .u64 (l0 y), .int .u64 (l1 y), .int .u64 (l2 y), .int .u64 (l3 y), .int .u64 (l0 z), .int .u64 (l1 z), .int .u64 (l2 z), .int .u64 (l3 z)]] w fun e w' => e = .returned (.agg #[.int .u64 (l0 x'), .int .u64 (l1 x'), .int .u64 (l2 x'), .int .u64 (l3 x'), .int .u64 (l0 y'), .int .u64 (l1 y'), .int .u64 (l2 y'), .int .u64 (l3 y'), .int .u64 (l0 z'), .int .u64 (l1 z'), .int .u64 (l2 z'), .int .u64 (l3 z')]) ∧ Below w.heap.size w w' := by
  obtain ⟨x', y', z', l1, l2, l3, ej, cj⟩ := r5twice_J hx hy hz
  refine ⟨x', y', z', l1, l2, l3, ?_, cj⟩
  by_cases h0 : z = 0
  · have e1 : (J3 x y z).pt = .o := EC.pt_o (by show EC.fp z = 0; rw [h0, EC.fp_zero])
    rw [e1, ej]
    refine EC.pt_o ?_
    show EC.dz (EC.fp y) (EC.fp z) = 0
    rw [h0, EC.fp_zero]
    unfold EC.dz
    grind -lia -linarith
  · rw [← EC.jd_pt on, ej]
    unfold EC.jd
    rw [if_neg (show ¬ (J3 x y z).z = 0 from fp_nz hz h0)]
    rfl

set_option maxHeartbeats 4000000 in
theorem r5both_J {x y z x2 y2 z2 : Int} (hx : EC.Low x) (hy : EC.Low y) (hz : EC.Low z) (hx2 : EC.Low x2) (hy2 : EC.Low y2) (hz2 : EC.Low z2) : ∃ x' y' z', EC.Low x' ∧ EC.Low y' ∧ EC.Low z' ∧ J3 x' y' z' = EC.ja (J3 x y z) (J3 x2 y2 z2) ∧
    ∀ w, Calls Tryz.prog 144 #[.agg #[.int .u64 (l0 x), .int .u64 (l1 x), .int .u64 (l2 x), .int .u64 (l3 x), .int .u64 (l0 y), .int .u64 (l1 y), .int .u64 (l2 y), .int .u64 (l3 y), .int .u64 (l0 z), .int .u64 (l1 z), .int .u64 (l2 z), .int .u64 (l3 z)], .agg #[.int .u64 (l0 x2), .int .u64 (l1 x2), .int .u64 (l2 x2), .int .u64 (l3 x2), .int .u64 (l0 y2), .int .u64 (l1 y2), .int .u64 (l2 y2), .int .u64 (l3 y2), .int .u64 (l0 z2), .int .u64 (l1 z2), .int .u64 (l2 z2), .int .u64 (l3 z2)]] w fun e w' => e = .returned (.agg #[.int .u64 (l0 x'), .int .u64 (l1 x'), .int .u64 (l2 x'), .int .u64 (l3 x'), .int .u64 (l0 y'), .int .u64 (l1 y'), .int .u64 (l2 y'), .int .u64 (l3 y'), .int .u64 (l0 z'), .int .u64 (l1 z'), .int .u64 (l2 z'), .int .u64 (l3 z')]) ∧ Below w.heap.size w w' := by
  by_cases h0 : z = 0
  · refine ⟨x2, y2, z2, hx2, hy2, hz2, ?_, fun w => r5both_l (eqz hz.num (decide_eq_true h0)) w⟩
    unfold EC.ja
    rw [if_pos (show (J3 x y z).z = 0 by show EC.fp z = 0; rw [h0, EC.fp_zero])]
  have n0 : ¬ (J3 x y z).z = 0 := fp_nz hz h0
  have E0 := eqz hz.num (decide_eq_false h0)
  by_cases h2 : z2 = 0
  · refine ⟨x, y, z, hx, hy, hz, ?_, fun w => r5both_r E0 (eqz hz2.num (decide_eq_true h2)) w⟩
    unfold EC.ja
    rw [if_neg n0, if_pos (show (J3 x2 y2 z2).z = 0 by show EC.fp z2 = 0; rw [h2, EC.fp_zero])]
  have n2 : ¬ (J3 x2 y2 z2).z = 0 := fp_nz hz2 h2
  have E1 := eqz hz2.num (decide_eq_false h2)
  obtain ⟨h, eh⟩ : ∃ h, h = modN pN (modN pN (x2 * modN pN (z * z)) - modN pN (x * modN pN (z2 * z2))) := ⟨_, rfl⟩
  obtain ⟨r, er⟩ : ∃ r, r = modN pN (modN pN (y2 * modN pN (modN pN (z * z) * z)) - modN pN (y * modN pN (modN pN (z2 * z2) * z2))) := ⟨_, rfl⟩
  have lh : EC.Low h := by rw [eh]; exact EC.low_mod _
  have lr : EC.Low r := by rw [er]; exact EC.low_mod _
  have fh : EC.fp h = EC.run (J3 x y z).x (J3 x y z).z (J3 x2 y2 z2).x (J3 x2 y2 z2).z := by
    rw [eh]; simp only [EC.fp_mod, EC.fp_mul, EC.fp_sub]; rfl
  have fr : EC.fp r = EC.rise (J3 x y z).y (J3 x y z).z (J3 x2 y2 z2).y (J3 x2 y2 z2).z := by
    rw [er]; simp only [EC.fp_mod, EC.fp_mul, EC.fp_sub]; rfl
  by_cases hh : h = 0
  · have e0 : EC.run (J3 x y z).x (J3 x y z).z (J3 x2 y2 z2).x (J3 x2 y2 z2).z = 0 := by rw [← fh, hh, EC.fp_zero]
    have Eh := eqz lh.num (decide_eq_true hh)
    by_cases hr : r = 0
    · obtain ⟨x', y', z', l1, l2, l3, ej, cj⟩ := r5twice_J hx hy hz
      have Er := eqz lr.num (decide_eq_true hr)
      subst eh; subst er
      refine ⟨x', y', z', l1, l2, l3, ?_, fun w => r5both_same E0 E1 (fun w => r5mul_any hz.num hz.num w) (fun w => r5mul_any hz2.num hz2.num w) (fun w => r5mul_any hx.num (modN_Num fit_p _) w) (fun w => r5mul_any (modN_Num fit_p _) hz2.num w) (fun w => r5mul_any hy.num (modN_Num fit_p _) w) (fun w => r5mul_any hx2.num (modN_Num fit_p _) w) (fun w => r5sub_any (modN_Num fit_p _) (modN_Num fit_p _) w) (fun w => r5mul_any (modN_Num fit_p _) hz.num w) (fun w => r5mul_any hy2.num (modN_Num fit_p _) w) (fun w => r5sub_any (modN_Num fit_p _) (modN_Num fit_p _) w) Eh Er cj w⟩
      rw [ej]; unfold EC.ja
      rw [if_neg n0, if_neg n2, if_pos e0, if_pos (by rw [← fr, hr, EC.fp_zero])]
      unfold EC.jd
      rw [if_neg n0]
      rfl
    · have Er := eqz lr.num (decide_eq_false hr)
      have e1 : ¬ EC.rise (J3 x y z).y (J3 x y z).z (J3 x2 y2 z2).y (J3 x2 y2 z2).z = 0 := by rw [← fr]; exact fp_nz lr hr
      subst eh; subst er
      refine ⟨0, 0, 0, ⟨by decide, by decide⟩, ⟨by decide, by decide⟩, ⟨by decide, by decide⟩, ?_, fun w => r5both_opp E0 E1 (fun w => r5mul_any hz.num hz.num w) (fun w => r5mul_any hz2.num hz2.num w) (fun w => r5mul_any hx.num (modN_Num fit_p _) w) (fun w => r5mul_any (modN_Num fit_p _) hz2.num w) (fun w => r5mul_any hy.num (modN_Num fit_p _) w) (fun w => r5mul_any hx2.num (modN_Num fit_p _) w) (fun w => r5sub_any (modN_Num fit_p _) (modN_Num fit_p _) w) (fun w => r5mul_any (modN_Num fit_p _) hz.num w) (fun w => r5mul_any hy2.num (modN_Num fit_p _) w) (fun w => r5sub_any (modN_Num fit_p _) (modN_Num fit_p _) w) Eh Er w⟩
      unfold EC.ja
      rw [if_neg n0, if_neg n2, if_pos e0, if_neg e1]
      unfold J3 EC.J.o
      rw [EC.fp_zero]
  · have e0 : ¬ EC.run (J3 x y z).x (J3 x y z).z (J3 x2 y2 z2).x (J3 x2 y2 z2).z = 0 := by rw [← fh]; exact fp_nz lh hh
    have Eh := eqz lh.num (decide_eq_false hh)
    subst eh; subst er
    refine ⟨_, _, _, EC.low_mod _, EC.low_mod _, EC.low_mod _, ?_, fun w => r5both_walk E0 E1 (fun w => r5mul_any hz.num hz.num w) (fun w => r5mul_any hz2.num hz2.num w) (fun w => r5mul_any hx.num (modN_Num fit_p _) w) (fun w => r5mul_any (modN_Num fit_p _) hz2.num w) (fun w => r5mul_any hy.num (modN_Num fit_p _) w) (fun w => r5mul_any hx2.num (modN_Num fit_p _) w) (fun w => r5sub_any (modN_Num fit_p _) (modN_Num fit_p _) w) (fun w => r5mul_any (modN_Num fit_p _) hz.num w) (fun w => r5mul_any hy2.num (modN_Num fit_p _) w) (fun w => r5sub_any (modN_Num fit_p _) (modN_Num fit_p _) w) (fun w => r5mul_any (modN_Num fit_p _) (modN_Num fit_p _) w) (fun w => r5mul_any (modN_Num fit_p _) (modN_Num fit_p _) w) (fun w => r5mul_any (modN_Num fit_p _) (modN_Num fit_p _) w) (fun w => r5mul_any (modN_Num fit_p _) (modN_Num fit_p _) w) (fun w => r5sub_any (modN_Num fit_p _) (modN_Num fit_p _) w) (fun w => r5times_any ⟨by decide, by decide⟩ (modN_Num fit_p _) w) (fun w => r5sub_any (modN_Num fit_p _) (modN_Num fit_p _) w) (fun w => r5sub_any (modN_Num fit_p _) (modN_Num fit_p _) w) (fun w => r5mul_any (modN_Num fit_p _) (modN_Num fit_p _) w) (fun w => r5mul_any (modN_Num fit_p _) (modN_Num fit_p _) w) (fun w => r5sub_any (modN_Num fit_p _) (modN_Num fit_p _) w) (fun w => r5mul_any hz.num hz2.num w) (fun w => r5mul_any (modN_Num fit_p _) (modN_Num fit_p _) w) Eh w⟩
    unfold EC.ja
    rw [if_neg n0, if_neg n2, if_neg e0, ← fh, ← fr]
    unfold J3
    simp only [EC.fp_mod, EC.fp_mul, EC.fp_sub]
    have f2 : EC.fp 2 = 2 := by decide +kernel
    rw [f2]
    generalize EC.fp x = X; generalize EC.fp y = Y; generalize EC.fp z = Z; generalize EC.fp x2 = X2; generalize EC.fp y2 = Y2; generalize EC.fp z2 = Z2
    generalize X2 * (Z * Z) - X * (Z2 * Z2) = H
    generalize Y2 * (Z * Z * Z) - Y * (Z2 * Z2 * Z2) = R
    congr 1
    unfold EC.az; grind -lia -linarith

set_option maxHeartbeats 1000000 in
theorem r5identity_any (w : World) : Calls Tryz.prog 139 #[] w fun e w' => e = .returned (.agg #[.int .u64 (l0 0), .int .u64 (l1 0), .int .u64 (l2 0), .int .u64 (l3 0), .int .u64 (l0 0), .int .u64 (l1 0), .int .u64 (l2 0), .int .u64 (l3 0), .bool true]) ∧ Below w.heap.size w w' := by
  obtain ⟨z0, z1, z2, z3⟩ := zero_limbs
  rw [z0, z1, z2, z3]
  go_enter Tryz.func139, Tryz.ntmps139
  go_wp2
  simp [bodyPost, results, Tryz.results139, go_sem]
  repeat (first | with_reducible exact Below.refl _ _ | with_reducible refine Below.alloc ?_ (by first | omega | (simp; done) | (simp; omega)) _ | with_reducible refine Below.setCell ?_ (by first | omega | (simp; done) | (simp; omega)) _)
theorem r5point_J {x y z : Int} (hx : EC.Low x) (hy : EC.Low y) (hz : EC.Low z) : ∃ x' y' i, EC.Low x' ∧ EC.Low y' ∧ (i = true → x' = 0 ∧ y' = 0) ∧ ptOf x' y' i = (J3 x y z).pt ∧
    ∀ w, Calls Tryz.prog 122 #[.agg #[.int .u64 (l0 x), .int .u64 (l1 x), .int .u64 (l2 x), .int .u64 (l3 x), .int .u64 (l0 y), .int .u64 (l1 y), .int .u64 (l2 y), .int .u64 (l3 y), .int .u64 (l0 z), .int .u64 (l1 z), .int .u64 (l2 z), .int .u64 (l3 z)]] w fun e w' => e = .returned (.agg #[.int .u64 (l0 x'), .int .u64 (l1 x'), .int .u64 (l2 x'), .int .u64 (l3 x'), .int .u64 (l0 y'), .int .u64 (l1 y'), .int .u64 (l2 y'), .int .u64 (l3 y'), .bool i]) ∧ Below w.heap.size w w' := by
  by_cases h0 : z = 0
  · refine ⟨0, 0, true, ⟨by decide, by decide⟩, ⟨by decide, by decide⟩, fun _ => ⟨rfl, rfl⟩, ?_, fun w => r5point_o (eqz hz.num (decide_eq_true h0)) (fun w => r5identity_any w) w⟩
    subst h0
    exact (EC.pt_o EC.fp_zero).symm
  · have hm0 : modN (rM 0) z ≠ 0 := by show modN pN z ≠ 0; rw [modN_of_lt hz.1 hz.2]; exact h0
    refine ⟨_, _, false, EC.low_mod _, EC.low_mod _, (fun e => by cases e), ?_, fun w => r5point_walk (v := invN pN z) (eqz hz.num (decide_eq_false h0)) (fun w => rInverse_good (.inl rfl) hz.num hm0 w)
      (fun w => r5mul_any (powN_Num fit_p _ _) (powN_Num fit_p _ _) w) (fun w => r5mul_any hx.num (modN_Num fit_p _) w) (fun w => r5mul_any (modN_Num fit_p _) (powN_Num fit_p _ _) w) (fun w => r5mul_any hy.num (modN_Num fit_p _) w) w⟩
    show EC.Pt.a _ _ = EC.pt (EC.fp x) (EC.fp y) (EC.fp z)
    unfold EC.pt
    rw [if_neg (fp_nz hz h0)]
    have ei : EC.fp (powN pN z (pN - 2)) = EC.iv (EC.fp z) := EC.fp_inv hz
    simp only [EC.fp_mod, EC.fp_mul, ei]
theorem r5three_J {x y : Int} {i : Bool} (h : Vd x y i) : ∃ x' y' z', EC.Low x' ∧ EC.Low y' ∧ EC.Low z' ∧ (J3 x' y' z').pt = ptOf x y i ∧
    ∀ w, Calls Tryz.prog 141 #[.agg #[.int .u64 (l0 x), .int .u64 (l1 x), .int .u64 (l2 x), .int .u64 (l3 x), .int .u64 (l0 y), .int .u64 (l1 y), .int .u64 (l2 y), .int .u64 (l3 y), .bool i]] w fun e w' => e = .returned (.agg #[.int .u64 (l0 x'), .int .u64 (l1 x'), .int .u64 (l2 x'), .int .u64 (l3 x'), .int .u64 (l0 y'), .int .u64 (l1 y'), .int .u64 (l2 y'), .int .u64 (l3 y'), .int .u64 (l0 z'), .int .u64 (l1 z'), .int .u64 (l2 z'), .int .u64 (l3 z')]) ∧ Below w.heap.size w w' := by
  cases i with
  | true => exact ⟨0, 0, 0, ⟨by decide, by decide⟩, ⟨by decide, by decide⟩, ⟨by decide, by decide⟩, EC.pt_o EC.fp_zero, fun w => r5three_id w⟩
  | false =>
    refine ⟨x, y, 1, h.1, h.2.1, ⟨by decide, by decide⟩, ?_, fun w => r5three_pt (fun w => rfrom_any ⟨by decide, by decide⟩ w) w⟩
    show EC.pt (EC.fp x) (EC.fp y) (EC.fp 1) = .a (EC.fp x) (EC.fp y)
    rw [EC.fp_one]
    refine EC.pt_of (by decide +kernel) ?_ ?_ <;> grind -lia -linarith
end Go.Proofs.YtncpjgpioajbeaaGreatDoor

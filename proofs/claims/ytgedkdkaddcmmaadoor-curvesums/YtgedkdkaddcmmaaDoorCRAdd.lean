import Derived.Test.YtgedkdkaddcmmaaDoorCRPlus
import Derived.Test.YtgedkdkaddcmmaaDoorCOps
namespace Go.Proofs.YtgedkdkaddcmmaaDoor
open Go.RowKit Go.Sort

theorem r5over_any {x y : Int} (hx : Num x) (hy : Num y) (h : modN pN y ≠ 0) : Hid (∀ w, Calls Tryd.prog 28 #[.agg #[.int .u64 (l0 x), .int .u64 (l1 x), .int .u64 (l2 x), .int .u64 (l3 x)], .agg #[.int .u64 (l0 y), .int .u64 (l1 y), .int .u64 (l2 y), .int .u64 (l3 y)]] w fun e w' => e = .returned (.agg #[.int .u64 (l0 (modN pN (x * invN pN y))), .int .u64 (l1 (modN pN (x * invN pN y))), .int .u64 (l2 (modN pN (x * invN pN y))), .int .u64 (l3 (modN pN (x * invN pN y)))]) ∧ Below w.heap.size w w') := fun w =>
  r5over_walk (fun w => rInverse_good (.inl rfl) hy h w) (fun w => r5mul_any hx (powN_Num fit_p _ _) w) w
theorem fp_neg0 (y : Int) : EC.fp (modN pN (0 - y)) = -EC.fp y := by
  rw [EC.fp_mod, EC.fp_sub, EC.fp_zero]
  generalize EC.fp y = Y
  grind -lia -linarith
theorem eqp {x y x2 y2 : Int} (hx : Num x) (hy : Num y) (hx2 : Num x2) (hy2 : Num y2) {v : Bool} (e : (decide (x = x2) && decide (y = y2)) = v) : ∀ w, (Op.equalIn 10000 27 (.agg #[.int .u64 (l0 x), .int .u64 (l1 x), .int .u64 (l2 x), .int .u64 (l3 x), .int .u64 (l0 y), .int .u64 (l1 y), .int .u64 (l2 y), .int .u64 (l3 y), .bool false]) (.agg #[.int .u64 (l0 x2), .int .u64 (l1 x2), .int .u64 (l2 x2), .int .u64 (l3 x2), .int .u64 (l0 y2), .int .u64 (l1 y2), .int .u64 (l2 y2), .int .u64 (l3 y2), .bool false])).run Tryd.prog w = .ok v w := fun w => by
  rw [eq_pt_any hx hy hx2 hy2, ← e]
  simp
theorem same_x {x y x2 y2 : Int} (hp : Vd x y false) (hq : Vd x2 y2 false) (h1 : ¬ (x2 = x ∧ y2 = modN pN (0 - y))) (h2 : ¬ (x = x2 ∧ y = y2)) : EC.fp x ≠ EC.fp x2 := fun e => by
  have ex := EC.fp_inj hp.1 hq.1 e
  subst ex
  have o1 : EC.fp y * EC.fp y = EC.fp x * EC.fp x * EC.fp x + 7 := hp.2.2
  have o2 : EC.fp y2 * EC.fp y2 = EC.fp x * EC.fp x * EC.fp x + 7 := hq.2.2
  by_cases hd : EC.fp y2 - EC.fp y = 0
  · refine h2 ⟨rfl, EC.fp_inj hp.2.1 hq.2.1 ?_⟩
    generalize EC.fp y2 = Y2 at *; generalize EC.fp y = Y at *
    grind -lia -linarith
  · have h0 : (EC.fp y2 - EC.fp y) * (EC.fp y2 + EC.fp y) = 0 := by
      generalize EC.fp y2 = Y2 at *; generalize EC.fp y = Y at *; generalize EC.fp x = X at *
      grind -lia -linarith
    have h3 := EC.mul0 h0 hd
    refine h1 ⟨rfl, EC.fp_inj hq.2.1 (EC.low_mod _) ?_⟩
    rw [fp_neg0]
    generalize EC.fp y2 = Y2 at *; generalize EC.fp y = Y at *
    grind -lia -linarith
set_option maxHeartbeats 4000000 in
theorem r5plus_any {x y x2 y2 x' y' : Int} {i i2 j : Bool} (hp : Vd x y i) (hq : Vd x2 y2 i2) (hj : Vd x' y' j) (ej : ptOf x' y' j = (ptOf x y i).add (ptOf x2 y2 i2)) : Hid (∀ w, Calls Tryd.prog 13 #[.agg #[.int .u64 (l0 x), .int .u64 (l1 x), .int .u64 (l2 x), .int .u64 (l3 x), .int .u64 (l0 y), .int .u64 (l1 y), .int .u64 (l2 y), .int .u64 (l3 y), .bool i], .agg #[.int .u64 (l0 x2), .int .u64 (l1 x2), .int .u64 (l2 x2), .int .u64 (l3 x2), .int .u64 (l0 y2), .int .u64 (l1 y2), .int .u64 (l2 y2), .int .u64 (l3 y2), .bool i2]] w fun e w' => e = .returned (.agg #[.int .u64 (l0 x'), .int .u64 (l1 x'), .int .u64 (l2 x'), .int .u64 (l3 x'), .int .u64 (l0 y'), .int .u64 (l1 y'), .int .u64 (l2 y'), .int .u64 (l3 y'), .bool j]) ∧ Below w.heap.size w w') := by
  cases i with
  | true =>
    obtain ⟨rfl, rfl, rfl⟩ := hj.inj hq ej
    exact fun w => r5plus_l w
  | false =>
    cases i2 with
    | true =>
      obtain ⟨rfl, rfl, rfl⟩ := hj.inj hp (ej.trans (EC.add_o _))
      exact fun w => r5plus_r w
    | false =>
      have nx := hp.1.num; have ny := hp.2.1.num; have nx2 := hq.1.num; have ny2 := hq.2.1.num
      have CN : Hid (∀ w, Calls Tryd.prog 27 #[.agg #[.int .u64 (l0 x), .int .u64 (l1 x), .int .u64 (l2 x), .int .u64 (l3 x), .int .u64 (l0 y), .int .u64 (l1 y), .int .u64 (l2 y), .int .u64 (l3 y), .bool false]] w fun e w' => e = .returned (.agg #[.int .u64 (l0 x), .int .u64 (l1 x), .int .u64 (l2 x), .int .u64 (l3 x), .int .u64 (l0 (modN pN (0 - y))), .int .u64 (l1 (modN pN (0 - y))), .int .u64 (l2 (modN pN (0 - y))), .int .u64 (l3 (modN pN (0 - y))), .bool false]) ∧ Below w.heap.size w w') := fun w => r5neg_any ny w
      have ea : (ptOf x y false).add (ptOf x2 y2 false) = _ := EC.add_aa (EC.fp x) (EC.fp y) (EC.fp x2) (EC.fp y2)
      by_cases h1 : x2 = x ∧ y2 = modN pN (0 - y)
      · have e0 : ptOf x' y' j = ptOf 0 0 true := by
          rw [ej, ea, if_pos ⟨by rw [h1.1], by rw [h1.2, fp_neg0]; generalize EC.fp y = Y; grind -lia -linarith⟩]
          rfl
        obtain ⟨rfl, rfl, rfl⟩ := hj.inj (show Vd 0 0 true from ⟨rfl, rfl⟩) e0
        exact fun w => r5plus_opp CN (eqp nx2 ny2 nx (modN_Num fit_p _) (by rw [decide_eq_true h1.1, decide_eq_true h1.2]; rfl)) (fun w => r5identity_any w) w
      · have E5 := eqp nx2 ny2 nx (modN_Num fit_p _) (v := false) (y2 := modN pN (0 - y)) (by
          by_cases hx : x2 = x
          · rw [decide_eq_true hx, decide_eq_false fun hy => h1 ⟨hx, hy⟩]; rfl
          · rw [decide_eq_false hx]; rfl)
        have nadd : ¬ (EC.fp x = EC.fp x2 ∧ EC.fp y = -EC.fp y2) := fun ⟨e1, e2⟩ => h1 ⟨(EC.fp_inj hp.1 hq.1 e1).symm, EC.fp_inj hq.2.1 (EC.low_mod _) (by rw [fp_neg0, e2]; generalize EC.fp y2 = Y; grind -lia -linarith)⟩
        rw [if_neg nadd] at ea
        rw [ea] at ej
        have fin : ∀ mm, EC.fp mm = EC.slope (EC.fp x) (EC.fp y) (EC.fp x2) (EC.fp y2) → ∀ u v, u = modN pN (modN pN (modN pN (mm * mm) - x) - x2) → v = modN pN (modN pN (mm * modN pN (x - u)) - y) → u = x' ∧ v = y' ∧ false = j := fun mm em u v eu ev => by
          have e1 : ptOf u v false = ptOf x' y' j := by
            rw [ej]
            show EC.Pt.a _ _ = _
            rw [ev, eu]
            simp only [EC.fp_mod, EC.fp_mul, EC.fp_sub]
            rw [em]
          refine Vd.inj (i := false) ?_ hj e1
          have hon := hj.on
          rw [← e1] at hon
          exact ⟨by rw [eu]; exact EC.low_mod _, by rw [ev]; exact EC.low_mod _, hon⟩
        by_cases h2 : x = x2 ∧ y = y2
        · have E8 := eqp nx ny nx2 ny2 (v := true) (by rw [decide_eq_true h2.1, decide_eq_true h2.2]; rfl)
          have y0 : y ≠ 0 := fun e => h1 ⟨h2.1.symm, by rw [← h2.2, e]; rfl⟩
          have f2 : EC.fp 2 = 2 := by decide +kernel
          have f3 : EC.fp 3 = 3 := by decide +kernel
          have b0 : modN pN (modN pN (2 * y)) ≠ 0 := fun e => by
            have e1 : EC.fp 2 * EC.fp y = 0 := by rw [← EC.fp_mul, ← EC.fp_mod, ← EC.fp_mod, e, EC.fp_zero]
            rw [f2] at e1
            exact fp_nz hp.2.1 y0 (EC.mul0 e1 EC.two)
          obtain ⟨r1, r2, r3⟩ := fin (modN pN (modN pN (3 * modN pN (x * x)) * invN pN (modN pN (2 * y)))) (by
            have ei : EC.fp (invN pN (modN pN (2 * y))) = EC.iv (EC.fp (modN pN (2 * y))) := EC.fp_inv (EC.low_mod _)
            unfold EC.slope
            rw [if_pos (by rw [h2.1]), EC.fp_mod, EC.fp_mul, ei]
            simp only [EC.fp_mod, EC.fp_mul]
            rw [f2, f3]) _ _ rfl rfl
          subst r3
          rw [← r1, ← r2]
          exact fun w => r5plus_tan CN E5 E8 (fun w => r5mul_any nx nx w) (fun w => r5times_any ⟨by decide, by decide⟩ (modN_Num fit_p _) w) (fun w => r5times_any ⟨by decide, by decide⟩ ny w) (r5over_any (modN_Num fit_p _) (modN_Num fit_p _) b0)
            (fun w => r5mul_any (modN_Num fit_p _) (modN_Num fit_p _) w) (fun w => r5sub_any (modN_Num fit_p _) nx w) (fun w => r5sub_any (modN_Num fit_p _) nx2 w) (fun w => r5sub_any nx (modN_Num fit_p _) w) (fun w => r5mul_any (modN_Num fit_p _) (modN_Num fit_p _) w) (fun w => r5sub_any (modN_Num fit_p _) ny w) w
        · have E8 := eqp nx ny nx2 ny2 (v := false) (by
            by_cases hx : x = x2
            · rw [decide_eq_true hx, decide_eq_false fun hy => h2 ⟨hx, hy⟩]; rfl
            · rw [decide_eq_false hx]; rfl)
          have hx := same_x hp hq h1 h2
          have b0 : modN pN (modN pN (x2 - x)) ≠ 0 := fun e => hx (by
            have e1 : EC.fp x2 - EC.fp x = 0 := by rw [← EC.fp_sub, ← EC.fp_mod, ← EC.fp_mod, e, EC.fp_zero]
            generalize EC.fp x2 = X2 at *; generalize EC.fp x = X at *
            grind -lia -linarith)
          obtain ⟨r1, r2, r3⟩ := fin (modN pN (modN pN (y2 - y) * invN pN (modN pN (x2 - x)))) (by
            have ei : EC.fp (invN pN (modN pN (x2 - x))) = EC.iv (EC.fp (modN pN (x2 - x))) := EC.fp_inv (EC.low_mod _)
            unfold EC.slope
            rw [if_neg hx, EC.fp_mod, EC.fp_mul, ei]
            simp only [EC.fp_mod, EC.fp_sub]) _ _ rfl rfl
          subst r3
          rw [← r1, ← r2]
          exact fun w => r5plus_cho CN E5 E8 (fun w => r5sub_any ny2 ny w) (fun w => r5sub_any nx2 nx w) (r5over_any (modN_Num fit_p _) (modN_Num fit_p _) b0)
            (fun w => r5mul_any (modN_Num fit_p _) (modN_Num fit_p _) w) (fun w => r5sub_any (modN_Num fit_p _) nx w) (fun w => r5sub_any (modN_Num fit_p _) nx2 w) (fun w => r5sub_any nx (modN_Num fit_p _) w) (fun w => r5mul_any (modN_Num fit_p _) (modN_Num fit_p _) w) (fun w => r5sub_any (modN_Num fit_p _) ny w) w

end Go.Proofs.YtgedkdkaddcmmaaDoor

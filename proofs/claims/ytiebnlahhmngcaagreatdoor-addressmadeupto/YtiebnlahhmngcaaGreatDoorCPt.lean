import Derived.Test.YtiebnlahhmngcaaGreatDoorCFp
import Derived.Test.YtiebnlahhmngcaaGreatDoorCEq
namespace Go.Proofs.YtiebnlahhmngcaaGreatDoor
open Go.RowKit Go.Sort

set_option maxHeartbeats 4000000 in
theorem con_id {x y : Int} (hx : Num x) (hy : Num y) (w : World) :
    Calls Tryz.prog 50 #[.agg #[.int .u64 (l0 x), .int .u64 (l1 x), .int .u64 (l2 x), .int .u64 (l3 x), .int .u64 (l0 y), .int .u64 (l1 y), .int .u64 (l2 y), .int .u64 (l3 y), .bool true]] w fun e w' => e = .returned (.bool (decide (x = 0) && decide (y = 0))) ∧ Below w.heap.size w w' := by
  have he : ∀ w, (Op.equalIn 10000 46 (.agg #[.int .u64 (l0 x), .int .u64 (l1 x), .int .u64 (l2 x), .int .u64 (l3 x), .int .u64 (l0 y), .int .u64 (l1 y), .int .u64 (l2 y), .int .u64 (l3 y), .bool true]) (.agg #[.int .u64 0, .int .u64 0, .int .u64 0, .int .u64 0, .int .u64 0, .int .u64 0, .int .u64 0, .int .u64 0, .bool true])).run Tryz.prog w = .ok (decide (x = 0) && decide (y = 0)) w := fun w => by
    have := eq_pt_any (i := true) (j := true) hx hy (x' := 0) (y' := 0) ⟨by decide, by decide⟩ ⟨by decide, by decide⟩ w
    obtain ⟨z0, z1, z2, z3⟩ := zero_limbs
    rw [z0, z1, z2, z3] at this
    rw [this]; simp
  generalize (decide (x = 0) && decide (y = 0)) = r at *
  clear hx hy
  go_enter Tryz.func50, Tryz.ntmps50
  go_wp2
  simp [bodyPost, results, Tryz.results50, go_sem]
  repeat (first | with_reducible exact Below.refl _ _ | with_reducible refine Below.alloc ?_ (by first | omega | (simp; done) | (simp; omega)) _)

set_option maxRecDepth 100000 in
set_option maxHeartbeats 4000000 in
theorem con_x {x y : Int} (C1 : Hid (∀ w, Mds w → Calls Tryz.prog 73 #[.agg #[.int .u64 (l0 x), .int .u64 (l1 x), .int .u64 (l2 x), .int .u64 (l3 x)]] w fun e w' => e = .returned (.bool false) ∧ Below w.heap.size w w')) (w : World) (hm : Mds w) :
    Calls Tryz.prog 50 #[.agg #[.int .u64 (l0 x), .int .u64 (l1 x), .int .u64 (l2 x), .int .u64 (l3 x), .int .u64 (l0 y), .int .u64 (l1 y), .int .u64 (l2 y), .int .u64 (l3 y), .bool false]] w fun e w' => e = .returned (.bool false) ∧ Below w.heap.size w w' := by
  go_enter Tryz.func50, Tryz.ntmps50
  go_wp2_with fail
  refine wp_world (fun W => Below w.heap.size w W ∧ Mds W ∧ Pnt W w.heap.size x y false) ⟨by repeat (first | with_reducible exact Below.refl _ _ | with_reducible refine Below.alloc ?_ (by first | omega | (simp; done) | (simp; omega)) _), hm.alloc _, Pnt.new rfl⟩ ?_
  rintro W ⟨B, hD, hP⟩
  have ghP := hP.grown
  have hDg : ∀ d os, Mds (grow (redrawn W d) os) := fun d os => hD.keep (below_regrown W d os)
  refine wp_region_quiet_below (by kernel_rfl) (by kernel_rfl) ?_
  repeat
    first
      | go_big_quiet_skip
      | (go_big_quiet_want; go_big_quiet_op; go_big_quiet_on)
      | (go_big_quiet_want
         go_big_quiet_op
         apply Exists.intro
         refine ⟨fun p => ?_, ?_⟩
         · (first | (go_at_call 73; with_reducible exact Calls.regrown_of (C1.out _ (hDg p.d p.os))))
         go_big_quiet_on)
  refine wpQuiet_nil ?_
  rintro w1 ⟨p, rfl⟩
  have hb := below_regrown W p.d p.os
  generalize grow (redrawn W p.d) p.os = w1 at *
  replace B := B.trans (hb.mono B.size)
  replace hD := hD.keep hb; replace hP := hP.keep hb
  clear hb W ghP hDg
  clear hD hP
  go_wp2
  simp [bodyPost, results, Tryz.results50, go_sem]
  exact B

set_option maxRecDepth 100000 in
set_option maxHeartbeats 4000000 in
theorem con_y {x y : Int} (C1 : Hid (∀ w, Mds w → Calls Tryz.prog 73 #[.agg #[.int .u64 (l0 x), .int .u64 (l1 x), .int .u64 (l2 x), .int .u64 (l3 x)]] w fun e w' => e = .returned (.bool true) ∧ Below w.heap.size w w')) (C2 : Hid (∀ w, Mds w → Calls Tryz.prog 73 #[.agg #[.int .u64 (l0 y), .int .u64 (l1 y), .int .u64 (l2 y), .int .u64 (l3 y)]] w fun e w' => e = .returned (.bool false) ∧ Below w.heap.size w w')) (w : World) (hm : Mds w) :
    Calls Tryz.prog 50 #[.agg #[.int .u64 (l0 x), .int .u64 (l1 x), .int .u64 (l2 x), .int .u64 (l3 x), .int .u64 (l0 y), .int .u64 (l1 y), .int .u64 (l2 y), .int .u64 (l3 y), .bool false]] w fun e w' => e = .returned (.bool false) ∧ Below w.heap.size w w' := by
  go_enter Tryz.func50, Tryz.ntmps50
  go_wp2_with fail
  refine wp_world (fun W => Below w.heap.size w W ∧ Mds W ∧ Pnt W w.heap.size x y false) ⟨by repeat (first | with_reducible exact Below.refl _ _ | with_reducible refine Below.alloc ?_ (by first | omega | (simp; done) | (simp; omega)) _), hm.alloc _, Pnt.new rfl⟩ ?_
  rintro W ⟨B, hD, hP⟩
  have ghP := hP.grown
  have hDg : ∀ d os, Mds (grow (redrawn W d) os) := fun d os => hD.keep (below_regrown W d os)
  refine wp_region_quiet_below (by kernel_rfl) (by kernel_rfl) ?_
  repeat
    first
      | go_big_quiet_skip
      | (go_big_quiet_want; go_big_quiet_op; go_big_quiet_on)
      | (go_big_quiet_want
         go_big_quiet_op
         apply Exists.intro
         refine ⟨fun p => ?_, ?_⟩
         · (first | (go_at_call 73; with_reducible exact Calls.regrown_of (C1.out _ (hDg p.d p.os))) | (go_at_call 73; with_reducible exact Calls.regrown_of (C2.out _ (hDg p.d p.os))))
         go_big_quiet_on)
  refine wpQuiet_nil ?_
  rintro w1 ⟨p, rfl⟩
  have hb := below_regrown W p.d p.os
  generalize grow (redrawn W p.d) p.os = w1 at *
  replace B := B.trans (hb.mono B.size)
  replace hD := hD.keep hb; replace hP := hP.keep hb
  clear hb W ghP hDg
  clear hD hP
  go_wp2
  simp [bodyPost, results, Tryz.results50, go_sem]
  exact B

set_option maxRecDepth 100000 in
set_option maxHeartbeats 4000000 in
theorem con_q {x y a b : Int} {r : Bool} (C1 : Hid (∀ w, Mds w → Calls Tryz.prog 73 #[.agg #[.int .u64 (l0 x), .int .u64 (l1 x), .int .u64 (l2 x), .int .u64 (l3 x)]] w fun e w' => e = .returned (.bool true) ∧ Below w.heap.size w w')) (C2 : Hid (∀ w, Mds w → Calls Tryz.prog 73 #[.agg #[.int .u64 (l0 y), .int .u64 (l1 y), .int .u64 (l2 y), .int .u64 (l3 y)]] w fun e w' => e = .returned (.bool true) ∧ Below w.heap.size w w')) (C3 : Hid (∀ w, Mds w → Calls Tryz.prog 47 #[.agg #[.int .u64 (l0 y), .int .u64 (l1 y), .int .u64 (l2 y), .int .u64 (l3 y)]] w fun e w' => e = .returned (.agg #[.int .u64 (l0 a), .int .u64 (l1 a), .int .u64 (l2 a), .int .u64 (l3 a)]) ∧ Below w.heap.size w w')) (C4 : Hid (∀ w, Mds w → Calls Tryz.prog 74 #[.agg #[.int .u64 (l0 x), .int .u64 (l1 x), .int .u64 (l2 x), .int .u64 (l3 x)]] w fun e w' => e = .returned (.agg #[.int .u64 (l0 b), .int .u64 (l1 b), .int .u64 (l2 b), .int .u64 (l3 b)]) ∧ Below w.heap.size w w')) (he : ∀ w, (Op.equalIn 10000 24 (.agg #[.int .u64 (l0 a), .int .u64 (l1 a), .int .u64 (l2 a), .int .u64 (l3 a)]) (.agg #[.int .u64 (l0 b), .int .u64 (l1 b), .int .u64 (l2 b), .int .u64 (l3 b)])).run Tryz.prog w = .ok r w) (w : World) (hm : Mds w) :
    Calls Tryz.prog 50 #[.agg #[.int .u64 (l0 x), .int .u64 (l1 x), .int .u64 (l2 x), .int .u64 (l3 x), .int .u64 (l0 y), .int .u64 (l1 y), .int .u64 (l2 y), .int .u64 (l3 y), .bool false]] w fun e w' => e = .returned (.bool r) ∧ Below w.heap.size w w' := by
  go_enter Tryz.func50, Tryz.ntmps50
  go_wp2_with fail
  refine wp_world (fun W => Below w.heap.size w W ∧ Mds W ∧ Pnt W w.heap.size x y false) ⟨by repeat (first | with_reducible exact Below.refl _ _ | with_reducible refine Below.alloc ?_ (by first | omega | (simp; done) | (simp; omega)) _), hm.alloc _, Pnt.new rfl⟩ ?_
  rintro W ⟨B, hD, hP⟩
  have ghP := hP.grown
  have hDg : ∀ d os, Mds (grow (redrawn W d) os) := fun d os => hD.keep (below_regrown W d os)
  refine wp_region_quiet_below (by kernel_rfl) (by kernel_rfl) ?_
  repeat
    first
      | go_big_quiet_skip
      | (go_big_quiet_want; go_big_quiet_op; go_big_quiet_on)
      | (go_big_quiet_want
         go_big_quiet_op
         apply Exists.intro
         refine ⟨fun p => ?_, ?_⟩
         · (first | (go_at_call 73; with_reducible exact Calls.regrown_of (C1.out _ (hDg p.d p.os))) | (go_at_call 73; with_reducible exact Calls.regrown_of (C2.out _ (hDg p.d p.os))) | (go_at_call 47; with_reducible exact Calls.regrown_of (C3.out _ (hDg p.d p.os))) | (go_at_call 74; with_reducible exact Calls.regrown_of (C4.out _ (hDg p.d p.os))))
         go_big_quiet_on)
  refine wpQuiet_nil ?_
  rintro w1 ⟨p, rfl⟩
  have hb := below_regrown W p.d p.os
  generalize grow (redrawn W p.d) p.os = w1 at *
  replace B := B.trans (hb.mono B.size)
  replace hD := hD.keep hb; replace hP := hP.keep hb
  clear hb W ghP hDg
  clear hD hP
  go_wp2
  simp [bodyPost, results, Tryz.results50, go_sem]
  exact B

/-- The point that a value stands for. -/
def ptOf (x y : Int) (i : Bool) : EC.Pt := if i then .o else .a (EC.fp x) (EC.fp y)
/-- It stands for one. -/
def Vd (x y : Int) (i : Bool) : Prop := if i then x = 0 ∧ y = 0 else EC.Low x ∧ EC.Low y ∧ EC.On (ptOf x y false)
instance (x : Int) : Decidable (EC.Low x) := inferInstanceAs (Decidable (_ ∧ _))
instance (x y : Int) : Decidable (EC.On (ptOf x y false)) := inferInstanceAs (Decidable (_ = _))
instance (x y : Int) (i : Bool) : Decidable (Vd x y i) := by unfold Vd; cases i <;> infer_instance
theorem Vd.on {x y : Int} {i : Bool} (h : Vd x y i) : EC.On (ptOf x y i) := by
  cases i with
  | true => exact EC.on_o
  | false => exact h.2.2
theorem Vd.low {x y : Int} {i : Bool} (h : Vd x y i) : EC.Low x ∧ EC.Low y := by
  cases i with
  | true => obtain ⟨rfl, rfl⟩ := h; exact ⟨⟨by decide, by decide⟩, ⟨by decide, by decide⟩⟩
  | false => exact ⟨h.1, h.2.1⟩
theorem Vd.inj {x y x' y' : Int} {i j : Bool} (h : Vd x y i) (h' : Vd x' y' j) (e : ptOf x y i = ptOf x' y' j) : x = x' ∧ y = y' ∧ i = j := by
  cases i <;> cases j
  · have e' : EC.Pt.a (EC.fp x) (EC.fp y) = .a (EC.fp x') (EC.fp y') := e
    injection e' with e1 e2
    exact ⟨EC.fp_inj h.1 h'.1 e1, EC.fp_inj h.2.1 h'.2.1 e2, rfl⟩
  · have e' : EC.Pt.a (EC.fp x) (EC.fp y) = .o := e
    cases e'
  · have e' : EC.Pt.o = .a (EC.fp x') (EC.fp y') := e
    cases e'
  · obtain ⟨rfl, rfl⟩ := h; obtain ⟨rfl, rfl⟩ := h'; exact ⟨rfl, rfl, rfl⟩

theorem con_any {x y : Int} {i : Bool} (hx : Num x) (hy : Num y) (w : World) (hm : Mds w) :
    Calls Tryz.prog 50 #[.agg #[.int .u64 (l0 x), .int .u64 (l1 x), .int .u64 (l2 x), .int .u64 (l3 x), .int .u64 (l0 y), .int .u64 (l1 y), .int .u64 (l2 y), .int .u64 (l3 y), .bool i]] w fun e w' => e = .returned (.bool (decide (Vd x y i))) ∧ Below w.heap.size w w' := by
  cases i with
  | true =>
    have := con_id hx hy w
    rw [show (decide (x = 0) && decide (y = 0)) = decide (Vd x y true) by rw [← Bool.decide_and]; rfl] at this
    exact this
  | false =>
    by_cases h1 : x < pN
    · have C1 : Hid (∀ w, Mds w → Calls Tryz.prog 73 #[.agg #[.int .u64 (l0 x), .int .u64 (l1 x), .int .u64 (l2 x), .int .u64 (l3 x)]] w fun e w' => e = .returned (.bool true) ∧ Below w.heap.size w w') := fun w hm => by
        have := cbelow_any hx w hm
        rw [decide_eq_true h1] at this; exact this
      by_cases h2 : y < pN
      · have C2 : Hid (∀ w, Mds w → Calls Tryz.prog 73 #[.agg #[.int .u64 (l0 y), .int .u64 (l1 y), .int .u64 (l2 y), .int .u64 (l3 y)]] w fun e w' => e = .returned (.bool true) ∧ Below w.heap.size w w') := fun w hm => by
          have := cbelow_any hy w hm
          rw [decide_eq_true h2] at this; exact this
        have lx : EC.Low x := ⟨hx.1, h1⟩
        have ly : EC.Low y := ⟨hy.1, h2⟩
        have key : decide (modN pN (y * y) = cubN x) = decide (Vd x y false) := by
          apply decide_eq_decide.2
          constructor
          · intro e
            refine ⟨lx, ly, ?_⟩
            have := congrArg EC.fp e
            unfold cubN at this
            simp only [EC.fp_mod, EC.fp_mul, EC.fp_add] at this
            rw [show EC.fp 7 = 7 by decide +kernel] at this
            exact this
          · intro ⟨_, _, e⟩
            have e' : EC.fp y * EC.fp y = EC.fp x * EC.fp x * EC.fp x + 7 := e
            unfold cubN
            refine EC.fp_inj (EC.low_mod _) (EC.low_mod _) ?_
            simp only [EC.fp_mod, EC.fp_mul, EC.fp_add]
            rw [show EC.fp 7 = 7 by decide +kernel]
            exact e'
        rw [← key]
        exact con_q C1 C2 (fun w hm => csquare_any hy w hm) (fun w hm => csqat_any hx w hm) (fun w => eq_num (modN_Num fit_p _) (modN_Num fit_p _) w) w hm
      · rw [decide_eq_false (show ¬ Vd x y false from fun h => h2 h.2.1.2)]
        exact con_y C1 (fun w hm => by
          have := cbelow_any hy w hm
          rw [decide_eq_false h2] at this; exact this) w hm
    · rw [decide_eq_false (show ¬ Vd x y false from fun h => h1 h.1.2)]
      exact con_x (fun w hm => by
        have := cbelow_any hx w hm
        rw [decide_eq_false h1] at this; exact this) w hm

/-- widen. -/
theorem cwiden_J {x y : Int} {i : Bool} (h : Vd x y i) : ∃ x' y' z', EC.Low x' ∧ EC.Low y' ∧ EC.Low z' ∧ (J3 x' y' z').pt = ptOf x y i ∧
    ∀ w, Calls Tryz.prog 43 #[.agg #[.int .u64 (l0 x), .int .u64 (l1 x), .int .u64 (l2 x), .int .u64 (l3 x), .int .u64 (l0 y), .int .u64 (l1 y), .int .u64 (l2 y), .int .u64 (l3 y), .bool i]] w fun e w' => e = .returned (.agg #[.int .u64 (l0 x'), .int .u64 (l1 x'), .int .u64 (l2 x'), .int .u64 (l3 x'), .int .u64 (l0 y'), .int .u64 (l1 y'), .int .u64 (l2 y'), .int .u64 (l3 y'), .int .u64 (l0 z'), .int .u64 (l1 z'), .int .u64 (l2 z'), .int .u64 (l3 z')]) ∧ Below w.heap.size w w' := by
  cases i with
  | true =>
    refine ⟨0, 0, 0, ⟨by decide, by decide⟩, ⟨by decide, by decide⟩, ⟨by decide, by decide⟩, ?_, fun w => cwiden_id w⟩
    exact EC.pt_o EC.fp_zero
  | false =>
    refine ⟨x, y, 1, h.1, h.2.1, ⟨by decide, by decide⟩, ?_, fun w => cwiden_pt w⟩
    show EC.pt (EC.fp x) (EC.fp y) (EC.fp 1) = .a (EC.fp x) (EC.fp y)
    rw [EC.fp_one]
    refine EC.pt_of (by decide +kernel) ?_ ?_ <;> grind -lia -linarith

/-- point. -/
theorem cpoint_J {x y z : Int} (hx : EC.Low x) (hy : EC.Low y) (hz : EC.Low z) : ∃ x' y' i, EC.Low x' ∧ EC.Low y' ∧ (i = true → x' = 0 ∧ y' = 0) ∧ ptOf x' y' i = (J3 x y z).pt ∧
    ∀ w, Mds w → Calls Tryz.prog 27 #[.agg #[.int .u64 (l0 x), .int .u64 (l1 x), .int .u64 (l2 x), .int .u64 (l3 x), .int .u64 (l0 y), .int .u64 (l1 y), .int .u64 (l2 y), .int .u64 (l3 y), .int .u64 (l0 z), .int .u64 (l1 z), .int .u64 (l2 z), .int .u64 (l3 z)]] w fun e w' => e = .returned (.agg #[.int .u64 (l0 x'), .int .u64 (l1 x'), .int .u64 (l2 x'), .int .u64 (l3 x'), .int .u64 (l0 y'), .int .u64 (l1 y'), .int .u64 (l2 y'), .int .u64 (l3 y'), .bool i]) ∧ Below w.heap.size w w' := by
  by_cases h0 : z = 0
  · subst h0
    exact ⟨0, 0, true, ⟨by decide, by decide⟩, ⟨by decide, by decide⟩, fun _ => ⟨rfl, rfl⟩, (EC.pt_o EC.fp_zero).symm, fun w _ => cpoint_o w⟩
  · have hm0 : modN pN z ≠ 0 := by rw [modN_of_lt hz.1 hz.2]; exact h0
    refine ⟨_, _, false, EC.low_mod _, EC.low_mod _, (fun e => by cases e), ?_, fun w hm => cpoint_walk (v := invN pN z) (fun w => ?_) (fun w hm => Inverse_good kind_p hz.num hm0 w hm) (fun w hm => csquare_any (powN_Num fit_p _ _) w hm)
      (fun w hm => ctimes_any hx.num (modN_Num fit_p _) w hm) (fun w hm => ctimes_any (modN_Num fit_p _) (powN_Num fit_p _ _) w hm) (fun w hm => ctimes_any hy.num (modN_Num fit_p _) w hm) w hm⟩
    · show EC.Pt.a _ _ = EC.pt (EC.fp x) (EC.fp y) (EC.fp z)
      unfold EC.pt
      rw [if_neg (fp_nz hz h0)]
      have ei : EC.fp (powN pN z (pN - 2)) = EC.iv (EC.fp z) := EC.fp_inv hz
      simp only [EC.fp_mod, EC.fp_mul, ei]
    · have := cisid_any (x := x) (y := y) hz.num w
      rw [decide_eq_false h0] at this; exact this
end Go.Proofs.YtiebnlahhmngcaaGreatDoor

import Derived.Test.YtncpjgpioajbeaaGreatDoorCJx
import Derived.Test.YtncpjgpioajbeaaGreatDoorCEq
import Derived.Test.YtncpjgpioajbeaaGreatDoorCSq
namespace Go.Proofs.YtncpjgpioajbeaaGreatDoor
open Go.RowKit Go.Sort

/-- The point that a value stands for. -/
def ptOf (x y : Int) (i : Bool) : EC.Pt := if i then .o else .a (EC.fp x) (EC.fp y)
/-- It stands for one. -/
def Vd (x y : Int) (i : Bool) : Prop := if i then x = 0 ∧ y = 0 else EC.Low x ∧ EC.Low y ∧ EC.On (ptOf x y false)
instance (x : Int) : Decidable (EC.Low x) := inferInstanceAs (Decidable (_ ∧ _))
instance (x y : Int) : Decidable (EC.On (ptOf x y false)) := inferInstanceAs (Decidable (_ = _))
instance (x y : Int) (i : Bool) : Decidable (Vd x y i) := by unfold Vd; cases i <;> infer_instance
theorem Vd.on {x y : Int} {i : Bool} (h : Vd x y i) : EC.On (ptOf x y i) := by
  cases i with
  | true => exact EC.on_o
  | false => exact h.2.2
theorem Vd.low {x y : Int} {i : Bool} (h : Vd x y i) : EC.Low x ∧ EC.Low y := by
  cases i with
  | true => obtain ⟨rfl, rfl⟩ := h; exact ⟨⟨by decide, by decide⟩, ⟨by decide, by decide⟩⟩
  | false => exact ⟨h.1, h.2.1⟩
theorem Vd.inj {x y x' y' : Int} {i j : Bool} (h : Vd x y i) (h' : Vd x' y' j) (e : ptOf x y i = ptOf x' y' j) : x = x' ∧ y = y' ∧ i = j := by
  cases i <;> cases j
  · have e' : EC.Pt.a (EC.fp x) (EC.fp y) = .a (EC.fp x') (EC.fp y') := e
    injection e' with e1 e2
    exact ⟨EC.fp_inj h.1 h'.1 e1, EC.fp_inj h.2.1 h'.2.1 e2, rfl⟩
  · have e' : EC.Pt.a (EC.fp x) (EC.fp y) = .o := e
    cases e'
  · have e' : EC.Pt.o = .a (EC.fp x') (EC.fp y') := e
    cases e'
  · obtain ⟨rfl, rfl⟩ := h; obtain ⟨rfl, rfl⟩ := h'; exact ⟨rfl, rfl, rfl⟩

/-- widen. -/
theorem cwiden_J {x y : Int} {i : Bool} (h : Vd x y i) : ∃ x' y' z', EC.Low x' ∧ EC.Low y' ∧ EC.Low z' ∧ (J3 x' y' z').pt = ptOf x y i ∧
    ∀ w, Calls Tryz.prog 59 #[.agg #[.int .u64 (l0 x), .int .u64 (l1 x), .int .u64 (l2 x), .int .u64 (l3 x), .int .u64 (l0 y), .int .u64 (l1 y), .int .u64 (l2 y), .int .u64 (l3 y), .bool i]] w fun e w' => e = .returned (.agg #[.int .u64 (l0 x'), .int .u64 (l1 x'), .int .u64 (l2 x'), .int .u64 (l3 x'), .int .u64 (l0 y'), .int .u64 (l1 y'), .int .u64 (l2 y'), .int .u64 (l3 y'), .int .u64 (l0 z'), .int .u64 (l1 z'), .int .u64 (l2 z'), .int .u64 (l3 z')]) ∧ Below w.heap.size w w' := by
  cases i with
  | true =>
    refine ⟨0, 0, 0, ⟨by decide, by decide⟩, ⟨by decide, by decide⟩, ⟨by decide, by decide⟩, ?_, fun w => cwiden_id w⟩
    exact EC.pt_o EC.fp_zero
  | false =>
    refine ⟨x, y, 1, h.1, h.2.1, ⟨by decide, by decide⟩, ?_, fun w => cwiden_pt w⟩
    show EC.pt (EC.fp x) (EC.fp y) (EC.fp 1) = .a (EC.fp x) (EC.fp y)
    rw [EC.fp_one]
    refine EC.pt_of (by decide +kernel) ?_ ?_ <;> grind -lia -linarith

/-- point. -/
theorem cpoint_J {x y z : Int} (hx : EC.Low x) (hy : EC.Low y) (hz : EC.Low z) : ∃ x' y' i, EC.Low x' ∧ EC.Low y' ∧ (i = true → x' = 0 ∧ y' = 0) ∧ ptOf x' y' i = (J3 x y z).pt ∧
    ∀ w, Mds w → Calls Tryz.prog 30 #[.agg #[.int .u64 (l0 x), .int .u64 (l1 x), .int .u64 (l2 x), .int .u64 (l3 x), .int .u64 (l0 y), .int .u64 (l1 y), .int .u64 (l2 y), .int .u64 (l3 y), .int .u64 (l0 z), .int .u64 (l1 z), .int .u64 (l2 z), .int .u64 (l3 z)]] w fun e w' => e = .returned (.agg #[.int .u64 (l0 x'), .int .u64 (l1 x'), .int .u64 (l2 x'), .int .u64 (l3 x'), .int .u64 (l0 y'), .int .u64 (l1 y'), .int .u64 (l2 y'), .int .u64 (l3 y'), .bool i]) ∧ Below w.heap.size w w' := by
  by_cases h0 : z = 0
  · subst h0
    exact ⟨0, 0, true, ⟨by decide, by decide⟩, ⟨by decide, by decide⟩, fun _ => ⟨rfl, rfl⟩, (EC.pt_o EC.fp_zero).symm, fun w _ => cpoint_o w⟩
  · have hm0 : modN pN z ≠ 0 := by rw [modN_of_lt hz.1 hz.2]; exact h0
    refine ⟨_, _, false, EC.low_mod _, EC.low_mod _, (fun e => by cases e), ?_, fun w hm => cpoint_walk (v := invN pN z) (fun w => ?_) (fun w hm => Inverse_good kind_p hz.num hm0 w hm) (fun w hm => csquare_any (powN_Num fit_p _ _) w hm)
      (fun w hm => ctimes_any hx.num (modN_Num fit_p _) w hm) (fun w hm => ctimes_any (modN_Num fit_p _) (powN_Num fit_p _ _) w hm) (fun w hm => ctimes_any hy.num (modN_Num fit_p _) w hm) w hm⟩
    · show EC.Pt.a _ _ = EC.pt (EC.fp x) (EC.fp y) (EC.fp z)
      unfold EC.pt
      rw [if_neg (fp_nz hz h0)]
      have ei : EC.fp (powN pN z (pN - 2)) = EC.iv (EC.fp z) := EC.fp_inv hz
      simp only [EC.fp_mod, EC.fp_mul, ei]
    · have := cisid_any (x := x) (y := y) hz.num w
      rw [decide_eq_false h0] at this; exact this
end Go.Proofs.YtncpjgpioajbeaaGreatDoor

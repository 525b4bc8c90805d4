import Derived.Test.YtjhongkmempepaaDoorERl
import Derived.Test.YtjhongkmempepaaDoorCCard
namespace Go.Proofs.YtjhongkmempepaaDoor
open Go.RowKit Go.Sort

theorem ep_zero : ∀ w, (Op.equalIn 10000 30 (.agg #[.int .u64 (l0 0), .int .u64 (l1 0), .int .u64 (l2 0), .int .u64 (l3 0), .int .u64 (l0 0), .int .u64 (l1 0), .int .u64 (l2 0), .int .u64 (l3 0), .bool false]) (.agg #[.int .u64 0, .int .u64 0, .int .u64 0, .int .u64 0, .int .u64 0, .int .u64 0, .int .u64 0, .int .u64 0, .bool false])).run Tryd.prog w = .ok true w := fun w => by
  have := eq_pt_any (x := 0) (y := 0) (x' := 0) (y' := 0) (i := false) (j := false) ⟨by decide, by decide⟩ ⟨by decide, by decide⟩ ⟨by decide, by decide⟩ ⟨by decide, by decide⟩ w
  obtain ⟨z0, z1, z2, z3⟩ := zero_limbs
  rw [z0, z1, z2, z3] at this ⊢
  simpa using this
theorem off_zero : ¬ Vd 0 0 false := fun h => by
  have := h.2.2
  revert this
  decide +kernel
theorem lift_e {r : Int} (h : liftOk r) : liftE r = 0 ∧ liftX r = r := by
  unfold liftE liftX; rw [if_pos h, if_pos h]; exact ⟨rfl, rfl⟩
theorem lift_no {r : Int} (h : ¬ liftOk r) : liftE r ≠ 0 := by
  unfold liftE; rw [if_neg h]; decide
/-- What Recover reckons, as a sum of multiples. -/
theorem rec_sm {r s : Int} {A : List Int} {R Q : EC.Pt} (hR : EC.On R) (e : Q = (EC.smul (recB r A).toNat EC.gJ.pt).add (EC.smul (recC r s).toNat R)) : Q = (sm (recB r A) EC.gJ.pt).add (sm (recC r s) R) := by
  have b0 : 0 ≤ recB r A := (mod_small (x := modN nN (0 - dgN A) * invN nN r)).1
  have c0 : 0 ≤ recC r s := (mod_small (x := s * invN nN r)).1
  rw [e, sm_nat EC.gJ_on b0, sm_nat hR c0]
theorem erecovered_any {r s : Int} {o : Bool} {A : List Int} (hl : A.length = 32) (hA : Byts A) (hr : Num r) (hs : Num s) (w : World) (hm : Mds w) (hc : Cols w) :
    Calls Tryd.prog 3 #[hashV A, .agg #[.int .u64 (l0 r), .int .u64 (l1 r), .int .u64 (l2 r), .int .u64 (l3 r), .int .u64 (l0 s), .int .u64 (l1 s), .int .u64 (l2 s), .int .u64 (l3 s), .bool o]] w fun e w' => e = .returned (.bool true) ∧ Below w.heap.size w w' := by
  have CK := echeck_any (o := o) hr hs
  by_cases h : chkN r s = 0
  · rw [h] at CK
    have LF : Hid (∀ w, Mds w → Calls Tryd.prog 7 #[.agg #[.int .u64 (l0 r), .int .u64 (l1 r), .int .u64 (l2 r), .int .u64 (l3 r)], .bool o] w fun e w' => e = .returned (.tuple #[.agg #[.int .u64 (l0 (liftX r)), .int .u64 (l1 (liftX r)), .int .u64 (l2 (liftX r)), .int .u64 (l3 (liftX r)), .int .u64 (l0 (liftY o r)), .int .u64 (l1 (liftY o r)), .int .u64 (l2 (liftY o r)), .int .u64 (l3 (liftY o r)), .bool false], .int .i64 (liftE r)]) ∧ Below w.heap.size w w') := fun w hm => clift_any hr o w hm
    by_cases h2 : liftOk r
    · obtain ⟨e1, e2⟩ := lift_e h2
      rw [e1, e2] at LF
      obtain ⟨f1, f2, _⟩ := chk_fit h
      obtain ⟨r0, r1⟩ := fitN_fit f1
      obtain ⟨s0, s1⟩ := fitN_fit f2
      have hz : modN nN r ≠ 0 := by rw [modN_of_lt hr.1 r1]; exact r0
      have hy : modN nN s ≠ 0 := by rw [modN_of_lt hs.1 s1]; exact s0
      have hv := lift_vd hr h2 o
      have onR := hv.on
      have onG := EC.gJ_on
      have nd : Num (dgN A) := modN_Num fit_n _
      obtain ⟨X, Y, j, hj, ej⟩ := rep_pt (EC.Pt.on (EC.smul_on onG (recB r A).toNat) (EC.smul_on onR (recC r s).toNat))
      obtain ⟨tx, ty, tj, ht, et⟩ := rep_pt (EC.smul_on onR s.toNat)
      have eQ := rec_sm onR ej
      have left := rec_left onG onR eQ (recB_mul (A := A) hr.1 hz) (recC_mul (s := s) hr.1 hz)
      have RC := recover_any (o := o) hr hs hA hl h h2 hj ej
      have MU : Hid (∀ w, Mds w → Cols w → Calls Tryd.prog 8 #[.agg #[.int .u64 (l0 s), .int .u64 (l1 s), .int .u64 (l2 s), .int .u64 (l3 s)], .agg #[.int .u64 (l0 r), .int .u64 (l1 r), .int .u64 (l2 r), .int .u64 (l3 r), .int .u64 (l0 (liftY o r)), .int .u64 (l1 (liftY o r)), .int .u64 (l2 (liftY o r)), .int .u64 (l3 (liftY o r)), .bool false]] w fun e w' => e = .returned (.tuple #[.agg #[.int .u64 (l0 tx), .int .u64 (l1 tx), .int .u64 (l2 tx), .int .u64 (l3 tx), .int .u64 (l0 ty), .int .u64 (l1 ty), .int .u64 (l2 ty), .int .u64 (l3 ty), .bool tj], .int .i64 0]) ∧ Below w.heap.size w w') := fun w hm hc => cmul_any hs hv ht et w hm hc
      have NU : Hid (∀ w, Mds w → Calls Tryd.prog 10 #[.agg ((A.map fun z => Value.int .u8 z).toArray)] w fun e w' => e = .returned (.agg #[.int .u64 (l0 (dgN A)), .int .u64 (l1 (dgN A)), .int .u64 (l2 (dgN A)), .int .u64 (l3 (dgN A))]) ∧ Below w.heap.size w w') := fun w hm => lnumber_any hA hl w hm
      rw [sm_nat onR hs.1] at et
      cases j with
      | true =>
        have eo : ptOf X Y true = .o := rfl
        rw [eo, sm_o, EC.add_o] at left
        have MG : Hid (∀ w, Mds w → Cols w → Calls Tryd.prog 11 #[.agg #[.int .u64 (l0 (dgN A)), .int .u64 (l1 (dgN A)), .int .u64 (l2 (dgN A)), .int .u64 (l3 (dgN A))]] w fun e w' => e = .returned (.agg #[.int .u64 (l0 tx), .int .u64 (l1 tx), .int .u64 (l2 tx), .int .u64 (l3 tx), .int .u64 (l0 ty), .int .u64 (l1 ty), .int .u64 (l2 ty), .int .u64 (l3 ty), .bool tj]) ∧ Below w.heap.size w w') := fun w hm hc => cmulg_any nd ht (by rw [et, ← left, sm_nat onG nd.1]) w hm hc
        have MA := fun w hm (hc : Cols w) => cmuladd_bad (a := dgN A) (b := r) (con_no ⟨by decide, by decide⟩ ⟨by decide, by decide⟩ off_zero) w hm
        exact erl_none hl RC CK LF MU NU MA MG (eq_pt_self ht) ep_zero w hm hc
      | false =>
        have onQ := hj.on
        have MA : Hid (∀ w, Mds w → Cols w → Calls Tryd.prog 9 #[.agg #[.int .u64 (l0 (dgN A)), .int .u64 (l1 (dgN A)), .int .u64 (l2 (dgN A)), .int .u64 (l3 (dgN A))], .agg #[.int .u64 (l0 r), .int .u64 (l1 r), .int .u64 (l2 r), .int .u64 (l3 r)], .agg #[.int .u64 (l0 X), .int .u64 (l1 X), .int .u64 (l2 X), .int .u64 (l3 X), .int .u64 (l0 Y), .int .u64 (l1 Y), .int .u64 (l2 Y), .int .u64 (l3 Y), .bool false]] w fun e w' => e = .returned (.tuple #[.agg #[.int .u64 (l0 tx), .int .u64 (l1 tx), .int .u64 (l2 tx), .int .u64 (l3 tx), .int .u64 (l0 ty), .int .u64 (l1 ty), .int .u64 (l2 ty), .int .u64 (l3 ty), .bool tj], .int .i64 0]) ∧ Below w.heap.size w w') := fun w hm hc => cmuladd_any nd hr hj ht (by rw [et, ← left, sm_nat onG nd.1, sm_nat onQ hr.1]) w hm hc
        have ev : ptOf r (liftY o r) false = (EC.smul (verB s A).toNat EC.gJ.pt).add (EC.smul (verC r s).toNat (ptOf X Y false)) := by
          have b := ver_back onG onR onQ (EC.inv_n hs.1 hy) left
          have b0 : 0 ≤ verB s A := (mod_small (x := dgN A * invN nN s)).1
          have c0 : 0 ≤ verC r s := (mod_small (x := r * invN nN s)).1
          rw [sm_nat onG b0, sm_nat onQ c0]
          unfold verB verC
          rw [sm_eq (modN_mod (dgN A * invN nN s)), sm_eq (modN_mod (r * invN nN s)), b]
        have VE := verify_any (o := o) hj hr hs hA hl h hv ev
        rw [modN_of_lt hr.1 r1] at VE
        simp only [Bool.not_false, Bool.true_and, decide_true] at VE
        have hv' := lift_vd hr h2 (!o)
        have onR' := hv'.on
        obtain ⟨X2, Y2, j2, hj2, ej2⟩ := rep_pt (EC.Pt.on (EC.smul_on onG (recB r A).toNat) (EC.smul_on onR' (recC r s).toNat))
        have RT := recover_any (o := !o) hr hs hA hl h h2 hj2 ej2
        cases j2 with
        | true => exact erl_ok65 hl RC CK LF MU NU MA (eq_pt_self ht) VE RT w hm hc
        | false =>
          refine erl_ok0 hl RC CK LF MU NU MA (eq_pt_self ht) VE RT (fun w => ?_) w hm hc
          show (Op.equalIn 10000 30 (.agg #[.int .u64 (l0 X2), .int .u64 (l1 X2), .int .u64 (l2 X2), .int .u64 (l3 X2), .int .u64 (l0 Y2), .int .u64 (l1 Y2), .int .u64 (l2 Y2), .int .u64 (l3 Y2), .bool false]) (.agg #[.int .u64 (l0 X), .int .u64 (l1 X), .int .u64 (l2 X), .int .u64 (l3 X), .int .u64 (l0 Y), .int .u64 (l1 Y), .int .u64 (l2 Y), .int .u64 (l3 Y), .bool false])).run Tryd.prog w = .ok false w
          rw [eq_pt_any hj2.low.1.num hj2.low.2.num hj.low.1.num hj.low.2.num w]
          by_cases c1 : X2 = X
          · by_cases c2 : Y2 = Y
            · exfalso
              subst c1; subst c2
              have eQ2 := rec_sm onR' ej2
              rw [eQ] at eQ2
              have c := EC.Pt.left (sm_on onG) (sm_on onR) (sm_on onR') eQ2
              have d := turn_back onR onR' (recC_inv hr.1 hz hs.1 hy) c
              exact lift_apart hr h2 o (Vd.inj hv hv' d).2.1
            · simp [c2]
          · simp [c1]
    · exact erl_far hl (recover_far (o := o) hr hs hl h h2) CK LF (lift_no h2) ep_zero w hm hc
  · exact erl_bad hl (recover_bad (o := o) hr hs hl h) CK h ep_zero w hm hc
end Go.Proofs.YtjhongkmempepaaDoor

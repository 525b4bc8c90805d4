import Derived.Test.YtncpjgpioajbeaaGreatDoorELift
namespace Go.Proofs.YtncpjgpioajbeaaGreatDoor
open Go.RowKit Go.Sort

theorem chk_fit {r s : Int} (h : chkN r s = 0) : fitN r = true ∧ fitN s = true ∧ lowN s = true := by
  unfold chkN at h
  cases h1 : fitN r with
  | false => rw [h1, if_pos rfl] at h; exact absurd h (by decide)
  | true =>
    rw [h1, if_neg (by decide)] at h
    cases h2 : fitN s with
    | false => rw [h2, if_pos rfl] at h; exact absurd h (by decide)
    | true =>
      rw [h2, if_neg (by decide)] at h
      cases h3 : lowN s with
      | false => rw [h3, if_pos rfl] at h; exact absurd h (by decide)
      | true => exact ⟨rfl, rfl, rfl⟩
/-- The two numbers of which Recover makes the key. -/
def recB (r : Int) (A : List Int) : Int := modN nN (modN nN (0 - dgN A) * invN nN r)
def recC (r s : Int) : Int := modN nN (s * invN nN r)
theorem recover_any {r s X Y : Int} {o j : Bool} {A : List Int} (hr : Num r) (hs : Num s) (hA : Byts A) (hl : A.length = 32) (h : chkN r s = 0) (h2 : liftOk r) (hj : Vd X Y j)
    (ej : ptOf X Y j = (EC.smul (recB r A).toNat EC.gJ.pt).add (EC.smul (recC r s).toNat (ptOf r (liftY o r) false))) : ∀ w, Mds w → Cols w → Calls Tryz.prog 9 #[hashV A, .agg #[.int .u64 (l0 r), .int .u64 (l1 r), .int .u64 (l2 r), .int .u64 (l3 r), .int .u64 (l0 s), .int .u64 (l1 s), .int .u64 (l2 s), .int .u64 (l3 s), .bool o]] w fun e w' => e = .returned (.tuple #[.agg #[.int .u64 (l0 (if j then 0 else X)), .int .u64 (l1 (if j then 0 else X)), .int .u64 (l2 (if j then 0 else X)), .int .u64 (l3 (if j then 0 else X)), .int .u64 (l0 (if j then 0 else Y)), .int .u64 (l1 (if j then 0 else Y)), .int .u64 (l2 (if j then 0 else Y)), .int .u64 (l3 (if j then 0 else Y)), .bool false], .int .i64 (if j then 65 else 0)]) ∧ Below w.heap.size w w' := fun w hm hc => by
  have C0 := echeck_any (o := o) hr hs
  rw [h] at C0
  obtain ⟨f1, _, _⟩ := chk_fit h
  obtain ⟨r0, r1⟩ := fitN_fit f1
  have hz : modN nN r ≠ 0 := by rw [modN_of_lt hr.1 r1]; exact r0
  have C1 := fun w hm => clift_any hr o w hm
  have e1 : liftE r = 0 := by unfold liftE; rw [if_pos h2]
  have e2 : liftX r = r := by unfold liftX; rw [if_pos h2]
  rw [e1, e2] at C1
  have hv := lift_vd hr h2 o
  have nv : Num (invN nN r) := powN_Num fit_n _ _
  have CN : Hid (∀ w, Mds w → Calls Tryz.prog 20 #[.agg ((A.map fun z => Value.int .u8 z).toArray)] w fun e w' => e = .returned (.agg #[.int .u64 (l0 (dgN A)), .int .u64 (l1 (dgN A)), .int .u64 (l2 (dgN A)), .int .u64 (l3 (dgN A))]) ∧ Below w.heap.size w w') := fun w hm => enumber_any hA hl w hm
  have CO := eopp_any (x := dgN A) (modN_Num fit_n _)
  have C3 : Hid (∀ w, Mds w → Calls Tryz.prog 27 #[.agg #[.int .u64 (l0 (modN nN (0 - dgN A))), .int .u64 (l1 (modN nN (0 - dgN A))), .int .u64 (l2 (modN nN (0 - dgN A))), .int .u64 (l3 (modN nN (0 - dgN A)))], .agg #[.int .u64 (l0 (invN nN r)), .int .u64 (l1 (invN nN r)), .int .u64 (l2 (invN nN r)), .int .u64 (l3 (invN nN r))]] w fun e w' => e = .returned (.agg #[.int .u64 (l0 (recB r A)), .int .u64 (l1 (recB r A)), .int .u64 (l2 (recB r A)), .int .u64 (l3 (recB r A))]) ∧ Below w.heap.size w w') := eprod_any (modN_Num fit_n _) nv
  have C4 : Hid (∀ w, Mds w → Calls Tryz.prog 27 #[.agg #[.int .u64 (l0 s), .int .u64 (l1 s), .int .u64 (l2 s), .int .u64 (l3 s)], .agg #[.int .u64 (l0 (invN nN r)), .int .u64 (l1 (invN nN r)), .int .u64 (l2 (invN nN r)), .int .u64 (l3 (invN nN r))]] w fun e w' => e = .returned (.agg #[.int .u64 (l0 (recC r s)), .int .u64 (l1 (recC r s)), .int .u64 (l2 (recC r s)), .int .u64 (l3 (recC r s))]) ∧ Below w.heap.size w w') := eprod_any hs nv
  have CM := fun w hm hc => cmuladd_any (a := recB r A) (b := recC r s) (modN_Num fit_n _) (modN_Num fit_n _) hv hj ej w hm hc
  cases j with
  | true => exact erec_none hl C0 C1 (einv_any hr hz) CN CO C3 C4 CM w hm hc
  | false => exact erec_ok hl C0 C1 (einv_any hr hz) CN CO C3 C4 CM w hm hc
end Go.Proofs.YtncpjgpioajbeaaGreatDoor

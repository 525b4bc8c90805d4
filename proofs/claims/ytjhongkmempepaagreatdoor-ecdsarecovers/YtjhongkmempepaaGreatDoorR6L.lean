import Derived.Test.YtjhongkmempepaaGreatDoorR6R
import Derived.Test.YtjhongkmempepaaGreatDoorESW
import Derived.Test.YtjhongkmempepaaGreatDoorCPnt
import Derived.Test.YtjhongkmempepaaGreatDoorCFp
import Derived.Test.YtjhongkmempepaaGreatDoorEVer
import Derived.Test.YtjhongkmempepaaGreatDoorFRoot
import Derived.Test.YtjhongkmempepaaGreatDoorCCols
import Derived.Test.YtjhongkmempepaaGreatDoorCLift
import Derived.Test.YtjhongkmempepaaGreatDoorEChk
namespace Go.Proofs.YtjhongkmempepaaGreatDoor
open Go.RowKit Go.Sort

set_option maxRecDepth 100000 in
set_option maxHeartbeats 8000000 in
theorem erecs_walk {r s X Y e0 : Int} {o j : Bool} {A : List Int} (hl : A.length = 32) (RC : Hid (∀ w, Mds w → Cols w → Calls Tryz.prog 11 #[.agg ((A.map fun z => Value.int .u8 z).toArray), .agg #[.int .u64 (l0 r), .int .u64 (l1 r), .int .u64 (l2 r), .int .u64 (l3 r), .int .u64 (l0 s), .int .u64 (l1 s), .int .u64 (l2 s), .int .u64 (l3 s), .bool o]] w fun e w' => e = .returned (.tuple #[.agg #[.int .u64 (l0 X), .int .u64 (l1 X), .int .u64 (l2 X), .int .u64 (l3 X), .int .u64 (l0 Y), .int .u64 (l1 Y), .int .u64 (l2 Y), .int .u64 (l3 Y), .bool j], .int .i64 e0]) ∧ Below w.heap.size w w')) (RR : Hid (∀ w, Calls Tryz.prog 12 #[.agg ((A.map fun z => Value.int .u8 z).toArray), .agg #[.int .u64 (l0 r), .int .u64 (l1 r), .int .u64 (l2 r), .int .u64 (l3 r), .int .u64 (l0 s), .int .u64 (l1 s), .int .u64 (l2 s), .int .u64 (l3 s), .bool o]] w fun e w' => e = .returned (.tuple #[.agg #[.int .u64 (l0 X), .int .u64 (l1 X), .int .u64 (l2 X), .int .u64 (l3 X), .int .u64 (l0 Y), .int .u64 (l1 Y), .int .u64 (l2 Y), .int .u64 (l3 Y), .bool j], .int .i64 e0]) ∧ Below w.heap.size w w')) (NU : Hid (∀ w, Calls Tryz.prog 8 #[.int .i64 e0] w fun e w' => e = .returned (.int .i64 e0) ∧ Below w.heap.size w w')) (E : ∀ w, (Op.equalIn 10000 37 (.agg #[.int .u64 (l0 X), .int .u64 (l1 X), .int .u64 (l2 X), .int .u64 (l3 X), .int .u64 (l0 Y), .int .u64 (l1 Y), .int .u64 (l2 Y), .int .u64 (l3 Y), .bool j]) (.agg #[.int .u64 (l0 X), .int .u64 (l1 X), .int .u64 (l2 X), .int .u64 (l3 X), .int .u64 (l0 Y), .int .u64 (l1 Y), .int .u64 (l2 Y), .int .u64 (l3 Y), .bool j])).run Tryz.prog w = .ok true w) (w : World) (hm : Mds w) (hc : Cols w) :
    Calls Tryz.prog 5 #[hashV A, .agg #[.int .u64 (l0 r), .int .u64 (l1 r), .int .u64 (l2 r), .int .u64 (l3 r), .int .u64 (l0 s), .int .u64 (l1 s), .int .u64 (l2 s), .int .u64 (l3 s), .bool o]] w fun e w' => e = .returned (.bool true) ∧ Below w.heap.size w w' := by
  unfold hashV at *
  have ra : ((w.alloc (.cells ((A.map fun z => Value.int .u8 z).toArray) 26)).alloc (.cells #[.int .u64 (l0 r), .int .u64 (l1 r), .int .u64 (l2 r), .int .u64 (l3 r), .int .u64 (l0 s), .int .u64 (l1 s), .int .u64 (l2 s), .int .u64 (l3 s), .bool o] 28)).rangeAt w.heap.size 0 (A.map fun z => Value.int .u8 z) := ((HAt.new hl rfl).alloc _).2
  go_enter Tryz.func5, Tryz.ntmps5
  go_wp2_with (refine wpList_load_mid rfl 26 _ rfl w.heap.size 0 rfl (A.map fun z => Value.int .u8 z) _ ra Tryz.underlying26 rfl (by rw [List.length_map, hl]; kernel_rfl) ?_)
  refine calls_world (fun W => Below w.heap.size w W ∧ Mds W ∧ Cols W ∧ HAt W w.heap.size A ∧ Pnt W (w.heap.size + 1) r s o) ⟨by repeat (first | with_reducible exact Below.refl _ _ | with_reducible refine Below.alloc ?_ (by first | omega | (simp; done) | (simp; omega)) _), (hm.alloc _).alloc _, (Cols.alloc hc _).alloc _, (HAt.new hl rfl).alloc _, Pnt.new (by simp)⟩ ?_
  clear ra
  rintro W ⟨B, hD, hO, hY, hS⟩
  generalize w.heap.size + 1 = bs at *
  with_reducible refine (RC.out _ hD hO).mono ?_
  rintro e w1 ⟨rfl, hb⟩
  replace B := B.trans (hb.mono B.size)
  replace hD := hD.keep hb; replace hO := hO.keep hb; replace hY := hY.keep hb; replace hS := hS.keep hb
  clear hb W
  have ghS := fun o => (hS.alloc o).cells
  have ra := fun a => (hY.alloc a).2
  go_wp2_with (refine wpList_load_mid rfl 26 _ rfl w.heap.size 0 rfl (A.map fun z => Value.int .u8 z) _ (ra _) Tryz.underlying26 rfl (by rw [List.length_map, hl]; kernel_rfl) ?_)
  refine calls_world (fun W => Below w.heap.size w W ∧ Mds W ∧ Cols W ∧ HAt W w.heap.size A ∧ Pnt W bs r s o ∧ Pnt W w1.heap.size X Y j) ⟨B.alloc B.size _, hD.alloc _, hO.alloc _, hY.alloc _, hS.alloc _, Pnt.new rfl⟩ ?_
  clear B hD hO hY hS ghS
  rintro W ⟨B, hD, hO, hY, hS, hQ⟩
  generalize w1.heap.size = bq at *
  clear ra
  with_reducible refine (RR.out _).mono ?_
  rintro e w2 ⟨rfl, hb⟩
  replace B := B.trans (hb.mono B.size)
  replace hD := hD.keep hb; replace hO := hO.keep hb; replace hY := hY.keep hb; replace hS := hS.keep hb; replace hQ := hQ.keep hb
  clear hb W
  have ghQ := fun o => (hQ.alloc o).cells
  go_wp2_with fail
  refine calls_world (fun W => Below w.heap.size w W ∧ Mds W ∧ Cols W ∧ HAt W w.heap.size A ∧ Pnt W bs r s o ∧ Pnt W bq X Y j ∧ Pnt W w2.heap.size X Y j) ⟨B.alloc B.size _, hD.alloc _, hO.alloc _, hY.alloc _, hS.alloc _, hQ.alloc _, Pnt.new rfl⟩ ?_
  clear B hD hO hY hS hQ ghQ
  rintro W ⟨B, hD, hO, hY, hS, hQ, hT⟩
  generalize w2.heap.size = bt at *
  with_reducible refine (NU.out _).mono ?_
  rintro e w9 ⟨rfl, hb⟩
  replace B := B.trans (hb.mono B.size)
  clear hb hD hO hY hS hQ hT W
  go_wp2
  simp [bodyPost, results, Tryz.results5, go_sem]
  exact B

end Go.Proofs.YtjhongkmempepaaGreatDoor

namespace Go.Proofs.YtjhongkmempepaaGreatDoor
open Go.RowKit Go.Sort
end Go.Proofs.YtjhongkmempepaaGreatDoor

namespace Go.Proofs.YtjhongkmempepaaGreatDoor
open Go.RowKit Go.Sort

theorem neg_back {s t non : Int} (h : modN nN (s * non) = t) : modN nN (modN nN (0 - s) * non) = modN nN (0 - t) := by
  unfold modN at *
  rw [← h]
  have h1 : ((0 - s) % nN * non) % nN = ((0 - s) * non) % nN := by
    rw [Int.mul_emod, Int.emod_emod_of_dvd _ (Int.dvd_refl _), ← Int.mul_emod]
  have h2 : (0 - s * non % nN) % nN = (0 - s * non) % nN := by
    rw [Int.sub_emod, Int.emod_emod_of_dvd _ (Int.dvd_refl _), ← Int.sub_emod]
  rw [h1, h2]
  congr 1
  rw [Int.zero_sub, Int.zero_sub, Int.neg_mul]
end Go.Proofs.YtjhongkmempepaaGreatDoor

namespace Go.Proofs.YtjhongkmempepaaGreatDoor
open Go.RowKit Go.Sort

/-- The opposite's value. -/
theorem neg_val {X Y : Int} {j : Bool} (h : Vd X Y j) : Vd X (modN pN (0 - Y)) j ∧ ptOf X (modN pN (0 - Y)) j = (ptOf X Y j).neg := by
  cases j with
  | true => obtain ⟨rfl, rfl⟩ := h; exact ⟨⟨rfl, rfl⟩, rfl⟩
  | false =>
    have en : EC.fp (modN pN (0 - Y)) = -EC.fp Y := by
      rw [EC.fp_mod, EC.fp_sub, EC.fp_zero]
      generalize EC.fp Y = y
      grind -lia -linarith
    have e : ptOf X (modN pN (0 - Y)) false = (ptOf X Y false).neg := by
      show EC.Pt.a _ _ = EC.Pt.a _ _
      rw [en]
    refine ⟨⟨h.1, EC.low_mod _, ?_⟩, e⟩
    rw [e]
    have h0 : EC.fp Y * EC.fp Y = EC.fp X * EC.fp X * EC.fp X + 7 := h.2.2
    show -EC.fp Y * -EC.fp Y = EC.fp X * EC.fp X * EC.fp X + 7
    generalize EC.fp Y = y at *; generalize EC.fp X = x at *
    grind -lia -linarith
end Go.Proofs.YtjhongkmempepaaGreatDoor

namespace Go.Proofs.YtjhongkmempepaaGreatDoor
open Go.RowKit Go.Sort

/-- What Lift finds is a point. -/
theorem lift_vd {x : Int} (hx : Num x) (h : liftOk x) (i : Bool) : Vd x (liftY i x) false := by
  obtain ⟨h1, h2⟩ := h
  have lx : EC.Low x := ⟨hx.1, h1⟩
  have hc : modN pN (powN pN (cubN x) qN * powN pN (cubN x) qN) = modN pN (cubN x) := by
    unfold rootE at h2
    by_cases e : modN pN (powN pN (cubN x) qN * powN pN (cubN x) qN) = modN pN (cubN x)
    · exact e
    · rw [if_neg e] at h2; exact absurd h2 (by decide)
  have hr := root_back hc
  have lr : EC.Low (rootN (cubN x)) := by
    have := even_one (powN_lt fit_p (cubN x) qN).1 (powN_lt fit_p (cubN x) qN).2
    unfold rootN
    rw [if_pos hc]
    exact ⟨this.2.1, this.2.2.1⟩
  have base : Vd x (rootN (cubN x)) false := by
    refine ⟨lx, lr, ?_⟩
    have e := congrArg EC.fp hr
    unfold cubN at e
    simp only [EC.fp_mod, EC.fp_mul, EC.fp_add] at e
    rw [show EC.fp 7 = 7 by decide +kernel] at e
    show EC.fp _ * EC.fp _ = _
    unfold cubN
    exact e
  have el : liftY i x = if i then modN pN (0 - rootN (cubN x)) else rootN (cubN x) := by
    unfold liftY; rw [if_pos ⟨h1, h2⟩]
  rw [el]
  cases i with
  | false => exact base
  | true => exact (neg_val base).1
end Go.Proofs.YtjhongkmempepaaGreatDoor

namespace Go.Proofs.YtjhongkmempepaaGreatDoor
open Go.RowKit Go.Sort

theorem chk_fit {r s : Int} (h : chkN r s = 0) : fitN r = true ∧ fitN s = true ∧ lowN s = true := by
  unfold chkN at h
  cases h1 : fitN r with
  | false => rw [h1, if_pos rfl] at h; exact absurd h (by decide)
  | true =>
    rw [h1, if_neg (by decide)] at h
    cases h2 : fitN s with
    | false => rw [h2, if_pos rfl] at h; exact absurd h (by decide)
    | true =>
      rw [h2, if_neg (by decide)] at h
      cases h3 : lowN s with
      | false => rw [h3, if_pos rfl] at h; exact absurd h (by decide)
      | true => exact ⟨rfl, rfl, rfl⟩
theorem recover_bad {r s : Int} {o : Bool} {A : List Int} (hr : Num r) (hs : Num s) (hl : A.length = 32) (h : chkN r s ≠ 0) : ∀ w, Mds w → Cols w → Calls Tryz.prog 11 #[hashV A, .agg #[.int .u64 (l0 r), .int .u64 (l1 r), .int .u64 (l2 r), .int .u64 (l3 r), .int .u64 (l0 s), .int .u64 (l1 s), .int .u64 (l2 s), .int .u64 (l3 s), .bool o]] w fun e w' => e = .returned (.tuple #[.agg #[.int .u64 (l0 0), .int .u64 (l1 0), .int .u64 (l2 0), .int .u64 (l3 0), .int .u64 (l0 0), .int .u64 (l1 0), .int .u64 (l2 0), .int .u64 (l3 0), .bool false], .int .i64 (chkN r s)]) ∧ Below w.heap.size w w' := fun w hm hc => erec_check hl (echeck_any hr hs) h w hm hc
theorem recover_far {r s : Int} {o : Bool} {A : List Int} (hr : Num r) (hs : Num s) (hl : A.length = 32) (h : chkN r s = 0) (h2 : ¬ liftOk r) : ∀ w, Mds w → Cols w → Calls Tryz.prog 11 #[hashV A, .agg #[.int .u64 (l0 r), .int .u64 (l1 r), .int .u64 (l2 r), .int .u64 (l3 r), .int .u64 (l0 s), .int .u64 (l1 s), .int .u64 (l2 s), .int .u64 (l3 s), .bool o]] w fun e w' => e = .returned (.tuple #[.agg #[.int .u64 (l0 0), .int .u64 (l1 0), .int .u64 (l2 0), .int .u64 (l3 0), .int .u64 (l0 0), .int .u64 (l1 0), .int .u64 (l2 0), .int .u64 (l3 0), .bool false], .int .i64 64]) ∧ Below w.heap.size w w' := fun w hm hc => by
  have C0 := echeck_any (o := o) hr hs
  rw [h] at C0
  have C1 := fun w hm => clift_any hr o w hm
  have e : liftE r = 50 := by unfold liftE; rw [if_neg h2]
  rw [e] at C1
  exact erec_lift hl C0 C1 (by decide) w hm hc
/-- The two numbers of which Recover makes the key. -/
def recB (r : Int) (A : List Int) : Int := modN nN (modN nN (0 - dgN A) * invN nN r)
def recC (r s : Int) : Int := modN nN (s * invN nN r)
theorem recover_any {r s X Y : Int} {o j : Bool} {A : List Int} (hr : Num r) (hs : Num s) (hA : Byts A) (hl : A.length = 32) (h : chkN r s = 0) (h2 : liftOk r) (hj : Vd X Y j)
    (ej : ptOf X Y j = (EC.smul (recB r A).toNat EC.gJ.pt).add (EC.smul (recC r s).toNat (ptOf r (liftY o r) false))) : ∀ w, Mds w → Cols w → Calls Tryz.prog 11 #[hashV A, .agg #[.int .u64 (l0 r), .int .u64 (l1 r), .int .u64 (l2 r), .int .u64 (l3 r), .int .u64 (l0 s), .int .u64 (l1 s), .int .u64 (l2 s), .int .u64 (l3 s), .bool o]] w fun e w' => e = .returned (.tuple #[.agg #[.int .u64 (l0 (if j then 0 else X)), .int .u64 (l1 (if j then 0 else X)), .int .u64 (l2 (if j then 0 else X)), .int .u64 (l3 (if j then 0 else X)), .int .u64 (l0 (if j then 0 else Y)), .int .u64 (l1 (if j then 0 else Y)), .int .u64 (l2 (if j then 0 else Y)), .int .u64 (l3 (if j then 0 else Y)), .bool false], .int .i64 (if j then 65 else 0)]) ∧ Below w.heap.size w w' := fun w hm hc => by
  have C0 := echeck_any (o := o) hr hs
  rw [h] at C0
  obtain ⟨f1, _, _⟩ := chk_fit h
  obtain ⟨r0, r1⟩ := fitN_fit f1
  have hz : modN nN r ≠ 0 := by rw [modN_of_lt hr.1 r1]; exact r0
  have C1 := fun w hm => clift_any hr o w hm
  have e1 : liftE r = 0 := by unfold liftE; rw [if_pos h2]
  have e2 : liftX r = r := by unfold liftX; rw [if_pos h2]
  rw [e1, e2] at C1
  have hv := lift_vd hr h2 o
  have nv : Num (invN nN r) := powN_Num fit_n _ _
  have CN : Hid (∀ w, Mds w → Calls Tryz.prog 15 #[.agg ((A.map fun z => Value.int .u8 z).toArray)] w fun e w' => e = .returned (.agg #[.int .u64 (l0 (dgN A)), .int .u64 (l1 (dgN A)), .int .u64 (l2 (dgN A)), .int .u64 (l3 (dgN A))]) ∧ Below w.heap.size w w') := fun w hm => enumber_any hA hl w hm
  have CO := eopp_any (x := dgN A) (modN_Num fit_n _)
  have C3 : Hid (∀ w, Mds w → Calls Tryz.prog 26 #[.agg #[.int .u64 (l0 (modN nN (0 - dgN A))), .int .u64 (l1 (modN nN (0 - dgN A))), .int .u64 (l2 (modN nN (0 - dgN A))), .int .u64 (l3 (modN nN (0 - dgN A)))], .agg #[.int .u64 (l0 (invN nN r)), .int .u64 (l1 (invN nN r)), .int .u64 (l2 (invN nN r)), .int .u64 (l3 (invN nN r))]] w fun e w' => e = .returned (.agg #[.int .u64 (l0 (recB r A)), .int .u64 (l1 (recB r A)), .int .u64 (l2 (recB r A)), .int .u64 (l3 (recB r A))]) ∧ Below w.heap.size w w') := eprod_any (modN_Num fit_n _) nv
  have C4 : Hid (∀ w, Mds w → Calls Tryz.prog 26 #[.agg #[.int .u64 (l0 s), .int .u64 (l1 s), .int .u64 (l2 s), .int .u64 (l3 s)], .agg #[.int .u64 (l0 (invN nN r)), .int .u64 (l1 (invN nN r)), .int .u64 (l2 (invN nN r)), .int .u64 (l3 (invN nN r))]] w fun e w' => e = .returned (.agg #[.int .u64 (l0 (recC r s)), .int .u64 (l1 (recC r s)), .int .u64 (l2 (recC r s)), .int .u64 (l3 (recC r s))]) ∧ Below w.heap.size w w') := eprod_any hs nv
  have CM := fun w hm hc => cmuladd_any (a := recB r A) (b := recC r s) (modN_Num fit_n _) (modN_Num fit_n _) hv hj ej w hm hc
  cases j with
  | true => exact erec_none hl C0 C1 (einv_any hr hz) CN CO C3 C4 CM w hm hc
  | false => exact erec_ok hl C0 C1 (einv_any hr hz) CN CO C3 C4 CM w hm hc
end Go.Proofs.YtjhongkmempepaaGreatDoor

namespace Go.Proofs.YtjhongkmempepaaGreatDoor
open Go.RowKit Go.Sort

theorem recB_alt (r : Int) (A : List Int) : modN nN (0 - modN nN (dgN A * invN nN r)) = recB r A := (neg_back rfl).symm
theorem ep_num {x y : Int} {i : Bool} (hx : Num x) (hy : Num y) : ∀ w, (Op.equalIn 10000 37 (.agg #[.int .u64 (l0 x), .int .u64 (l1 x), .int .u64 (l2 x), .int .u64 (l3 x), .int .u64 (l0 y), .int .u64 (l1 y), .int .u64 (l2 y), .int .u64 (l3 y), .bool i]) (.agg #[.int .u64 (l0 x), .int .u64 (l1 x), .int .u64 (l2 x), .int .u64 (l3 x), .int .u64 (l0 y), .int .u64 (l1 y), .int .u64 (l2 y), .int .u64 (l3 y), .bool i])).run Tryz.prog w = .ok true w := fun w => eq_pt_yes hx hy w
theorem num_zero : Num 0 := ⟨by decide, by decide⟩
theorem lift_e' {r : Int} (h : liftOk r) : liftE r = 0 ∧ liftX r = r := by
  unfold liftE liftX; rw [if_pos h, if_pos h]; exact ⟨rfl, rfl⟩
theorem erecs_any {r s : Int} {o : Bool} {A : List Int} (hl : A.length = 32) (hA : Byts A) (hr : Num r) (hs : Num s) (w : World) (hm : Mds w) (hc : Cols w) :
    Calls Tryz.prog 5 #[hashV A, .agg #[.int .u64 (l0 r), .int .u64 (l1 r), .int .u64 (l2 r), .int .u64 (l3 r), .int .u64 (l0 s), .int .u64 (l1 s), .int .u64 (l2 s), .int .u64 (l3 s), .bool o]] w fun e w' => e = .returned (.bool true) ∧ Below w.heap.size w w' := by
  have CK := r6check_any (o := o) hr hs
  by_cases h : chkN r s = 0
  · rw [h] at CK
    have LF : Hid (∀ w, Calls Tryz.prog 37 #[.agg #[.int .u64 (l0 r), .int .u64 (l1 r), .int .u64 (l2 r), .int .u64 (l3 r)], .bool o] w fun e w' => e = .returned (.tuple #[.agg #[.int .u64 (l0 (liftX r)), .int .u64 (l1 (liftX r)), .int .u64 (l2 (liftX r)), .int .u64 (l3 (liftX r)), .int .u64 (l0 (liftY o r)), .int .u64 (l1 (liftY o r)), .int .u64 (l2 (liftY o r)), .int .u64 (l3 (liftY o r)), .bool false], .int .i64 (liftE r)]) ∧ Below w.heap.size w w') := fun w => r5lift_any hr o w
    by_cases h2 : liftOk r
    · obtain ⟨e1, e2⟩ := lift_e' h2
      rw [e1, e2] at LF
      obtain ⟨f1, f2, _⟩ := chk_fit h
      obtain ⟨r0, r1⟩ := fitN_fit f1
      have hz : modN nN r ≠ 0 := by rw [modN_of_lt hr.1 r1]; exact r0
      have hv := lift_vd hr h2 o
      have nd : Num (dgN A) := modN_Num fit_n _
      have nv : Num (invN nN r) := powN_Num fit_n _ _
      obtain ⟨X, Y, j, hj, ej⟩ := rep_pt (EC.Pt.on (EC.smul_on EC.gJ_on (recB r A).toNat) (EC.smul_on hv.on (recC r s).toNat))
      have RC := recover_any (o := o) hr hs hA hl h h2 hj ej
      have CN : Hid (∀ w, Calls Tryz.prog 31 #[.agg ((A.map fun z => Value.int .u8 z).toArray)] w fun e w' => e = .returned (.agg #[.int .u64 (l0 (dgN A)), .int .u64 (l1 (dgN A)), .int .u64 (l2 (dgN A)), .int .u64 (l3 (dgN A))]) ∧ Below w.heap.size w w') := fun w => r6number_any hA hl w
      have C3 := r6times_any nd nv
      have CO := r4neg_n (x := modN nN (dgN A * invN nN r)) (modN_Num fit_n _)
      rw [recB_alt] at CO
      have C4 : Hid (∀ w, Calls Tryz.prog 33 #[.agg #[.int .u64 (l0 s), .int .u64 (l1 s), .int .u64 (l2 s), .int .u64 (l3 s)], .agg #[.int .u64 (l0 (invN nN r)), .int .u64 (l1 (invN nN r)), .int .u64 (l2 (invN nN r)), .int .u64 (l3 (invN nN r))]] w fun e w' => e = .returned (.agg #[.int .u64 (l0 (recC r s)), .int .u64 (l1 (recC r s)), .int .u64 (l2 (recC r s)), .int .u64 (l3 (recC r s))]) ∧ Below w.heap.size w w') := r6times_any hs nv
      have CM := fun w => r5muladd_any (a := recB r A) (b := recC r s) (modN_Num fit_n _) (modN_Num fit_n _) hv hj ej w
      cases j with
      | true => exact erecs_walk hl RC (r6rec_none hl CK LF (r6inv_any hr hz) CN C3 CO C4 CM) (fun w => lnum6_any _ w) (ep_num num_zero num_zero) w hm hc
      | false => exact erecs_walk hl RC (r6rec_ok hl CK LF (r6inv_any hr hz) CN C3 CO C4 CM) (fun w => lnum6_any _ w) (ep_num hj.low.1.num hj.low.2.num) w hm hc
    · have ne : liftE r ≠ 0 := by unfold liftE; rw [if_neg h2]; decide
      exact erecs_walk hl (recover_far (o := o) hr hs hl h h2) (r6rec_lift hl CK LF ne) (fun w => lnum6_any _ w) (ep_num num_zero num_zero) w hm hc
  · exact erecs_walk hl (recover_bad (o := o) hr hs hl h) (r6rec_check hl CK h) (fun w => lnum6_any _ w) (ep_num num_zero num_zero) w hm hc
end Go.Proofs.YtjhongkmempepaaGreatDoor

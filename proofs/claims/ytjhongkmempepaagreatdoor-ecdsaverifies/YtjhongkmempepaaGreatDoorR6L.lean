import Derived.Test.YtjhongkmempepaaGreatDoorR6R
import Derived.Test.YtjhongkmempepaaGreatDoorESW
import Derived.Test.YtjhongkmempepaaGreatDoorCPnt
import Derived.Test.YtjhongkmempepaaGreatDoorCFp
import Derived.Test.YtjhongkmempepaaGreatDoorEVer
import Derived.Test.YtjhongkmempepaaGreatDoorFRoot
import Derived.Test.YtjhongkmempepaaGreatDoorCCols
import Derived.Test.YtjhongkmempepaaGreatDoorCLift
import Derived.Test.YtjhongkmempepaaGreatDoorEChk
namespace Go.Proofs.YtjhongkmempepaaGreatDoor
open Go.RowKit Go.Sort

set_option maxRecDepth 100000 in
set_option maxHeartbeats 8000000 in
theorem evers_walk {x y r s e0 : Int} {i o v : Bool} {A : List Int} (hl : A.length = 32) (VE : Hid (∀ w, Mds w → Cols w → Calls Tryz.prog 9 #[.agg #[.int .u64 (l0 x), .int .u64 (l1 x), .int .u64 (l2 x), .int .u64 (l3 x), .int .u64 (l0 y), .int .u64 (l1 y), .int .u64 (l2 y), .int .u64 (l3 y), .bool i], .agg ((A.map fun z => Value.int .u8 z).toArray), .agg #[.int .u64 (l0 r), .int .u64 (l1 r), .int .u64 (l2 r), .int .u64 (l3 r), .int .u64 (l0 s), .int .u64 (l1 s), .int .u64 (l2 s), .int .u64 (l3 s), .bool o]] w fun e w' => e = .returned (.tuple #[.bool v, .int .i64 e0]) ∧ Below w.heap.size w w')) (VR : Hid (∀ w, Calls Tryz.prog 10 #[.agg #[.int .u64 (l0 x), .int .u64 (l1 x), .int .u64 (l2 x), .int .u64 (l3 x), .int .u64 (l0 y), .int .u64 (l1 y), .int .u64 (l2 y), .int .u64 (l3 y), .bool i], .agg ((A.map fun z => Value.int .u8 z).toArray), .agg #[.int .u64 (l0 r), .int .u64 (l1 r), .int .u64 (l2 r), .int .u64 (l3 r), .int .u64 (l0 s), .int .u64 (l1 s), .int .u64 (l2 s), .int .u64 (l3 s), .bool o]] w fun e w' => e = .returned (.tuple #[.bool v, .int .i64 e0]) ∧ Below w.heap.size w w')) (NU : Hid (∀ w, Calls Tryz.prog 8 #[.int .i64 e0] w fun e w' => e = .returned (.int .i64 e0) ∧ Below w.heap.size w w')) (w : World) (hm : Mds w) (hc : Cols w) :
    Calls Tryz.prog 4 #[.agg #[.int .u64 (l0 x), .int .u64 (l1 x), .int .u64 (l2 x), .int .u64 (l3 x), .int .u64 (l0 y), .int .u64 (l1 y), .int .u64 (l2 y), .int .u64 (l3 y), .bool i], hashV A, .agg #[.int .u64 (l0 r), .int .u64 (l1 r), .int .u64 (l2 r), .int .u64 (l3 r), .int .u64 (l0 s), .int .u64 (l1 s), .int .u64 (l2 s), .int .u64 (l3 s), .bool o]] w fun e w' => e = .returned (.bool true) ∧ Below w.heap.size w w' := by
  unfold hashV at *
  have ra : (((w.alloc (.cells #[.int .u64 (l0 x), .int .u64 (l1 x), .int .u64 (l2 x), .int .u64 (l3 x), .int .u64 (l0 y), .int .u64 (l1 y), .int .u64 (l2 y), .int .u64 (l3 y), .bool i] 37)).alloc (.cells ((A.map fun z => Value.int .u8 z).toArray) 26)).alloc (.cells #[.int .u64 (l0 r), .int .u64 (l1 r), .int .u64 (l2 r), .int .u64 (l3 r), .int .u64 (l0 s), .int .u64 (l1 s), .int .u64 (l2 s), .int .u64 (l3 s), .bool o] 28)).rangeAt (w.heap.size + 1) 0 (A.map fun z => Value.int .u8 z) := ((HAt.new hl (by simp)).alloc _).2
  go_enter Tryz.func4, Tryz.ntmps4
  go_wp2_with (refine wpList_load_mid rfl 26 _ rfl (w.heap.size + 1) 0 rfl (A.map fun z => Value.int .u8 z) _ ra Tryz.underlying26 rfl (by rw [List.length_map, hl]; kernel_rfl) ?_)
  refine calls_world (fun W => Below w.heap.size w W ∧ Mds W ∧ Cols W ∧ Pnt W w.heap.size x y i ∧ HAt W (w.heap.size + 1) A ∧ Pnt W (w.heap.size + 1 + 1) r s o) ⟨by repeat (first | with_reducible exact Below.refl _ _ | with_reducible refine Below.alloc ?_ (by first | omega | (simp; done) | (simp; omega)) _), ((hm.alloc _).alloc _).alloc _, ((Cols.alloc hc _).alloc _).alloc _, ((Pnt.new rfl).alloc _).alloc _, (HAt.new hl (by simp)).alloc _, Pnt.new (by simp)⟩ ?_
  clear ra
  rintro W ⟨B, hD, hO, hX, hY, hS⟩
  generalize w.heap.size + 1 + 1 = bs at *
  generalize w.heap.size + 1 = bd at *
  with_reducible refine (VE.out _ hD hO).mono ?_
  rintro e w1 ⟨rfl, hb⟩
  replace B := B.trans (hb.mono B.size)
  replace hD := hD.keep hb; replace hO := hO.keep hb; replace hX := hX.keep hb; replace hY := hY.keep hb; replace hS := hS.keep hb
  clear hb W
  have ghX := hX.cells
  have ghS := hS.cells
  have ra := hY.2
  go_wp2_with (refine wpList_load_mid rfl 26 _ rfl bd 0 rfl (A.map fun z => Value.int .u8 z) _ ra Tryz.underlying26 rfl (by rw [List.length_map, hl]; kernel_rfl) ?_)
  refine calls_world (fun W => Below w.heap.size w W ∧ Mds W ∧ Cols W ∧ Pnt W w.heap.size x y i ∧ HAt W bd A ∧ Pnt W bs r s o) ⟨B, hD, hO, hX, hY, hS⟩ ?_
  clear B hD hO hX hY hS ghX ghS
  rintro W ⟨B, hD, hO, hX, hY, hS⟩
  clear ra
  with_reducible refine (VR.out _).mono ?_
  rintro e w2 ⟨rfl, hb⟩
  replace B := B.trans (hb.mono B.size)
  replace hD := hD.keep hb; replace hO := hO.keep hb; replace hX := hX.keep hb; replace hY := hY.keep hb; replace hS := hS.keep hb
  clear hb W
  go_wp2_with fail
  refine calls_world (fun W => Below w.heap.size w W ∧ Mds W ∧ Cols W ∧ Pnt W w.heap.size x y i ∧ HAt W bd A ∧ Pnt W bs r s o) ⟨B, hD, hO, hX, hY, hS⟩ ?_
  clear B hD hO hX hY hS 
  rintro W ⟨B, hD, hO, hX, hY, hS⟩
  with_reducible refine (NU.out _).mono ?_
  rintro e w9 ⟨rfl, hb⟩
  replace B := B.trans (hb.mono B.size)
  clear hb hD hO hX hY hS W
  go_wp2
  simp [bodyPost, results, Tryz.results4, go_sem]
  exact B
end Go.Proofs.YtjhongkmempepaaGreatDoor

namespace Go.Proofs.YtjhongkmempepaaGreatDoor
open Go.RowKit Go.Sort
end Go.Proofs.YtjhongkmempepaaGreatDoor

namespace Go.Proofs.YtjhongkmempepaaGreatDoor
open Go.RowKit Go.Sort

theorem eq2 {n m : Int} (hn : Num n) (hm : Num m) {v : Bool} (e : decide (n = m) = v) : ∀ w, (Op.equalIn 10000 24 (.agg #[.int .u64 (l0 n), .int .u64 (l1 n), .int .u64 (l2 n), .int .u64 (l3 n)]) (.agg #[.int .u64 (l0 m), .int .u64 (l1 m), .int .u64 (l2 m), .int .u64 (l3 m)])).run Tryz.prog w = .ok v w := fun w => by
  rw [eq_num hn hm, e]
end Go.Proofs.YtjhongkmempepaaGreatDoor

namespace Go.Proofs.YtjhongkmempepaaGreatDoor
open Go.RowKit Go.Sort

end Go.Proofs.YtjhongkmempepaaGreatDoor

namespace Go.Proofs.YtjhongkmempepaaGreatDoor
open Go.RowKit Go.Sort

end Go.Proofs.YtjhongkmempepaaGreatDoor

namespace Go.Proofs.YtjhongkmempepaaGreatDoor
open Go.RowKit Go.Sort

theorem chk_fit {r s : Int} (h : chkN r s = 0) : fitN r = true ∧ fitN s = true ∧ lowN s = true := by
  unfold chkN at h
  cases h1 : fitN r with
  | false => rw [h1, if_pos rfl] at h; exact absurd h (by decide)
  | true =>
    rw [h1, if_neg (by decide)] at h
    cases h2 : fitN s with
    | false => rw [h2, if_pos rfl] at h; exact absurd h (by decide)
    | true =>
      rw [h2, if_neg (by decide)] at h
      cases h3 : lowN s with
      | false => rw [h3, if_pos rfl] at h; exact absurd h (by decide)
      | true => exact ⟨rfl, rfl, rfl⟩
def verB (s : Int) (A : List Int) : Int := modN nN (dgN A * invN nN s)
def verC (r s : Int) : Int := modN nN (r * invN nN s)
theorem verify_any {x y r s X Y : Int} {o j : Bool} {A : List Int} (hv : Vd x y false) (hr : Num r) (hs : Num s) (hA : Byts A) (hl : A.length = 32) (h : chkN r s = 0) (hj : Vd X Y j)
    (ej : ptOf X Y j = (EC.smul (verB s A).toNat EC.gJ.pt).add (EC.smul (verC r s).toNat (ptOf x y false))) : ∀ w, Mds w → Cols w → Calls Tryz.prog 9 #[.agg #[.int .u64 (l0 x), .int .u64 (l1 x), .int .u64 (l2 x), .int .u64 (l3 x), .int .u64 (l0 y), .int .u64 (l1 y), .int .u64 (l2 y), .int .u64 (l3 y), .bool false], hashV A, .agg #[.int .u64 (l0 r), .int .u64 (l1 r), .int .u64 (l2 r), .int .u64 (l3 r), .int .u64 (l0 s), .int .u64 (l1 s), .int .u64 (l2 s), .int .u64 (l3 s), .bool o]] w fun e w' => e = .returned (.tuple #[.bool (!j && decide (modN nN X = r)), .int .i64 0]) ∧ Below w.heap.size w w' := fun w hm hc => by
  have C1 := echeck_any (o := o) hr hs
  rw [h] at C1
  obtain ⟨_, f2, _⟩ := chk_fit h
  obtain ⟨s0, s1⟩ := fitN_fit f2
  have hz : modN nN s ≠ 0 := by rw [modN_of_lt hs.1 s1]; exact s0
  have nv : Num (invN nN s) := powN_Num fit_n _ _
  have CN : Hid (∀ w, Mds w → Calls Tryz.prog 15 #[.agg ((A.map fun z => Value.int .u8 z).toArray)] w fun e w' => e = .returned (.agg #[.int .u64 (l0 (dgN A)), .int .u64 (l1 (dgN A)), .int .u64 (l2 (dgN A)), .int .u64 (l3 (dgN A))]) ∧ Below w.heap.size w w') := fun w hm => enumber_any hA hl w hm
  have C3 : Hid (∀ w, Mds w → Calls Tryz.prog 26 #[.agg #[.int .u64 (l0 (dgN A)), .int .u64 (l1 (dgN A)), .int .u64 (l2 (dgN A)), .int .u64 (l3 (dgN A))], .agg #[.int .u64 (l0 (invN nN s)), .int .u64 (l1 (invN nN s)), .int .u64 (l2 (invN nN s)), .int .u64 (l3 (invN nN s))]] w fun e w' => e = .returned (.agg #[.int .u64 (l0 (verB s A)), .int .u64 (l1 (verB s A)), .int .u64 (l2 (verB s A)), .int .u64 (l3 (verB s A))]) ∧ Below w.heap.size w w') := eprod_any (modN_Num fit_n _) nv
  have C4 : Hid (∀ w, Mds w → Calls Tryz.prog 26 #[.agg #[.int .u64 (l0 r), .int .u64 (l1 r), .int .u64 (l2 r), .int .u64 (l3 r)], .agg #[.int .u64 (l0 (invN nN s)), .int .u64 (l1 (invN nN s)), .int .u64 (l2 (invN nN s)), .int .u64 (l3 (invN nN s))]] w fun e w' => e = .returned (.agg #[.int .u64 (l0 (verC r s)), .int .u64 (l1 (verC r s)), .int .u64 (l2 (verC r s)), .int .u64 (l3 (verC r s))]) ∧ Below w.heap.size w w') := eprod_any hr nv
  have CM := fun w hm hc => cmuladd_any (a := verB s A) (b := verC r s) (modN_Num fit_n _) (modN_Num fit_n _) hv hj ej w hm hc
  cases j with
  | true => exact ever_none hl (con_yes hv) C1 (einv_any hs hz) CN C3 C4 CM w hm hc
  | false => exact ever_ok hl (con_yes hv) C1 (einv_any hs hz) CN C3 C4 CM (ered_any hj.low.1.num) (eq2 (modN_Num fit_n _) hr rfl) w hm hc
end Go.Proofs.YtjhongkmempepaaGreatDoor

namespace Go.Proofs.YtjhongkmempepaaGreatDoor
open Go.RowKit Go.Sort

set_option maxRecDepth 100000 in
set_option maxHeartbeats 8000000 in
theorem ever_id {x y r s : Int} {o : Bool} {A : List Int} (w : World) :
    Calls Tryz.prog 9 #[.agg #[.int .u64 (l0 x), .int .u64 (l1 x), .int .u64 (l2 x), .int .u64 (l3 x), .int .u64 (l0 y), .int .u64 (l1 y), .int .u64 (l2 y), .int .u64 (l3 y), .bool true], hashV A, .agg #[.int .u64 (l0 r), .int .u64 (l1 r), .int .u64 (l2 r), .int .u64 (l3 r), .int .u64 (l0 s), .int .u64 (l1 s), .int .u64 (l2 s), .int .u64 (l3 s), .bool o]] w fun e w' => e = .returned (.tuple #[.bool false, .int .i64 50]) ∧ Below w.heap.size w w' := by
  unfold hashV
  go_enter Tryz.func9, Tryz.ntmps9
  go_wp2
  simp [bodyPost, results, Tryz.results9, go_sem]
  repeat (first | with_reducible exact Below.refl _ _ | with_reducible refine Below.alloc ?_ (by first | omega | (simp; done) | (simp; omega)) _)
theorem evers_any {x y r s : Int} {i o : Bool} {A : List Int} (hx : Num x) (hy : Num y) (hl : A.length = 32) (hA : Byts A) (hr : Num r) (hs : Num s) (w : World) (hm : Mds w) (hc : Cols w) :
    Calls Tryz.prog 4 #[.agg #[.int .u64 (l0 x), .int .u64 (l1 x), .int .u64 (l2 x), .int .u64 (l3 x), .int .u64 (l0 y), .int .u64 (l1 y), .int .u64 (l2 y), .int .u64 (l3 y), .bool i], hashV A, .agg #[.int .u64 (l0 r), .int .u64 (l1 r), .int .u64 (l2 r), .int .u64 (l3 r), .int .u64 (l0 s), .int .u64 (l1 s), .int .u64 (l2 s), .int .u64 (l3 s), .bool o]] w fun e w' => e = .returned (.bool true) ∧ Below w.heap.size w w' := by
  cases i with
  | true =>
    by_cases hv : Vd x y true
    · exact evers_walk hl (fun w _ _ => ever_id w) (r6ver_id hl (r5on_yes hv)) (fun w => lnum6_any _ w) w hm hc
    · exact evers_walk hl (fun w _ _ => ever_id w) (r6ver_off hl (r5on_no hx hy hv)) (fun w => lnum6_any _ w) w hm hc
  | false =>
    by_cases hv : Vd x y false
    · have CK := r6check_any (o := o) hr hs
      have CP := echeck_any (o := o) hr hs
      by_cases h : chkN r s = 0
      · rw [h] at CK
        obtain ⟨_, f2, _⟩ := chk_fit h
        obtain ⟨s0, s1⟩ := fitN_fit f2
        have hz : modN nN s ≠ 0 := by rw [modN_of_lt hs.1 s1]; exact s0
        have nd : Num (dgN A) := modN_Num fit_n _
        have nv : Num (invN nN s) := powN_Num fit_n _ _
        obtain ⟨X, Y, j, hj, ej⟩ := rep_pt (EC.Pt.on (EC.smul_on EC.gJ_on (verB s A).toNat) (EC.smul_on hv.on (verC r s).toNat))
        have VE := verify_any (o := o) hv hr hs hA hl h hj ej
        have CN : Hid (∀ w, Calls Tryz.prog 31 #[.agg ((A.map fun z => Value.int .u8 z).toArray)] w fun e w' => e = .returned (.agg #[.int .u64 (l0 (dgN A)), .int .u64 (l1 (dgN A)), .int .u64 (l2 (dgN A)), .int .u64 (l3 (dgN A))]) ∧ Below w.heap.size w w') := fun w => r6number_any hA hl w
        have C3 : Hid (∀ w, Calls Tryz.prog 33 #[.agg #[.int .u64 (l0 (dgN A)), .int .u64 (l1 (dgN A)), .int .u64 (l2 (dgN A)), .int .u64 (l3 (dgN A))], .agg #[.int .u64 (l0 (invN nN s)), .int .u64 (l1 (invN nN s)), .int .u64 (l2 (invN nN s)), .int .u64 (l3 (invN nN s))]] w fun e w' => e = .returned (.agg #[.int .u64 (l0 (verB s A)), .int .u64 (l1 (verB s A)), .int .u64 (l2 (verB s A)), .int .u64 (l3 (verB s A))]) ∧ Below w.heap.size w w') := r6times_any nd nv
        have C4 : Hid (∀ w, Calls Tryz.prog 33 #[.agg #[.int .u64 (l0 r), .int .u64 (l1 r), .int .u64 (l2 r), .int .u64 (l3 r)], .agg #[.int .u64 (l0 (invN nN s)), .int .u64 (l1 (invN nN s)), .int .u64 (l2 (invN nN s)), .int .u64 (l3 (invN nN s))]] w fun e w' => e = .returned (.agg #[.int .u64 (l0 (verC r s)), .int .u64 (l1 (verC r s)), .int .u64 (l2 (verC r s)), .int .u64 (l3 (verC r s))]) ∧ Below w.heap.size w w') := r6times_any hr nv
        have CM := fun w => r5muladd_any (a := verB s A) (b := verC r s) (modN_Num fit_n _) (modN_Num fit_n _) hv hj ej w
        cases j with
        | true => exact evers_walk hl VE (r6ver_none hl (r5on_yes hv) CK (r6inv_any hs hz) CN C3 C4 CM) (fun w => lnum6_any _ w) w hm hc
        | false =>
          exact evers_walk (v := decide (modN nN X = r)) hl VE (r6ver_ok hl (r5on_yes hv) CK (r6inv_any hs hz) CN C3 C4 CM (r4red_n hj.low.1.num) (eq2 (modN_Num fit_n _) hr rfl)) (fun w => lnum6_any _ w) w hm hc
      · exact evers_walk hl (fun w hm hc => ever_check hl (con_yes hv) CP h w hm hc) (r6ver_check hl (r5on_yes hv) CK h) (fun w => lnum6_any _ w) w hm hc
    · exact evers_walk hl (fun w hm hc => ever_off hl (con_no hx hy hv) w hm hc) (r6ver_off hl (r5on_no hx hy hv)) (fun w => lnum6_any _ w) w hm hc
end Go.Proofs.YtjhongkmempepaaGreatDoor

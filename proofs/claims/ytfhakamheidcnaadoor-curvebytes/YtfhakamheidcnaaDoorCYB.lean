import Derived.Test.YtfhakamheidcnaaDoorCBkC
import Derived.Test.YtfhakamheidcnaaDoorCJx
import Derived.Test.YtfhakamheidcnaaDoorUbA
import Derived.Test.YtfhakamheidcnaaDoorDivAny
import Derived.Test.YtfhakamheidcnaaDoorCSumK
namespace Go.Proofs.YtfhakamheidcnaaDoor
open Go.RowKit Go.Sort

set_option maxRecDepth 100000 in
set_option maxHeartbeats 4000000 in
theorem chf_no {x y : Int} {i : Bool} (ON : Hid (∀ w, Mds w → Calls Tryd.prog 16 #[.agg #[.int .u64 (l0 x), .int .u64 (l1 x), .int .u64 (l2 x), .int .u64 (l3 x), .int .u64 (l0 y), .int .u64 (l1 y), .int .u64 (l2 y), .int .u64 (l3 y), .bool i]] w fun e w' => e = .returned (.bool false) ∧ Below w.heap.size w w')) (w : World) (hm : Mds w) :
    Calls Tryd.prog 11 #[.agg #[.int .u64 (l0 x), .int .u64 (l1 x), .int .u64 (l2 x), .int .u64 (l3 x), .int .u64 (l0 y), .int .u64 (l1 y), .int .u64 (l2 y), .int .u64 (l3 y), .bool i]] w fun e w' => e = .returned (.int .i64 50) ∧ Below w.heap.size w w' := by
  go_enter Tryd.func11, Tryd.ntmps11
  go_wp2_with fail
  refine calls_world (fun W => Below w.heap.size w W ∧ Mds W ∧ Pnt W w.heap.size x y i) ⟨by repeat (first | with_reducible exact Below.refl _ _ | with_reducible refine Below.alloc ?_ (by first | omega | (simp; done) | (simp; omega)) _), hm.alloc _, Pnt.new rfl⟩ ?_
  rintro W ⟨B, hD, hP⟩
  with_reducible refine (ON.out _ hD).mono ?_
  rintro e w9 ⟨rfl, hb⟩
  replace B := B.trans (hb.mono B.size)
  replace hP := hP.keep hb
  clear hb W hD
  have gP := hP.cells
  go_wp2
  simp [bodyPost, results, Tryd.results11, go_sem]
  exact B
set_option maxRecDepth 100000 in
set_option maxHeartbeats 4000000 in
theorem chf_id {x y : Int} (ON : Hid (∀ w, Mds w → Calls Tryd.prog 16 #[.agg #[.int .u64 (l0 x), .int .u64 (l1 x), .int .u64 (l2 x), .int .u64 (l3 x), .int .u64 (l0 y), .int .u64 (l1 y), .int .u64 (l2 y), .int .u64 (l3 y), .bool true]] w fun e w' => e = .returned (.bool true) ∧ Below w.heap.size w w')) (w : World) (hm : Mds w) :
    Calls Tryd.prog 11 #[.agg #[.int .u64 (l0 x), .int .u64 (l1 x), .int .u64 (l2 x), .int .u64 (l3 x), .int .u64 (l0 y), .int .u64 (l1 y), .int .u64 (l2 y), .int .u64 (l3 y), .bool true]] w fun e w' => e = .returned (.int .i64 51) ∧ Below w.heap.size w w' := by
  go_enter Tryd.func11, Tryd.ntmps11
  go_wp2_with fail
  refine calls_world (fun W => Below w.heap.size w W ∧ Mds W ∧ Pnt W w.heap.size x y true) ⟨by repeat (first | with_reducible exact Below.refl _ _ | with_reducible refine Below.alloc ?_ (by first | omega | (simp; done) | (simp; omega)) _), hm.alloc _, Pnt.new rfl⟩ ?_
  rintro W ⟨B, hD, hP⟩
  with_reducible refine (ON.out _ hD).mono ?_
  rintro e w9 ⟨rfl, hb⟩
  replace B := B.trans (hb.mono B.size)
  replace hP := hP.keep hb
  clear hb W hD
  have gP := hP.cells
  go_wp2
  simp [bodyPost, results, Tryd.results11, go_sem]
  exact B
set_option maxRecDepth 100000 in
set_option maxHeartbeats 4000000 in
theorem compress_bad {x y v : Int} {i : Bool} (hv : ¬ v = 0) (CH : Hid (∀ w, Mds w → Calls Tryd.prog 11 #[.agg #[.int .u64 (l0 x), .int .u64 (l1 x), .int .u64 (l2 x), .int .u64 (l3 x), .int .u64 (l0 y), .int .u64 (l1 y), .int .u64 (l2 y), .int .u64 (l3 y), .bool i]] w fun e w' => e = .returned (.int .i64 v) ∧ Below w.heap.size w w')) (w : World) (hm : Mds w) :
    Calls Tryd.prog 4 #[.agg #[.int .u64 (l0 x), .int .u64 (l1 x), .int .u64 (l2 x), .int .u64 (l3 x), .int .u64 (l0 y), .int .u64 (l1 y), .int .u64 (l2 y), .int .u64 (l3 y), .bool i]] w fun e w' => e = .returned (.tuple #[.slice none 0 0, .int .i64 v]) ∧ Below w.heap.size w w' := by
  go_enter Tryd.func4, Tryd.ntmps4
  go_wp2_with fail
  refine calls_world (fun W => Below w.heap.size w W ∧ Mds W ∧ Pnt W w.heap.size x y i) ⟨by repeat (first | with_reducible exact Below.refl _ _ | with_reducible refine Below.alloc ?_ (by first | omega | (simp; done) | (simp; omega)) _), hm.alloc _, Pnt.new rfl⟩ ?_
  rintro W ⟨B, hD, hP⟩
  with_reducible refine (CH.out _ hD).mono ?_
  rintro e w9 ⟨rfl, hb⟩
  replace B := B.trans (hb.mono B.size)
  replace hP := hP.keep hb
  clear hb W hD
  have gP := hP.cells
  go_wp2
  simp [bodyPost, results, Tryd.results4, go_sem]
  exact B
set_option maxRecDepth 100000 in
set_option maxHeartbeats 4000000 in
theorem expand_bad {x y v : Int} {i : Bool} (hv : ¬ v = 0) (CH : Hid (∀ w, Mds w → Calls Tryd.prog 11 #[.agg #[.int .u64 (l0 x), .int .u64 (l1 x), .int .u64 (l2 x), .int .u64 (l3 x), .int .u64 (l0 y), .int .u64 (l1 y), .int .u64 (l2 y), .int .u64 (l3 y), .bool i]] w fun e w' => e = .returned (.int .i64 v) ∧ Below w.heap.size w w')) (w : World) (hm : Mds w) :
    Calls Tryd.prog 5 #[.agg #[.int .u64 (l0 x), .int .u64 (l1 x), .int .u64 (l2 x), .int .u64 (l3 x), .int .u64 (l0 y), .int .u64 (l1 y), .int .u64 (l2 y), .int .u64 (l3 y), .bool i]] w fun e w' => e = .returned (.tuple #[.slice none 0 0, .int .i64 v]) ∧ Below w.heap.size w w' := by
  go_enter Tryd.func5, Tryd.ntmps5
  go_wp2_with fail
  refine calls_world (fun W => Below w.heap.size w W ∧ Mds W ∧ Pnt W w.heap.size x y i) ⟨by repeat (first | with_reducible exact Below.refl _ _ | with_reducible refine Below.alloc ?_ (by first | omega | (simp; done) | (simp; omega)) _), hm.alloc _, Pnt.new rfl⟩ ?_
  rintro W ⟨B, hD, hP⟩
  with_reducible refine (CH.out _ hD).mono ?_
  rintro e w9 ⟨rfl, hb⟩
  replace B := B.trans (hb.mono B.size)
  replace hP := hP.keep hb
  clear hb W hD
  have gP := hP.cells
  go_wp2
  simp [bodyPost, results, Tryd.results5, go_sem]
  exact B
/-- What the forms answer. -/
noncomputable def cpE (x y : Int) (i : Bool) : Int := if Vd x y i then (if i = true then 51 else 0) else 50
noncomputable def cpL (x y : Int) (i : Bool) : List Int := if cpE x y i = 0 then (2 + bitN y 0) :: putL x else []
noncomputable def exL (x y : Int) (i : Bool) : List Int := if cpE x y i = 0 then (4 :: putL x) ++ putL y else []
theorem cpE_zero {x y : Int} {i : Bool} (h : cpE x y i = 0) : Vd x y i ∧ i = false := by
  unfold cpE at h
  by_cases k : Vd x y i
  · rw [if_pos k] at h
    cases i with
    | true => simp at h
    | false => exact ⟨k, rfl⟩
  · rw [if_neg k] at h; cases h
theorem cpL_len (x y : Int) (i : Bool) : (cpL x y i).length ≤ 65 := by
  unfold cpL
  split
  · rw [List.length_cons, putL_len]; decide
  · simp
theorem exL_len (x y : Int) (i : Bool) : (exL x y i).length ≤ 65 := by
  unfold exL
  split
  · rw [List.length_append, List.length_cons, putL_len, putL_len]; decide
  · simp
theorem chf_any {x y : Int} {i : Bool} (hx : Num x) (hy : Num y) : Hid (∀ w, Mds w → Calls Tryd.prog 11 #[.agg #[.int .u64 (l0 x), .int .u64 (l1 x), .int .u64 (l2 x), .int .u64 (l3 x), .int .u64 (l0 y), .int .u64 (l1 y), .int .u64 (l2 y), .int .u64 (l3 y), .bool i]] w fun e w' => e = .returned (.int .i64 (cpE x y i)) ∧ Below w.heap.size w w') := fun w hm => by
  unfold cpE
  by_cases k : Vd x y i
  · rw [if_pos k]
    have ON : Hid (∀ w, Mds w → Calls Tryd.prog 16 #[.agg #[.int .u64 (l0 x), .int .u64 (l1 x), .int .u64 (l2 x), .int .u64 (l3 x), .int .u64 (l0 y), .int .u64 (l1 y), .int .u64 (l2 y), .int .u64 (l3 y), .bool i]] w fun e w' => e = .returned (.bool true) ∧ Below w.heap.size w w') := fun w hm => by
      have h := con_any (i := i) hx hy w hm
      rw [decide_eq_true k] at h
      exact h
    cases i with
    | true => rw [if_pos rfl]; exact chf_id ON w hm
    | false => rw [if_neg (by decide)]; exact chf_walk ON w hm
  · rw [if_neg k]
    have ON : Hid (∀ w, Mds w → Calls Tryd.prog 16 #[.agg #[.int .u64 (l0 x), .int .u64 (l1 x), .int .u64 (l2 x), .int .u64 (l3 x), .int .u64 (l0 y), .int .u64 (l1 y), .int .u64 (l2 y), .int .u64 (l3 y), .bool i]] w fun e w' => e = .returned (.bool false) ∧ Below w.heap.size w w') := fun w hm => by
      have h := con_any (i := i) hx hy w hm
      rw [decide_eq_false k] at h
      exact h
    exact chf_no ON w hm
theorem bit_twoY (y : Int) : bitN y 0 = 0 ∨ bitN y 0 = 1 := by
  unfold bitN
  omega
theorem compress_all {x y : Int} {i : Bool} (hx : Num x) (hy : Num y) (w : World) (hm : Mds w) :
    Calls Tryd.prog 4 #[.agg #[.int .u64 (l0 x), .int .u64 (l1 x), .int .u64 (l2 x), .int .u64 (l3 x), .int .u64 (l0 y), .int .u64 (l1 y), .int .u64 (l2 y), .int .u64 (l3 y), .bool i]] w fun e w' => ∃ v, e = .returned (.tuple #[v, .int .i64 (cpE x y i)]) ∧ OwnB w.heap.size w' v (cpL x y i) ∧ Below w.heap.size w w' := by
  have CH := chf_any (i := i) hx hy
  by_cases k : cpE x y i = 0
  case neg =>
    refine (compress_bad k CH w hm).mono ?_
    rintro e w' ⟨rfl, hb⟩
    refine ⟨_, rfl, ?_, hb⟩
    rw [cpL, if_neg k]
    exact OwnB.nil _ _
  obtain ⟨_, rfl⟩ := cpE_zero k
  rw [k] at CH ⊢
  rw [cpL, if_pos k]
  have BT := bit_any (k := 0) hy
  rcases bit_twoY y with hb | hb
  · rw [hb] at BT ⊢
    refine (compress_2 (putL_len x) rfl CH (fun w => put_any w) BT w hm).mono ?_
    rintro e w' ⟨v, rfl, ho, hb⟩
    refine ⟨v, rfl, ?_, hb⟩
    rw [OwnB, List.length_cons, putL_len]
    exact ho
  · rw [hb] at BT ⊢
    refine (compress_3 (putL_len x) rfl CH (fun w => put_any w) BT w hm).mono ?_
    rintro e w' ⟨v, rfl, ho, hb⟩
    refine ⟨v, rfl, ?_, hb⟩
    rw [OwnB, List.length_cons, putL_len]
    exact ho
theorem expand_all {x y : Int} {i : Bool} (hx : Num x) (hy : Num y) (w : World) (hm : Mds w) :
    Calls Tryd.prog 5 #[.agg #[.int .u64 (l0 x), .int .u64 (l1 x), .int .u64 (l2 x), .int .u64 (l3 x), .int .u64 (l0 y), .int .u64 (l1 y), .int .u64 (l2 y), .int .u64 (l3 y), .bool i]] w fun e w' => ∃ v, e = .returned (.tuple #[v, .int .i64 (cpE x y i)]) ∧ OwnB w.heap.size w' v (exL x y i) ∧ Below w.heap.size w w' := by
  have CH := chf_any (i := i) hx hy
  by_cases k : cpE x y i = 0
  case neg =>
    refine (expand_bad k CH w hm).mono ?_
    rintro e w' ⟨rfl, hb⟩
    refine ⟨_, rfl, ?_, hb⟩
    rw [exL, if_neg k]
    exact OwnB.nil _ _
  obtain ⟨_, rfl⟩ := cpE_zero k
  rw [k] at CH ⊢
  rw [exL, if_pos k]
  refine (expand_walk (putL_len x) (putL_len y) rfl rfl CH (fun w => put_any w) (fun w => put_any w) w hm).mono ?_
  rintro e w' ⟨v, rfl, ho, hb⟩
  refine ⟨v, rfl, ?_, hb⟩
  rw [OwnB, List.length_append, List.length_cons, putL_len, putL_len]
  exact ho
end Go.Proofs.YtfhakamheidcnaaDoor

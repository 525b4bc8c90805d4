import Derived.Test.YtleneapnjanbbaaDoorCBkC
import Derived.Test.YtleneapnjanbbaaDoorCJx
import Derived.Test.YtleneapnjanbbaaDoorUbA
import Derived.Test.YtleneapnjanbbaaDoorCBits
import Derived.Test.YtleneapnjanbbaaDoorCSumK
import Derived.Test.YtleneapnjanbbaaDoorCZA
import Derived.Test.YtleneapnjanbbaaDoorUbC
import Derived.Test.YtleneapnjanbbaaDoorCBkN
namespace Go.Proofs.YtleneapnjanbbaaDoor
open Go.RowKit Go.Sort

set_option maxRecDepth 100000 in
set_option maxHeartbeats 4000000 in
theorem chf_no {x y : Int} {i : Bool} (ON : Hid (∀ w, Mds w → Calls Tryd.prog 10 #[.agg #[.int .u64 (l0 x), .int .u64 (l1 x), .int .u64 (l2 x), .int .u64 (l3 x), .int .u64 (l0 y), .int .u64 (l1 y), .int .u64 (l2 y), .int .u64 (l3 y), .bool i]] w fun e w' => e = .returned (.bool false) ∧ Below w.heap.size w w')) (w : World) (hm : Mds w) :
    Calls Tryd.prog 17 #[.agg #[.int .u64 (l0 x), .int .u64 (l1 x), .int .u64 (l2 x), .int .u64 (l3 x), .int .u64 (l0 y), .int .u64 (l1 y), .int .u64 (l2 y), .int .u64 (l3 y), .bool i]] w fun e w' => e = .returned (.int .i64 50) ∧ Below w.heap.size w w' := by
  go_enter Tryd.func17, Tryd.ntmps17
  go_wp2_with fail
  refine calls_world (fun W => Below w.heap.size w W ∧ Mds W ∧ Pnt W w.heap.size x y i) ⟨by repeat (first | with_reducible exact Below.refl _ _ | with_reducible refine Below.alloc ?_ (by first | omega | (simp; done) | (simp; omega)) _), hm.alloc _, Pnt.new rfl⟩ ?_
  rintro W ⟨B, hD, hP⟩
  with_reducible refine (ON.out _ hD).mono ?_
  rintro e w9 ⟨rfl, hb⟩
  replace B := B.trans (hb.mono B.size)
  replace hP := hP.keep hb
  clear hb W hD
  have gP := hP.cells
  go_wp2
  simp [bodyPost, results, Tryd.results17, go_sem]
  exact B
set_option maxRecDepth 100000 in
set_option maxHeartbeats 4000000 in
theorem chf_id {x y : Int} (ON : Hid (∀ w, Mds w → Calls Tryd.prog 10 #[.agg #[.int .u64 (l0 x), .int .u64 (l1 x), .int .u64 (l2 x), .int .u64 (l3 x), .int .u64 (l0 y), .int .u64 (l1 y), .int .u64 (l2 y), .int .u64 (l3 y), .bool true]] w fun e w' => e = .returned (.bool true) ∧ Below w.heap.size w w')) (w : World) (hm : Mds w) :
    Calls Tryd.prog 17 #[.agg #[.int .u64 (l0 x), .int .u64 (l1 x), .int .u64 (l2 x), .int .u64 (l3 x), .int .u64 (l0 y), .int .u64 (l1 y), .int .u64 (l2 y), .int .u64 (l3 y), .bool true]] w fun e w' => e = .returned (.int .i64 51) ∧ Below w.heap.size w w' := by
  go_enter Tryd.func17, Tryd.ntmps17
  go_wp2_with fail
  refine calls_world (fun W => Below w.heap.size w W ∧ Mds W ∧ Pnt W w.heap.size x y true) ⟨by repeat (first | with_reducible exact Below.refl _ _ | with_reducible refine Below.alloc ?_ (by first | omega | (simp; done) | (simp; omega)) _), hm.alloc _, Pnt.new rfl⟩ ?_
  rintro W ⟨B, hD, hP⟩
  with_reducible refine (ON.out _ hD).mono ?_
  rintro e w9 ⟨rfl, hb⟩
  replace B := B.trans (hb.mono B.size)
  replace hP := hP.keep hb
  clear hb W hD
  have gP := hP.cells
  go_wp2
  simp [bodyPost, results, Tryd.results17, go_sem]
  exact B
set_option maxRecDepth 100000 in
set_option maxHeartbeats 4000000 in
theorem compress_bad {x y v : Int} {i : Bool} (hv : ¬ v = 0) (CH : Hid (∀ w, Mds w → Calls Tryd.prog 17 #[.agg #[.int .u64 (l0 x), .int .u64 (l1 x), .int .u64 (l2 x), .int .u64 (l3 x), .int .u64 (l0 y), .int .u64 (l1 y), .int .u64 (l2 y), .int .u64 (l3 y), .bool i]] w fun e w' => e = .returned (.int .i64 v) ∧ Below w.heap.size w w')) (w : World) (hm : Mds w) :
    Calls Tryd.prog 8 #[.agg #[.int .u64 (l0 x), .int .u64 (l1 x), .int .u64 (l2 x), .int .u64 (l3 x), .int .u64 (l0 y), .int .u64 (l1 y), .int .u64 (l2 y), .int .u64 (l3 y), .bool i]] w fun e w' => e = .returned (.tuple #[.slice none 0 0, .int .i64 v]) ∧ Below w.heap.size w w' := by
  go_enter Tryd.func8, Tryd.ntmps8
  go_wp2_with fail
  refine calls_world (fun W => Below w.heap.size w W ∧ Mds W ∧ Pnt W w.heap.size x y i) ⟨by repeat (first | with_reducible exact Below.refl _ _ | with_reducible refine Below.alloc ?_ (by first | omega | (simp; done) | (simp; omega)) _), hm.alloc _, Pnt.new rfl⟩ ?_
  rintro W ⟨B, hD, hP⟩
  with_reducible refine (CH.out _ hD).mono ?_
  rintro e w9 ⟨rfl, hb⟩
  replace B := B.trans (hb.mono B.size)
  replace hP := hP.keep hb
  clear hb W hD
  have gP := hP.cells
  go_wp2
  simp [bodyPost, results, Tryd.results8, go_sem]
  exact B
set_option maxRecDepth 100000 in
set_option maxHeartbeats 4000000 in
theorem expand_bad {x y v : Int} {i : Bool} (hv : ¬ v = 0) (CH : Hid (∀ w, Mds w → Calls Tryd.prog 17 #[.agg #[.int .u64 (l0 x), .int .u64 (l1 x), .int .u64 (l2 x), .int .u64 (l3 x), .int .u64 (l0 y), .int .u64 (l1 y), .int .u64 (l2 y), .int .u64 (l3 y), .bool i]] w fun e w' => e = .returned (.int .i64 v) ∧ Below w.heap.size w w')) (w : World) (hm : Mds w) :
    Calls Tryd.prog 9 #[.agg #[.int .u64 (l0 x), .int .u64 (l1 x), .int .u64 (l2 x), .int .u64 (l3 x), .int .u64 (l0 y), .int .u64 (l1 y), .int .u64 (l2 y), .int .u64 (l3 y), .bool i]] w fun e w' => e = .returned (.tuple #[.slice none 0 0, .int .i64 v]) ∧ Below w.heap.size w w' := by
  go_enter Tryd.func9, Tryd.ntmps9
  go_wp2_with fail
  refine calls_world (fun W => Below w.heap.size w W ∧ Mds W ∧ Pnt W w.heap.size x y i) ⟨by repeat (first | with_reducible exact Below.refl _ _ | with_reducible refine Below.alloc ?_ (by first | omega | (simp; done) | (simp; omega)) _), hm.alloc _, Pnt.new rfl⟩ ?_
  rintro W ⟨B, hD, hP⟩
  with_reducible refine (CH.out _ hD).mono ?_
  rintro e w9 ⟨rfl, hb⟩
  replace B := B.trans (hb.mono B.size)
  replace hP := hP.keep hb
  clear hb W hD
  have gP := hP.cells
  go_wp2
  simp [bodyPost, results, Tryd.results9, go_sem]
  exact B
/-- What the forms answer. -/
noncomputable def cpE (x y : Int) (i : Bool) : Int := if Vd x y i then (if i = true then 51 else 0) else 50
noncomputable def cpL (x y : Int) (i : Bool) : List Int := if cpE x y i = 0 then (2 + bitN y 0) :: putL x else []
noncomputable def exL (x y : Int) (i : Bool) : List Int := if cpE x y i = 0 then (4 :: putL x) ++ putL y else []
theorem cpE_zero {x y : Int} {i : Bool} (h : cpE x y i = 0) : Vd x y i ∧ i = false := by
  unfold cpE at h
  by_cases k : Vd x y i
  · rw [if_pos k] at h
    cases i with
    | true => simp at h
    | false => exact ⟨k, rfl⟩
  · rw [if_neg k] at h; cases h
theorem chf_any {x y : Int} {i : Bool} (hx : Num x) (hy : Num y) : Hid (∀ w, Mds w → Calls Tryd.prog 17 #[.agg #[.int .u64 (l0 x), .int .u64 (l1 x), .int .u64 (l2 x), .int .u64 (l3 x), .int .u64 (l0 y), .int .u64 (l1 y), .int .u64 (l2 y), .int .u64 (l3 y), .bool i]] w fun e w' => e = .returned (.int .i64 (cpE x y i)) ∧ Below w.heap.size w w') := fun w hm => by
  unfold cpE
  by_cases k : Vd x y i
  · rw [if_pos k]
    have ON : Hid (∀ w, Mds w → Calls Tryd.prog 10 #[.agg #[.int .u64 (l0 x), .int .u64 (l1 x), .int .u64 (l2 x), .int .u64 (l3 x), .int .u64 (l0 y), .int .u64 (l1 y), .int .u64 (l2 y), .int .u64 (l3 y), .bool i]] w fun e w' => e = .returned (.bool true) ∧ Below w.heap.size w w') := fun w hm => by
      have h := con_any (i := i) hx hy w hm
      rw [decide_eq_true k] at h
      exact h
    cases i with
    | true => rw [if_pos rfl]; exact chf_id ON w hm
    | false => rw [if_neg (by decide)]; exact chf_walk ON w hm
  · rw [if_neg k]
    have ON : Hid (∀ w, Mds w → Calls Tryd.prog 10 #[.agg #[.int .u64 (l0 x), .int .u64 (l1 x), .int .u64 (l2 x), .int .u64 (l3 x), .int .u64 (l0 y), .int .u64 (l1 y), .int .u64 (l2 y), .int .u64 (l3 y), .bool i]] w fun e w' => e = .returned (.bool false) ∧ Below w.heap.size w w') := fun w hm => by
      have h := con_any (i := i) hx hy w hm
      rw [decide_eq_false k] at h
      exact h
    exact chf_no ON w hm
theorem bit_twoY (y : Int) : bitN y 0 = 0 ∨ bitN y 0 = 1 := by
  unfold bitN
  omega
theorem compress_all {x y : Int} {i : Bool} (hx : Num x) (hy : Num y) (w : World) (hm : Mds w) :
    Calls Tryd.prog 8 #[.agg #[.int .u64 (l0 x), .int .u64 (l1 x), .int .u64 (l2 x), .int .u64 (l3 x), .int .u64 (l0 y), .int .u64 (l1 y), .int .u64 (l2 y), .int .u64 (l3 y), .bool i]] w fun e w' => ∃ v, e = .returned (.tuple #[v, .int .i64 (cpE x y i)]) ∧ OwnB w.heap.size w' v (cpL x y i) ∧ Below w.heap.size w w' := by
  have CH := chf_any (i := i) hx hy
  by_cases k : cpE x y i = 0
  case neg =>
    refine (compress_bad k CH w hm).mono ?_
    rintro e w' ⟨rfl, hb⟩
    refine ⟨_, rfl, ?_, hb⟩
    rw [cpL, if_neg k]
    exact OwnB.nil _ _
  obtain ⟨_, rfl⟩ := cpE_zero k
  rw [k] at CH ⊢
  rw [cpL, if_pos k]
  have BT := bit_any (k := 0) hy
  rcases bit_twoY y with hb | hb
  · rw [hb] at BT ⊢
    refine (compress_2 (putL_len x) rfl CH (fun w => put_any w) BT w hm).mono ?_
    rintro e w' ⟨v, rfl, ho, hb⟩
    refine ⟨v, rfl, ?_, hb⟩
    rw [OwnB, List.length_cons, putL_len]
    exact ho
  · rw [hb] at BT ⊢
    refine (compress_3 (putL_len x) rfl CH (fun w => put_any w) BT w hm).mono ?_
    rintro e w' ⟨v, rfl, ho, hb⟩
    refine ⟨v, rfl, ?_, hb⟩
    rw [OwnB, List.length_cons, putL_len]
    exact ho
theorem expand_all {x y : Int} {i : Bool} (hx : Num x) (hy : Num y) (w : World) (hm : Mds w) :
    Calls Tryd.prog 9 #[.agg #[.int .u64 (l0 x), .int .u64 (l1 x), .int .u64 (l2 x), .int .u64 (l3 x), .int .u64 (l0 y), .int .u64 (l1 y), .int .u64 (l2 y), .int .u64 (l3 y), .bool i]] w fun e w' => ∃ v, e = .returned (.tuple #[v, .int .i64 (cpE x y i)]) ∧ OwnB w.heap.size w' v (exL x y i) ∧ Below w.heap.size w w' := by
  have CH := chf_any (i := i) hx hy
  by_cases k : cpE x y i = 0
  case neg =>
    refine (expand_bad k CH w hm).mono ?_
    rintro e w' ⟨rfl, hb⟩
    refine ⟨_, rfl, ?_, hb⟩
    rw [exL, if_neg k]
    exact OwnB.nil _ _
  obtain ⟨_, rfl⟩ := cpE_zero k
  rw [k] at CH ⊢
  rw [exL, if_pos k]
  refine (expand_walk (putL_len x) (putL_len y) rfl rfl CH (fun w => put_any w) (fun w => put_any w) w hm).mono ?_
  rintro e w' ⟨v, rfl, ho, hb⟩
  refine ⟨v, rfl, ?_, hb⟩
  rw [OwnB, List.length_append, List.length_cons, putL_len, putL_len]
  exact ho
end Go.Proofs.YtleneapnjanbbaaDoor

/- Parse of any bytes, as the program does it. -/
namespace Go.Proofs.YtleneapnjanbbaaDoor
open Go.RowKit Go.Sort

def xP (X : List Int) : Int := sufN ((X.drop 1).take 32) 32
def yP (X : List Int) : Int := sufN ((X.drop 33).take 32) 32
def shP (X : List Int) : Prop := X.length = 33 ∧ (X.getD 0 0 = 2 ∨ X.getD 0 0 = 3)
def lgP (X : List Int) : Prop := X.length = 65 ∧ X.getD 0 0 = 4
open Classical in
noncomputable def pK (X : List Int) : Int × Int × Int :=
  if shP X then (if xP X < pN then (liftX (xP X), liftY (decide (X.getD 0 0 = 3)) (xP X), liftE (xP X)) else (0, 0, 51))
  else if lgP X then (if xP X < pN ∧ yP X < pN then (if Vd (xP X) (yP X) false then (xP X, yP X, 0) else (0, 0, 50)) else (0, 0, 51))
  else (0, 0, 51)
theorem zero_pt : (.agg #[.int .u64 (l0 0), .int .u64 (l1 0), .int .u64 (l2 0), .int .u64 (l3 0), .int .u64 (l0 0), .int .u64 (l1 0), .int .u64 (l2 0), .int .u64 (l3 0), .bool false]) = Value.agg #[.int .u64 0, .int .u64 0, .int .u64 0, .int .u64 0, .int .u64 0, .int .u64 0, .int .u64 0, .int .u64 0, .bool false] := by
  obtain ⟨z0, z1, z2, z3⟩ := zero_limbs
  rw [z0, z1, z2, z3]
theorem byts_takeZ {X : List Int} (h : Byts X) (n : Nat) : Byts (X.take n) := fun i => by
  by_cases k : i < n
  · have := h i
    simpa [List.getD, List.getElem?_take, k] using this
  · rw [List.getD, List.getElem?_eq_none (by rw [List.length_take]; omega)]
    exact ⟨by decide, by decide⟩
theorem xy_num {A : List Int} (hA : Byts A) (hl : A.length = 32) : Num (sufN A 32) := by
  have := suf_numU hA (by omega)
  rwa [hl] at this
/-- A coordinate of any 32 bytes. -/
theorem coord_all {A : List Int} {g ob cap : Nat} (hA : Byts A) (hl : A.length = 32) :
    (sufN A 32 < pN → Hid (∀ w, Mds w → Cb w g ob A → Calls Tryd.prog 26 #[.slice (some ⟨g, ob, none⟩) 32 cap] w fun e w' => e = .returned (.tuple #[.agg #[.int .u64 (l0 (sufN A 32)), .int .u64 (l1 (sufN A 32)), .int .u64 (l2 (sufN A 32)), .int .u64 (l3 (sufN A 32))], .int .i64 0]) ∧ Below w.heap.size w w')) ∧
    (¬ sufN A 32 < pN → Hid (∀ w, Mds w → Cb w g ob A → Calls Tryd.prog 26 #[.slice (some ⟨g, ob, none⟩) 32 cap] w fun e w' => e = .returned (.tuple #[.agg #[.int .u64 0, .int .u64 0, .int .u64 0, .int .u64 0], .int .i64 51]) ∧ Below w.heap.size w w')) := by
  have hn := xy_num hA hl
  have GT : Hid (∀ w, Cb w g ob A → Calls Tryd.prog 37 #[.slice (some ⟨g, ob, none⟩) 32 cap] w fun e w' => e = .returned (.tuple #[.agg #[.int .u64 (l0 (sufN A 32)), .int .u64 (l1 (sufN A 32)), .int .u64 (l2 (sufN A 32)), .int .u64 (l3 (sufN A 32))], .int .i64 0]) ∧ Below w.heap.size w w') := fun w h => by
    have := get_some (bb := g) (ob := ob) (cb := cap) hA (by omega) w (fun i hi => h.2 i (by omega))
    rw [hl] at this
    exact this
  refine ⟨fun k => fun w hm h => ?_, fun k => fun w hm h => ?_⟩
  · exact coord_walk GT (fun w hm => by have := cbelow_any hn w hm; rw [decide_eq_true k] at this; exact this) w hm h
  · exact coord_bad GT (fun w hm => by have := cbelow_any hn w hm; rw [decide_eq_false k] at this; exact this) w hm h
theorem cb_of {W : World} {g n m : Nat} {X : List Int} (hz : Bz W g 0 X) (hl : n + 32 ≤ X.length) (hm : m = 32) : Cb W g n ((X.drop n).take m) := by
  subst hm
  refine ⟨by rw [List.length_take, List.length_drop]; omega, fun i hi => ?_⟩
  have hi' : i < 32 := by first | exact hi | (rw [List.length_take, List.length_drop] at hi; omega)
  have := hz (n + i) (by omega)
  rw [Nat.zero_add] at this
  rw [this]
  simp [List.getD, List.getElem?_drop, hi']
theorem fb_of {W : World} {g : Nat} {X : List Int} (hz : Bz W g 0 X) (hl : 0 < X.length) : Fb W g (X.getD 0 0) := hz 0 hl
/-- The program's Parse of any bytes. -/
theorem parse_all {g cap : Nat} {X : List Int} (hX : Byts X) (hc : X.length ≤ cap) (w : World) (hm : Mds w) (hz : Bz w g 0 X) :
    Calls Tryd.prog 5 #[.slice (some ⟨g, 0, none⟩) X.length cap] w fun e w' => e = .returned (.tuple #[.agg #[.int .u64 (l0 (pK X).1), .int .u64 (l1 (pK X).1), .int .u64 (l2 (pK X).1), .int .u64 (l3 (pK X).1), .int .u64 (l0 (pK X).2.1), .int .u64 (l1 (pK X).2.1), .int .u64 (l2 (pK X).2.1), .int .u64 (l3 (pK X).2.1), .bool false], .int .i64 (pK X).2.2]) ∧ Below w.heap.size w w' := by
  have b1 := byts_takeZ (drop_bytsU hX 1) 32
  have b2 := byts_takeZ (drop_bytsU hX 33) 32
  by_cases h33 : X.length = 33
  · have hf := fb_of hz (by omega)
    have k1 : ((X.drop 1).take 32).length = 32 := by rw [List.length_take, List.length_drop]; omega
    have hC := cb_of (n := 1) hz (by omega) rfl
    have hn := xy_num b1 k1
    obtain ⟨c1, c2⟩ := coord_all (g := g) (ob := 1) (cap := cap - 1) b1 k1
    rw [h33] at hc ⊢
    by_cases q : X.getD 0 0 = 2
    · rw [q] at hf
      have dd : decide (X.getD 0 0 = 3) = false := by rw [q]; rfl
      by_cases k : xP X < pN
      · have e : pK X = (liftX (xP X), liftY false (xP X), liftE (xP X)) := by unfold pK; rw [if_pos ⟨h33, .inl q⟩, if_pos k, dd]
        rw [e]
        exact parse_2e (fun w hm h hf => pshort_2e hc (c1 k) (fun w hm => clift_any hn false w hm) w hm h hf) w hm hC hf
      · have e : pK X = (0, 0, 51) := by unfold pK; rw [if_pos ⟨h33, .inl q⟩, if_neg k]
        rw [e]
        refine parse_2e (fun w hm h hf => ?_) w hm hC hf
        rw [zero_pt]
        exact pshort_bad hc (c2 k) w hm h
    have q2 := q
    clear q
    by_cases q : X.getD 0 0 = 3
    · rw [q] at hf
      have dd : decide (X.getD 0 0 = 3) = true := by rw [q]; rfl
      by_cases k : xP X < pN
      · have e : pK X = (liftX (xP X), liftY true (xP X), liftE (xP X)) := by unfold pK; rw [if_pos ⟨h33, .inr q⟩, if_pos k, dd]
        rw [e]
        exact parse_3e (fun w hm h hf => pshort_3e hc (c1 k) (fun w hm => clift_any hn true w hm) w hm h hf) w hm hC hf
      · have e : pK X = (0, 0, 51) := by unfold pK; rw [if_pos ⟨h33, .inr q⟩, if_neg k]
        rw [e]
        refine parse_3e (fun w hm h hf => ?_) w hm hC hf
        rw [zero_pt]
        exact pshort_bad hc (c2 k) w hm h
    have e : pK X = (0, 0, 51) := by
      unfold pK
      rw [if_neg (fun h => h.2.elim q2 q), if_neg (fun h => by have := h.1; omega)]
    rw [e]
    show Calls _ _ _ _ fun e w' => e = .returned (.tuple #[.agg #[.int .u64 (l0 0), .int .u64 (l1 0), .int .u64 (l2 0), .int .u64 (l3 0), .int .u64 (l0 0), .int .u64 (l1 0), .int .u64 (l2 0), .int .u64 (l3 0), .bool false], .int .i64 51]) ∧ _
    rw [zero_pt]
    exact parse_f33 q2 q w hf
  by_cases h65 : X.length = 65
  · have hf := fb_of hz (by omega)
    have k1 : ((X.drop 1).take 32).length = 32 := by rw [List.length_take, List.length_drop]; omega
    have k2 : ((X.drop 33).take 32).length = 32 := by rw [List.length_take, List.length_drop]; omega
    have hC := cb_of (n := 1) hz (by omega) rfl
    have hE := cb_of (n := 33) hz (by omega) rfl
    have n1 := xy_num b1 k1
    have n2 := xy_num b2 k2
    obtain ⟨c1, c2⟩ := coord_all (g := g) (ob := 1) (cap := cap - 1) b1 k1
    obtain ⟨c3, c4⟩ := coord_all (g := g) (ob := 33) (cap := cap - 33) b2 k2
    rw [h65] at hc ⊢
    have ns : ¬ shP X := fun h => h33 h.1
    by_cases q : X.getD 0 0 = 4
    · rw [q] at hf
      have lg : lgP X := ⟨h65, q⟩
      by_cases k : xP X < pN
      · by_cases m : yP X < pN
        · by_cases v : Vd (xP X) (yP X) false
          · have e : pK X = (xP X, yP X, 0) := by unfold pK; rw [if_neg ns, if_pos lg, if_pos ⟨k, m⟩, if_pos v]
            rw [e]
            refine parse_4e (fun w hm h h2 => ?_) w hm hC hE hf
            exact plong_walk hc (c1 k) (c3 m) (fun w hm => by have := con_any (i := false) n1 n2 w hm; rw [decide_eq_true (show Vd (sufN ((X.drop 1).take 32) 32) (sufN ((X.drop 33).take 32) 32) false from v)] at this; exact this) w hm h h2
          · have e : pK X = (0, 0, 50) := by unfold pK; rw [if_neg ns, if_pos lg, if_pos ⟨k, m⟩, if_neg v]
            rw [e]
            refine parse_4e (fun w hm h h2 => ?_) w hm hC hE hf
            rw [zero_pt]
            exact plong_off hc (c1 k) (c3 m) (fun w hm => by have := con_any (i := false) n1 n2 w hm; rw [decide_eq_false (show ¬ Vd (sufN ((X.drop 1).take 32) 32) (sufN ((X.drop 33).take 32) 32) false from v)] at this; exact this) w hm h h2
        · have e : pK X = (0, 0, 51) := by unfold pK; rw [if_neg ns, if_pos lg, if_neg (fun h => m h.2)]
          rw [e]
          refine parse_4e (fun w hm h h2 => ?_) w hm hC hE hf
          rw [zero_pt]
          exact plong_bad2 hc (c1 k) (c4 m) w hm h h2
      · have e : pK X = (0, 0, 51) := by unfold pK; rw [if_neg ns, if_pos lg, if_neg (fun h => k h.1)]
        rw [e]
        refine parse_4e (fun w hm h h2 => ?_) w hm hC hE hf
        rw [zero_pt]
        exact plong_bad1 hc (c2 k) w hm h
    have e : pK X = (0, 0, 51) := by unfold pK; rw [if_neg ns, if_neg (fun h => q h.2)]
    rw [e]
    show Calls _ _ _ _ fun e w' => e = .returned (.tuple #[.agg #[.int .u64 (l0 0), .int .u64 (l1 0), .int .u64 (l2 0), .int .u64 (l3 0), .int .u64 (l0 0), .int .u64 (l1 0), .int .u64 (l2 0), .int .u64 (l3 0), .bool false], .int .i64 51]) ∧ _
    rw [zero_pt]
    exact parse_f65 q w hf
  have e : pK X = (0, 0, 51) := by unfold pK; rw [if_neg (fun h => h33 h.1), if_neg (fun h => h65 h.1)]
  rw [e]
  show Calls _ _ _ _ fun e w' => e = .returned (.tuple #[.agg #[.int .u64 (l0 0), .int .u64 (l1 0), .int .u64 (l2 0), .int .u64 (l3 0), .int .u64 (l0 0), .int .u64 (l1 0), .int .u64 (l2 0), .int .u64 (l3 0), .bool false], .int .i64 51]) ∧ _
  rw [zero_pt]
  exact parse_len h33 h65 w
end Go.Proofs.YtleneapnjanbbaaDoor

namespace Go.Proofs.YtleneapnjanbbaaDoor
open Go.RowKit Go.Sort

theorem lift_oddO {x : Int} (hx : Num x) (h : liftOk x) (i : Bool) : oddC (liftY i x) = i := by
  have base := lift_vdC hx h false
  have b := (lift_backC base).2
  have t := odd_turnedC base
  have e1 : liftY true x = modN pN (0 - liftY false x) := by
    unfold liftY
    rw [if_pos h, if_pos h]
    rfl
  have o : oddC (liftY false x) = false := by
    cases k : oddC (liftY false x) with
    | false => rfl
    | true =>
      rw [k, e1] at b
      rw [b, k] at t
      exact absurd t (by decide)
  cases i with
  | false => exact o
  | true => rw [e1, t, o]; rfl
theorem put_backO {A : List Int} (hA : Byts A) (hl : A.length = 32) : putL (sufN A 32) = A := by
  refine List.ext_getElem? (fun i => ?_)
  by_cases h : i < 32
  · have e := suf_digit hA 32 (31 - i) (by omega) (by omega)
    have e2 := putL_getD (sufN A 32) h
    rw [e, hl, show 32 - 1 - (31 - i) = i by omega] at e2
    have h1 : i < (putL (sufN A 32)).length := by rw [putL_len]; exact h
    have h2 : i < A.length := by omega
    rw [List.getD, List.getD, List.getElem?_eq_getElem h1, List.getElem?_eq_getElem h2] at e2
    rw [List.getElem?_eq_getElem h1, List.getElem?_eq_getElem h2]
    exact congrArg some e2
  · rw [List.getElem?_eq_none (by rw [putL_len]; omega), List.getElem?_eq_none (by omega)]
theorem bit_oddO (y : Int) : bitN y 0 = if oddC y then 1 else 0 := by
  have h : bitN y 0 = 0 ∨ bitN y 0 = 1 := by unfold bitN; omega
  unfold oddC
  rcases h with h | h <;> rw [h] <;> rfl
theorem consO {X : List Int} (h : 0 < X.length) : X = X.getD 0 0 :: X.drop 1 := by
  cases X with
  | nil => simp at h
  | cons a l => rfl
theorem lift_eO {r : Int} (h : liftE r = 0) : liftOk r ∧ liftX r = r := by
  by_cases k : liftOk r
  · exact ⟨k, by unfold liftX; rw [if_pos k]⟩
  · exfalso
    unfold liftE at h
    rw [if_neg k] at h
    exact absurd h (by decide)
/-- What is read as a point: what it is, and its bytes. -/
theorem pK_good {X : List Int} (hX : Byts X) (h : (pK X).2.2 = 0) : Vd (pK X).1 (pK X).2.1 false ∧ ((X.length = 33 ∧ cpL (pK X).1 (pK X).2.1 false = X) ∨ (X.length = 65 ∧ exL (pK X).1 (pK X).2.1 false = X)) := by
  have b1 := byts_takeZ (drop_bytsU hX 1) 32
  have b2 := byts_takeZ (drop_bytsU hX 33) 32
  by_cases hs : shP X
  · have hl := hs.1
    have k1 : ((X.drop 1).take 32).length = 32 := by rw [List.length_take, List.length_drop]; omega
    have hn := xy_num b1 k1
    by_cases k : xP X < pN
    · have e : pK X = (liftX (xP X), liftY (decide (X.getD 0 0 = 3)) (xP X), liftE (xP X)) := by unfold pK; rw [if_pos hs, if_pos k]
      rw [e] at h ⊢
      obtain ⟨ok, ex⟩ := lift_eO h
      have v : Vd (xP X) (liftY (decide (X.getD 0 0 = 3)) (xP X)) false := lift_vdC hn ok (decide (X.getD 0 0 = 3))
      have od := lift_oddO hn ok (decide (X.getD 0 0 = 3))
      simp only
      rw [ex]
      refine ⟨v, .inl ⟨hl, ?_⟩⟩
      have e0 : cpE (xP X) (liftY (decide (X.getD 0 0 = 3)) (xP X)) false = 0 := by unfold cpE; rw [if_pos v]; rfl
      have ec : cpL (xP X) (liftY (decide (X.getD 0 0 = 3)) (xP X)) false = (2 + bitN (liftY (decide (X.getD 0 0 = 3)) (xP X)) 0) :: putL (xP X) := by unfold cpL; rw [if_pos e0]
      have ep : putL (xP X) = X.drop 1 := by
        show putL (sufN ((X.drop 1).take 32) 32) = _
        rw [put_backO b1 k1, List.take_of_length_le (by rw [List.length_drop]; omega)]
      have eo : oddC (liftY (decide (X.getD 0 0 = 3)) (xP X)) = decide (X.getD 0 0 = 3) := od
      rw [ec, ep, bit_oddO, eo]
      rw [show (2 + if (decide (X.getD 0 0 = 3)) = true then (1 : Int) else 0) = X.getD 0 0 by
        rcases hs.2 with q | q <;> rw [q] <;> rfl]
      exact (consO (by omega)).symm
    · have e : pK X = (0, 0, 51) := by unfold pK; rw [if_pos hs, if_neg k]
      rw [e] at h; exact absurd h (by decide)
  · by_cases hg : lgP X
    · have hl := hg.1
      have k1 : ((X.drop 1).take 32).length = 32 := by rw [List.length_take, List.length_drop]; omega
      have k2 : ((X.drop 33).take 32).length = 32 := by rw [List.length_take, List.length_drop]; omega
      by_cases k : xP X < pN ∧ yP X < pN
      · by_cases v : Vd (xP X) (yP X) false
        · have e : pK X = (xP X, yP X, 0) := by unfold pK; rw [if_neg hs, if_pos hg, if_pos k, if_pos v]
          rw [e]
          refine ⟨v, .inr ⟨hl, ?_⟩⟩
          have e0 : cpE (xP X) (yP X) false = 0 := by unfold cpE; rw [if_pos v]; rfl
          have ec : exL (xP X) (yP X) false = (4 :: putL (xP X)) ++ putL (yP X) := by unfold exL; rw [if_pos e0]
          show exL (xP X) (yP X) false = X
          rw [ec]
          have e1 : putL (xP X) = (X.drop 1).take 32 := put_backO b1 k1
          have e2 : putL (yP X) = X.drop 33 := by
            show putL (sufN ((X.drop 33).take 32) 32) = _
            rw [put_backO b2 k2, List.take_of_length_le (by rw [List.length_drop]; omega)]
          rw [e1, e2]
          have e3 : X.drop 1 = (X.drop 1).take 32 ++ X.drop 33 := by
            have := (List.take_append_drop 32 (X.drop 1)).symm
            rw [List.drop_drop] at this
            exact this
          have e4 := consO (X := X) (by omega)
          rw [hg.2] at e4
          rw [List.cons_append, ← e3]
          exact e4.symm
        · have e : pK X = (0, 0, 50) := by unfold pK; rw [if_neg hs, if_pos hg, if_pos k, if_neg v]
          rw [e] at h; exact absurd h (by decide)
      · have e : pK X = (0, 0, 51) := by unfold pK; rw [if_neg hs, if_pos hg, if_neg k]
        rw [e] at h; exact absurd h (by decide)
    · have e : pK X = (0, 0, 51) := by unfold pK; rw [if_neg hs, if_neg hg]
      rw [e] at h; exact absurd h (by decide)
theorem pK_bad {X : List Int} (h : ¬ (pK X).2.2 = 0) : (pK X).1 = 0 ∧ (pK X).2.1 = 0 := by
  unfold pK at h ⊢
  split
  · rename_i hs
    rw [if_pos hs] at h
    split
    · rename_i k
      rw [if_pos k] at h
      have nk : ¬ liftOk (xP X) := fun ok => h (by show liftE (xP X) = 0; unfold liftE; rw [if_pos ok])
      exact ⟨by show liftX (xP X) = 0; unfold liftX; rw [if_neg nk], by show liftY _ (xP X) = 0; unfold liftY; rw [if_neg nk]⟩
    · exact ⟨rfl, rfl⟩
  · rename_i hs
    rw [if_neg hs] at h
    split
    · rename_i hg
      rw [if_pos hg] at h
      split
      · rename_i k
        rw [if_pos k] at h
        split
        · rename_i v
          rw [if_pos v] at h
          exact absurd rfl h
        · exact ⟨rfl, rfl⟩
      · exact ⟨rfl, rfl⟩
    · exact ⟨rfl, rfl⟩
end Go.Proofs.YtleneapnjanbbaaDoor

import Derived.Test.YtohdeeidhgkgiaaDoorCSumK
namespace Go.Proofs.YtohdeeidhgkgiaaDoor
open Go.RowKit Go.Sort

set_option maxRecDepth 100000 in
set_option maxHeartbeats 4000000 in
theorem cdouble_walk {x y a1 a2 a3 b1 b2 b3 x' y' : Int} {i j : Bool} (C0 : Hid (∀ w, Mds w → Calls Tryd.prog 5 #[.agg #[.int .u64 (l0 x), .int .u64 (l1 x), .int .u64 (l2 x), .int .u64 (l3 x), .int .u64 (l0 y), .int .u64 (l1 y), .int .u64 (l2 y), .int .u64 (l3 y), .bool i]] w fun e w' => e = .returned (.bool true) ∧ Below w.heap.size w w')) (C1 : Hid (∀ w, Calls Tryd.prog 25 #[.agg #[.int .u64 (l0 x), .int .u64 (l1 x), .int .u64 (l2 x), .int .u64 (l3 x), .int .u64 (l0 y), .int .u64 (l1 y), .int .u64 (l2 y), .int .u64 (l3 y), .bool i]] w fun e w' => e = .returned (.agg #[.int .u64 (l0 a1), .int .u64 (l1 a1), .int .u64 (l2 a1), .int .u64 (l3 a1), .int .u64 (l0 a2), .int .u64 (l1 a2), .int .u64 (l2 a2), .int .u64 (l3 a2), .int .u64 (l0 a3), .int .u64 (l1 a3), .int .u64 (l2 a3), .int .u64 (l3 a3)]) ∧ Below w.heap.size w w')) (C2 : Hid (∀ w, Mds w → Calls Tryd.prog 26 #[.agg #[.int .u64 (l0 a1), .int .u64 (l1 a1), .int .u64 (l2 a1), .int .u64 (l3 a1), .int .u64 (l0 a2), .int .u64 (l1 a2), .int .u64 (l2 a2), .int .u64 (l3 a2), .int .u64 (l0 a3), .int .u64 (l1 a3), .int .u64 (l2 a3), .int .u64 (l3 a3)]] w fun e w' => e = .returned (.agg #[.int .u64 (l0 b1), .int .u64 (l1 b1), .int .u64 (l2 b1), .int .u64 (l3 b1), .int .u64 (l0 b2), .int .u64 (l1 b2), .int .u64 (l2 b2), .int .u64 (l3 b2), .int .u64 (l0 b3), .int .u64 (l1 b3), .int .u64 (l2 b3), .int .u64 (l3 b3)]) ∧ Below w.heap.size w w')) (C3 : Hid (∀ w, Mds w → Calls Tryd.prog 27 #[.agg #[.int .u64 (l0 b1), .int .u64 (l1 b1), .int .u64 (l2 b1), .int .u64 (l3 b1), .int .u64 (l0 b2), .int .u64 (l1 b2), .int .u64 (l2 b2), .int .u64 (l3 b2), .int .u64 (l0 b3), .int .u64 (l1 b3), .int .u64 (l2 b3), .int .u64 (l3 b3)]] w fun e w' => e = .returned (.agg #[.int .u64 (l0 x'), .int .u64 (l1 x'), .int .u64 (l2 x'), .int .u64 (l3 x'), .int .u64 (l0 y'), .int .u64 (l1 y'), .int .u64 (l2 y'), .int .u64 (l3 y'), .bool j]) ∧ Below w.heap.size w w')) (w : World) (hm : Mds w) :
    Calls Tryd.prog 13 #[.agg #[.int .u64 (l0 x), .int .u64 (l1 x), .int .u64 (l2 x), .int .u64 (l3 x), .int .u64 (l0 y), .int .u64 (l1 y), .int .u64 (l2 y), .int .u64 (l3 y), .bool i]] w fun e w' => e = .returned (.tuple #[.agg #[.int .u64 (l0 x'), .int .u64 (l1 x'), .int .u64 (l2 x'), .int .u64 (l3 x'), .int .u64 (l0 y'), .int .u64 (l1 y'), .int .u64 (l2 y'), .int .u64 (l3 y'), .bool j], .int .i64 0]) ∧ Below w.heap.size w w' := by
  go_enter Tryd.func13, Tryd.ntmps13
  go_wp2_with fail
  refine calls_world (fun W => Below w.heap.size w W ∧ Mds W ∧ Pnt W w.heap.size x y i ∧ Bk9 W (w.heap.size + 1)) ⟨by repeat (first | with_reducible exact Below.refl _ _ | with_reducible refine Below.alloc ?_ (by first | omega | (simp; done) | (simp; omega)) _), (hm.alloc _).alloc _, (Pnt.new rfl).alloc _, Bk9.new (by simp)⟩ ?_
  rintro W ⟨B, hD, hP, hR⟩
  have o3 : w.heap.size ≤ w.heap.size + 1 := by omega
  generalize w.heap.size + 1 = br at *
  with_reducible refine (C0.out _ hD).mono ?_
  rintro e w1 ⟨rfl, hb⟩
  replace B := B.trans (hb.mono B.size)
  replace hD := hD.keep hb; replace hP := hP.keep hb; replace hR := hR.keep hb
  clear hb W
  have ghP := hP.cells
  go_wp2_with fail
  refine calls_world (fun W => Below w.heap.size w W ∧ Mds W ∧ Pnt W w.heap.size x y i ∧ Bk9 W br) ⟨B, hD, hP, hR⟩ ?_
  clear B hD hP hR ghP
  rintro W ⟨B, hD, hP, hR⟩
  with_reducible refine (C1.out _).mono ?_
  rintro e w2 ⟨rfl, hb⟩
  replace B := B.trans (hb.mono B.size)
  replace hD := hD.keep hb; replace hP := hP.keep hb; replace hR := hR.keep hb
  clear hb W
  go_wp2_with fail
  refine calls_world (fun W => Below w.heap.size w W ∧ Mds W ∧ Pnt W w.heap.size x y i ∧ Bk9 W br) ⟨B, hD, hP, hR⟩ ?_
  clear B hD hP hR 
  rintro W ⟨B, hD, hP, hR⟩
  with_reducible refine (C2.out _ hD).mono ?_
  rintro e w3 ⟨rfl, hb⟩
  replace B := B.trans (hb.mono B.size)
  replace hD := hD.keep hb; replace hP := hP.keep hb; replace hR := hR.keep hb
  clear hb W
  go_wp2_with fail
  refine calls_world (fun W => Below w.heap.size w W ∧ Mds W ∧ Pnt W w.heap.size x y i ∧ Bk9 W br) ⟨B, hD, hP, hR⟩ ?_
  clear B hD hP hR 
  rintro W ⟨B, hD, hP, hR⟩
  with_reducible refine (C3.out _ hD).mono ?_
  rintro e w9 ⟨rfl, hb⟩
  replace B := B.trans (hb.mono B.size)
  replace hD := hD.keep hb; replace hP := hP.keep hb; replace hR := hR.keep hb
  clear hb W hD hP
  have gR := hR.cells; have fR := hR.free
  go_wp2
  simp [bodyPost, results, Tryd.results13, go_sem, gR]
  repeat (first | with_reducible exact B | with_reducible refine Below.setCell ?_ o3 _)

theorem con_yes {x y : Int} {i : Bool} (h : Vd x y i) : Hid (∀ w, Mds w → Calls Tryd.prog 5 #[.agg #[.int .u64 (l0 x), .int .u64 (l1 x), .int .u64 (l2 x), .int .u64 (l3 x), .int .u64 (l0 y), .int .u64 (l1 y), .int .u64 (l2 y), .int .u64 (l3 y), .bool i]] w fun e w' => e = .returned (.bool true) ∧ Below w.heap.size w w') := fun w hm => by
  have := con_any (i := i) h.low.1.num h.low.2.num w hm
  rw [decide_eq_true h] at this; exact this
theorem cdouble_any {x y x' y' : Int} {i j : Bool} (hp : Vd x y i) (hj : Vd x' y' j) (ej : ptOf x' y' j = (ptOf x y i).add (ptOf x y i)) (w : World) (hm : Mds w) :
    Calls Tryd.prog 13 #[.agg #[.int .u64 (l0 x), .int .u64 (l1 x), .int .u64 (l2 x), .int .u64 (l3 x), .int .u64 (l0 y), .int .u64 (l1 y), .int .u64 (l2 y), .int .u64 (l3 y), .bool i]] w fun e w' => e = .returned (.tuple #[.agg #[.int .u64 (l0 x'), .int .u64 (l1 x'), .int .u64 (l2 x'), .int .u64 (l3 x'), .int .u64 (l0 y'), .int .u64 (l1 y'), .int .u64 (l2 y'), .int .u64 (l3 y'), .bool j], .int .i64 0]) ∧ Below w.heap.size w w' := by
  obtain ⟨a1, a2, a3, k1, k2, k3, ew, CW⟩ := cwiden_J hp
  obtain ⟨b1, b2, b3, m1, m2, m3, eb, CD⟩ := cdbl_J k1 k2 k3
  obtain ⟨px, py, pi, u1, u2, u3, u4, CP⟩ := cpoint_J m1 m2 m3
  have on1 : EC.On (J3 a1 a2 a3).pt := by rw [ew]; exact hp.on
  have e2 : ptOf px py pi = (ptOf x y i).add (ptOf x y i) := by rw [u4, eb, EC.jd_pt on1, ew]
  have hvd : Vd px py pi := by
    cases pi with
    | true => exact u3 rfl
    | false => exact ⟨u1, u2, by rw [e2]; exact EC.Pt.on hp.on hp.on⟩
  obtain ⟨rfl, rfl, rfl⟩ := hvd.inj hj (by rw [e2, ej])
  exact cdouble_walk (con_yes hp) CW CD CP w hm

set_option maxRecDepth 100000 in
set_option maxHeartbeats 4000000 in
theorem cneg_walk {x y s : Int} {i : Bool} (C0 : Hid (∀ w, Mds w → Calls Tryd.prog 5 #[.agg #[.int .u64 (l0 x), .int .u64 (l1 x), .int .u64 (l2 x), .int .u64 (l3 x), .int .u64 (l0 y), .int .u64 (l1 y), .int .u64 (l2 y), .int .u64 (l3 y), .bool i]] w fun e w' => e = .returned (.bool true) ∧ Below w.heap.size w w')) (C1 : Hid (∀ w, Mds w → Calls Tryd.prog 24 #[.agg #[.int .u64 (l0 y), .int .u64 (l1 y), .int .u64 (l2 y), .int .u64 (l3 y)]] w fun e w' => e = .returned (.agg #[.int .u64 (l0 s), .int .u64 (l1 s), .int .u64 (l2 s), .int .u64 (l3 s)]) ∧ Below w.heap.size w w')) (w : World) (hm : Mds w) :
    Calls Tryd.prog 11 #[.agg #[.int .u64 (l0 x), .int .u64 (l1 x), .int .u64 (l2 x), .int .u64 (l3 x), .int .u64 (l0 y), .int .u64 (l1 y), .int .u64 (l2 y), .int .u64 (l3 y), .bool i]] w fun e w' => e = .returned (.tuple #[.agg #[.int .u64 (l0 x), .int .u64 (l1 x), .int .u64 (l2 x), .int .u64 (l3 x), .int .u64 (l0 s), .int .u64 (l1 s), .int .u64 (l2 s), .int .u64 (l3 s), .bool i], .int .i64 0]) ∧ Below w.heap.size w w' := by
  go_enter Tryd.func11, Tryd.ntmps11
  go_wp2_with fail
  refine calls_world (fun W => Below w.heap.size w W ∧ Mds W ∧ Pnt W w.heap.size x y i ∧ Loose W w.heap.size 9 ∧ Bk9 W (w.heap.size + 1)) ⟨by repeat (first | with_reducible exact Below.refl _ _ | with_reducible refine Below.alloc ?_ (by first | omega | (simp; done) | (simp; omega)) _), (hm.alloc _).alloc _, (Pnt.new rfl).alloc _, (Loose.new _ _ _ _).alloc (by simp) _, Bk9.new (by simp)⟩ ?_
  rintro W ⟨B, hD, hP, hL, hR⟩
  have o3 : w.heap.size ≤ w.heap.size + 1 := by omega
  have o4 : w.heap.size ≤ w.heap.size := Nat.le_refl _
  have n1 : w.heap.size + 1 ≠ w.heap.size := by omega
  have n2 := n1.symm
  generalize w.heap.size + 1 = br at *
  with_reducible refine (C0.out _ hD).mono ?_
  rintro e w1 ⟨rfl, hb⟩
  replace B := B.trans (hb.mono B.size)
  replace hL := hL.keep hb hP.lt
  replace hD := hD.keep hb; replace hR := hR.keep hb; replace hP := hP.keep hb
  clear hb W
  have gP := hP.cells
  go_wp2_with fail
  refine calls_world (fun W => Below w.heap.size w W ∧ Mds W ∧ Pnt W w.heap.size x y i ∧ Loose W w.heap.size 9 ∧ Bk9 W br) ⟨B, hD, hP, hL, hR⟩ ?_
  clear B hD hP hL hR gP
  rintro W ⟨B, hD, hP, hL, hR⟩
  with_reducible refine (C1.out _ hD).mono ?_
  rintro e w2 ⟨rfl, hb⟩
  replace B := B.trans (hb.mono B.size)
  replace hL := hL.keep hb hP.lt
  replace hR := hR.keep hb; replace hP := hP.keep hb
  clear hb hD W
  have gP := hP.cells
  have q4 := hL 4 (by decide); have q5 := hL 5 (by decide); have q6 := hL 6 (by decide); have q7 := hL 7 (by decide)
  have gR := hR.cells; have fR := hR.free
  go_wp2
  simp [bodyPost, results, Tryd.results11, go_sem, *]
  repeat (first | with_reducible exact B | with_reducible refine Below.setCell ?_ o3 _ | with_reducible refine Below.setCell ?_ o4 _)
theorem cneg_any {x y : Int} {i : Bool} (hp : Vd x y i) : Vd x (modN pN (0 - y)) i ∧ ptOf x (modN pN (0 - y)) i = (ptOf x y i).neg ∧
    ∀ w, Mds w → Calls Tryd.prog 11 #[.agg #[.int .u64 (l0 x), .int .u64 (l1 x), .int .u64 (l2 x), .int .u64 (l3 x), .int .u64 (l0 y), .int .u64 (l1 y), .int .u64 (l2 y), .int .u64 (l3 y), .bool i]] w fun e w' => e = .returned (.tuple #[.agg #[.int .u64 (l0 x), .int .u64 (l1 x), .int .u64 (l2 x), .int .u64 (l3 x), .int .u64 (l0 (modN pN (0 - y))), .int .u64 (l1 (modN pN (0 - y))), .int .u64 (l2 (modN pN (0 - y))), .int .u64 (l3 (modN pN (0 - y))), .bool i], .int .i64 0]) ∧ Below w.heap.size w w' := by
  have e : ptOf x (modN pN (0 - y)) i = (ptOf x y i).neg := by
    cases i with
    | true => rfl
    | false =>
      show EC.Pt.a _ (EC.fp (modN pN (0 - y))) = EC.Pt.a _ (-EC.fp y)
      rw [EC.fp_mod, EC.fp_sub, EC.fp_zero]
      congr 1
  refine ⟨?_, e, fun w hm => cneg_walk (con_yes hp) (fun w hm => copposite_any hp.low.2.num w hm) w hm⟩
  cases i with
  | true => obtain ⟨rfl, rfl⟩ := hp; exact ⟨rfl, by decide⟩
  | false => exact ⟨hp.1, EC.low_mod _, by rw [e]; exact EC.on_neg hp.on⟩

def gX : Int := 55066263022277343669578718895168534326250603453777594175500187360389116729240
def gY : Int := 32670510020758816978083085130507043184471273380659243275938904335757337482424
/-- Where the table holds the base point. -/
def Gat (W : World) : Prop := W.cell? ⟨0, 9, none⟩ = some (.int .u64 6481385041966929816) ∧ W.cell? ⟨0, 10, none⟩ = some (.int .u64 188021827762530521) ∧ W.cell? ⟨0, 11, none⟩ = some (.int .u64 6170039885052185351) ∧ W.cell? ⟨0, 12, none⟩ = some (.int .u64 8772561819708210092) ∧ W.cell? ⟨0, 13, none⟩ = some (.int .u64 11261198710074299576) ∧ W.cell? ⟨0, 14, none⟩ = some (.int .u64 18237243440184513561) ∧ W.cell? ⟨0, 15, none⟩ = some (.int .u64 6747795201694173352) ∧ W.cell? ⟨0, 16, none⟩ = some (.int .u64 5204712524664259685) ∧ W.cell? ⟨0, 17, none⟩ = some (.bool false)
theorem Gat.keep {W w1 : World} (h : Gat W) (hb : Below W.heap.size W w1) : Gat w1 := by
  obtain ⟨a0, a1, a2, a3, a4, a5, a6, a7, a8⟩ := h
  exact ⟨cell_keep hb a0, cell_keep hb a1, cell_keep hb a2, cell_keep hb a3, cell_keep hb a4, cell_keep hb a5, cell_keep hb a6, cell_keep hb a7, cell_keep hb a8⟩
theorem Gat.alloc {W : World} (h : Gat W) (ob : Obj) : Gat (W.alloc ob) := h.keep ((Below.refl _ _).alloc (Nat.le_refl _) ob)
theorem g_limbs : l0 gX = 6481385041966929816 ∧ l1 gX = 188021827762530521 ∧ l2 gX = 6170039885052185351 ∧ l3 gX = 8772561819708210092 ∧ l0 gY = 11261198710074299576 ∧ l1 gY = 18237243440184513561 ∧ l2 gY = 6747795201694173352 ∧ l3 gY = 5204712524664259685 := by decide
theorem g_valid : Vd gX gY false := ⟨⟨by decide, by decide⟩, ⟨by decide, by decide⟩, by show EC.fp gY * EC.fp gY = EC.fp gX * EC.fp gX * EC.fp gX + 7; decide +kernel⟩
set_option maxHeartbeats 4000000 in
theorem cg_any (w : World) (hg : Gat w) :
    Calls Tryd.prog 12 #[] w fun e w' => e = .returned (.agg #[.int .u64 (l0 gX), .int .u64 (l1 gX), .int .u64 (l2 gX), .int .u64 (l3 gX), .int .u64 (l0 gY), .int .u64 (l1 gY), .int .u64 (l2 gY), .int .u64 (l3 gY), .bool false]) ∧ Below w.heap.size w w' := by
  obtain ⟨r0, r1, r2, r3, r4, r5, r6, r7⟩ := g_limbs
  rw [r0, r1, r2, r3, r4, r5, r6, r7]
  clear r0 r1 r2 r3 r4 r5 r6 r7
  have hg' := hg.alloc
  have lt : 0 < w.heap.size := World.block_lt_of_cell? w ⟨0, 9, none⟩ hg.1
  obtain ⟨a0, a1, a2, a3, a4, a5, a6, a7, a8⟩ := hg
  go_enter Tryd.func12, Tryd.ntmps12
  go_wp2
  simp [bodyPost, results, Tryd.results12, go_sem]
  repeat (first | with_reducible refine Below.setCell ?_ (by omega) _ | (first | with_reducible exact Below.refl _ _ | with_reducible refine Below.alloc ?_ (by first | omega | (simp; done) | (simp; omega)) _))
end Go.Proofs.YtohdeeidhgkgiaaDoor

namespace Go.Proofs.YtohdeeidhgkgiaaDoor
open Go.RowKit Go.Sort
theorem eq_pt_self {x y : Int} {i : Bool} (h : Vd x y i) : ∀ w, (Op.equalIn 10000 26 (.agg #[.int .u64 (l0 x), .int .u64 (l1 x), .int .u64 (l2 x), .int .u64 (l3 x), .int .u64 (l0 y), .int .u64 (l1 y), .int .u64 (l2 y), .int .u64 (l3 y), .bool i]) (.agg #[.int .u64 (l0 x), .int .u64 (l1 x), .int .u64 (l2 x), .int .u64 (l3 x), .int .u64 (l0 y), .int .u64 (l1 y), .int .u64 (l2 y), .int .u64 (l3 y), .bool i])).run Tryd.prog w = .ok true w := fun w => by
  have := eq_pt_any (i := i) (j := i) h.low.1.num h.low.2.num h.low.1.num h.low.2.num w
  simpa using this
theorem con_no {x y : Int} {i : Bool} (hx : Num x) (hy : Num y) (h : ¬ Vd x y i) : Hid (∀ w, Mds w → Calls Tryd.prog 5 #[.agg #[.int .u64 (l0 x), .int .u64 (l1 x), .int .u64 (l2 x), .int .u64 (l3 x), .int .u64 (l0 y), .int .u64 (l1 y), .int .u64 (l2 y), .int .u64 (l3 y), .bool i]] w fun e w' => e = .returned (.bool false) ∧ Below w.heap.size w w') := fun w hm => by
  have := con_any (i := i) hx hy w hm
  rw [decide_eq_false h] at this; exact this
end Go.Proofs.YtohdeeidhgkgiaaDoor

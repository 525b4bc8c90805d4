import Derived.Test.YtjppjieidjodfabDoorCSumK
import Derived.Test.YtjppjieidjodfabDoorQAlloc
namespace Go.Proofs.YtjppjieidjodfabDoor
open Go.RowKit Go.Sort

theorem pts2 {W : World} {b : Nat} {x y x2 y2 : Int} {i i2 : Bool} (h : Cl W b [.int .u64 (l0 x), .int .u64 (l1 x), .int .u64 (l2 x), .int .u64 (l3 x), .int .u64 (l0 y), .int .u64 (l1 y), .int .u64 (l2 y), .int .u64 (l3 y), .bool i, .int .u64 (l0 x2), .int .u64 (l1 x2), .int .u64 (l2 x2), .int .u64 (l3 x2), .int .u64 (l0 y2), .int .u64 (l1 y2), .int .u64 (l2 y2), .int .u64 (l3 y2), .bool i2]) : Pts W b 0 [⟨x, y, i⟩, ⟨x2, y2, i2⟩] := by
  intro k hk
  have hc : k = 0 ∨ k = 1 := by simp at hk; omega
  rcases hc with rfl | rfl
  · exact ⟨h 0 (by simp), h 1 (by simp), h 2 (by simp), h 3 (by simp), h 4 (by simp), h 5 (by simp), h 6 (by simp), h 7 (by simp), h 8 (by simp)⟩
  · exact ⟨h 9 (by simp), h 10 (by simp), h 11 (by simp), h 12 (by simp), h 13 (by simp), h 14 (by simp), h 15 (by simp), h 16 (by simp), h 17 (by simp)⟩

set_option maxRecDepth 100000 in
set_option maxHeartbeats 4000000 in
theorem cadd2_any {x y x2 y2 x' y' : Int} {i i2 j : Bool} (hp : Vd x y i) (hq : Vd x2 y2 i2) (hj : Vd x' y' j) (ej : ptOf x' y' j = (ptOf x y i).add (ptOf x2 y2 i2)) (w : World) (hm : Mds w) :
    Calls Tryd.prog 19 #[.agg #[.int .u64 (l0 x), .int .u64 (l1 x), .int .u64 (l2 x), .int .u64 (l3 x), .int .u64 (l0 y), .int .u64 (l1 y), .int .u64 (l2 y), .int .u64 (l3 y), .bool i], .agg #[.int .u64 (l0 x2), .int .u64 (l1 x2), .int .u64 (l2 x2), .int .u64 (l3 x2), .int .u64 (l0 y2), .int .u64 (l1 y2), .int .u64 (l2 y2), .int .u64 (l3 y2), .bool i2]] w fun e w' => e = .returned (.tuple #[.agg #[.int .u64 (l0 x'), .int .u64 (l1 x'), .int .u64 (l2 x'), .int .u64 (l3 x'), .int .u64 (l0 y'), .int .u64 (l1 y'), .int .u64 (l2 y'), .int .u64 (l3 y'), .bool j], .int .i64 0]) ∧ Below w.heap.size w w' := by
  have C : Hid (∀ w b, Mds w → Pts w b 0 [⟨x, y, i⟩, ⟨x2, y2, i2⟩] → b < w.heap.size → Calls Tryd.prog 12 #[.slice (some ⟨b, 0, none⟩) 2 2] w fun e w' => e = .returned (.tuple #[.agg #[.int .u64 (l0 x'), .int .u64 (l1 x'), .int .u64 (l2 x'), .int .u64 (l3 x'), .int .u64 (l0 y'), .int .u64 (l1 y'), .int .u64 (l2 y'), .int .u64 (l3 y'), .bool j], .int .i64 0]) ∧ Below w.heap.size w w') := fun w b hm hI hb =>
    csum_any (L := [⟨x, y, i⟩, ⟨x2, y2, i2⟩]) (by simp) (fun k hk => by
      have hc : k = 0 ∨ k = 1 := by simp at hk; omega
      rcases hc with rfl | rfl
      · exact hp
      · exact hq) hj (by rw [ej]; rfl) (.inr rfl) w hm hI hb
  clear hp hq hj ej
  go_enter Tryd.func19, Tryd.ntmps19
  go_wp2_with fail
  refine calls_world (fun W => Below w.heap.size w W ∧ Mds W ∧ Bk9 W (w.heap.size + 1 + 1) ∧ Pts W (w.heap.size + 1 + 1 + 1) 0 [⟨x, y, i⟩, ⟨x2, y2, i2⟩]) ⟨by repeat (first | with_reducible exact Below.refl _ _ | with_reducible refine Below.alloc ?_ (by first | omega | (simp; done) | (simp; omega)) _), (((hm.alloc _).alloc _).alloc _).alloc _, (Bk9.new (by simp)).alloc _, pts2 (Cl.new _ (by simp) rfl)⟩ ?_
  rintro W ⟨B, hD, hR, hI⟩
  have o3 : w.heap.size ≤ w.heap.size + 1 + 1 := by omega
  have lb : w.heap.size + 1 + 1 + 1 < W.heap.size := World.block_lt_of_cell? W ⟨w.heap.size + 1 + 1 + 1, 0 + 0 * 9, none⟩ (hI 0 (by simp)).1
  generalize w.heap.size + 1 + 1 + 1 = bl at *
  generalize w.heap.size + 1 + 1 = br at *
  with_reducible refine (C.out _ _ hD hI lb).mono ?_
  rintro e w1 ⟨rfl, hb⟩
  replace B := B.trans (hb.mono B.size)
  replace hR := hR.keep hb
  clear hb hD hI lb W
  have gR := hR.cells; have fR := hR.free
  go_wp2
  simp [bodyPost, results, Tryd.results19, go_sem, gR]
  repeat (first | with_reducible exact B | with_reducible refine Below.setCell ?_ o3 _)

set_option maxRecDepth 100000 in
set_option maxHeartbeats 4000000 in
theorem cdouble_walk {x y a1 a2 a3 b1 b2 b3 x' y' : Int} {i j : Bool} (C0 : Hid (∀ w, Mds w → Calls Tryd.prog 25 #[.agg #[.int .u64 (l0 x), .int .u64 (l1 x), .int .u64 (l2 x), .int .u64 (l3 x), .int .u64 (l0 y), .int .u64 (l1 y), .int .u64 (l2 y), .int .u64 (l3 y), .bool i]] w fun e w' => e = .returned (.bool true) ∧ Below w.heap.size w w')) (C1 : Hid (∀ w, Calls Tryd.prog 44 #[.agg #[.int .u64 (l0 x), .int .u64 (l1 x), .int .u64 (l2 x), .int .u64 (l3 x), .int .u64 (l0 y), .int .u64 (l1 y), .int .u64 (l2 y), .int .u64 (l3 y), .bool i]] w fun e w' => e = .returned (.agg #[.int .u64 (l0 a1), .int .u64 (l1 a1), .int .u64 (l2 a1), .int .u64 (l3 a1), .int .u64 (l0 a2), .int .u64 (l1 a2), .int .u64 (l2 a2), .int .u64 (l3 a2), .int .u64 (l0 a3), .int .u64 (l1 a3), .int .u64 (l2 a3), .int .u64 (l3 a3)]) ∧ Below w.heap.size w w')) (C2 : Hid (∀ w, Mds w → Calls Tryd.prog 51 #[.agg #[.int .u64 (l0 a1), .int .u64 (l1 a1), .int .u64 (l2 a1), .int .u64 (l3 a1), .int .u64 (l0 a2), .int .u64 (l1 a2), .int .u64 (l2 a2), .int .u64 (l3 a2), .int .u64 (l0 a3), .int .u64 (l1 a3), .int .u64 (l2 a3), .int .u64 (l3 a3)]] w fun e w' => e = .returned (.agg #[.int .u64 (l0 b1), .int .u64 (l1 b1), .int .u64 (l2 b1), .int .u64 (l3 b1), .int .u64 (l0 b2), .int .u64 (l1 b2), .int .u64 (l2 b2), .int .u64 (l3 b2), .int .u64 (l0 b3), .int .u64 (l1 b3), .int .u64 (l2 b3), .int .u64 (l3 b3)]) ∧ Below w.heap.size w w')) (C3 : Hid (∀ w, Mds w → Calls Tryd.prog 45 #[.agg #[.int .u64 (l0 b1), .int .u64 (l1 b1), .int .u64 (l2 b1), .int .u64 (l3 b1), .int .u64 (l0 b2), .int .u64 (l1 b2), .int .u64 (l2 b2), .int .u64 (l3 b2), .int .u64 (l0 b3), .int .u64 (l1 b3), .int .u64 (l2 b3), .int .u64 (l3 b3)]] w fun e w' => e = .returned (.agg #[.int .u64 (l0 x'), .int .u64 (l1 x'), .int .u64 (l2 x'), .int .u64 (l3 x'), .int .u64 (l0 y'), .int .u64 (l1 y'), .int .u64 (l2 y'), .int .u64 (l3 y'), .bool j]) ∧ Below w.heap.size w w')) (w : World) (hm : Mds w) :
    Calls Tryd.prog 21 #[.agg #[.int .u64 (l0 x), .int .u64 (l1 x), .int .u64 (l2 x), .int .u64 (l3 x), .int .u64 (l0 y), .int .u64 (l1 y), .int .u64 (l2 y), .int .u64 (l3 y), .bool i]] w fun e w' => e = .returned (.tuple #[.agg #[.int .u64 (l0 x'), .int .u64 (l1 x'), .int .u64 (l2 x'), .int .u64 (l3 x'), .int .u64 (l0 y'), .int .u64 (l1 y'), .int .u64 (l2 y'), .int .u64 (l3 y'), .bool j], .int .i64 0]) ∧ Below w.heap.size w w' := by
  go_enter Tryd.func21, Tryd.ntmps21
  go_wp2_with fail
  refine calls_world (fun W => Below w.heap.size w W ∧ Mds W ∧ Pnt W w.heap.size x y i ∧ Bk9 W (w.heap.size + 1)) ⟨by repeat (first | with_reducible exact Below.refl _ _ | with_reducible refine Below.alloc ?_ (by first | omega | (simp; done) | (simp; omega)) _), (hm.alloc _).alloc _, (Pnt.new rfl).alloc _, Bk9.new (by simp)⟩ ?_
  rintro W ⟨B, hD, hP, hR⟩
  have o3 : w.heap.size ≤ w.heap.size + 1 := by omega
  generalize w.heap.size + 1 = br at *
  with_reducible refine (C0.out _ hD).mono ?_
  rintro e w1 ⟨rfl, hb⟩
  replace B := B.trans (hb.mono B.size)
  replace hD := hD.keep hb; replace hP := hP.keep hb; replace hR := hR.keep hb
  clear hb W
  have ghP := hP.cells
  go_wp2_with fail
  refine calls_world (fun W => Below w.heap.size w W ∧ Mds W ∧ Pnt W w.heap.size x y i ∧ Bk9 W br) ⟨B, hD, hP, hR⟩ ?_
  clear B hD hP hR ghP
  rintro W ⟨B, hD, hP, hR⟩
  with_reducible refine (C1.out _).mono ?_
  rintro e w2 ⟨rfl, hb⟩
  replace B := B.trans (hb.mono B.size)
  replace hD := hD.keep hb; replace hP := hP.keep hb; replace hR := hR.keep hb
  clear hb W
  go_wp2_with fail
  refine calls_world (fun W => Below w.heap.size w W ∧ Mds W ∧ Pnt W w.heap.size x y i ∧ Bk9 W br) ⟨B, hD, hP, hR⟩ ?_
  clear B hD hP hR 
  rintro W ⟨B, hD, hP, hR⟩
  with_reducible refine (C2.out _ hD).mono ?_
  rintro e w3 ⟨rfl, hb⟩
  replace B := B.trans (hb.mono B.size)
  replace hD := hD.keep hb; replace hP := hP.keep hb; replace hR := hR.keep hb
  clear hb W
  go_wp2_with fail
  refine calls_world (fun W => Below w.heap.size w W ∧ Mds W ∧ Pnt W w.heap.size x y i ∧ Bk9 W br) ⟨B, hD, hP, hR⟩ ?_
  clear B hD hP hR 
  rintro W ⟨B, hD, hP, hR⟩
  with_reducible refine (C3.out _ hD).mono ?_
  rintro e w9 ⟨rfl, hb⟩
  replace B := B.trans (hb.mono B.size)
  replace hD := hD.keep hb; replace hP := hP.keep hb; replace hR := hR.keep hb
  clear hb W hD hP
  have gR := hR.cells; have fR := hR.free
  go_wp2
  simp [bodyPost, results, Tryd.results21, go_sem, gR]
  repeat (first | with_reducible exact B | with_reducible refine Below.setCell ?_ o3 _)

theorem con_yes {x y : Int} {i : Bool} (h : Vd x y i) : Hid (∀ w, Mds w → Calls Tryd.prog 25 #[.agg #[.int .u64 (l0 x), .int .u64 (l1 x), .int .u64 (l2 x), .int .u64 (l3 x), .int .u64 (l0 y), .int .u64 (l1 y), .int .u64 (l2 y), .int .u64 (l3 y), .bool i]] w fun e w' => e = .returned (.bool true) ∧ Below w.heap.size w w') := fun w hm => by
  have := con_any (i := i) h.low.1.num h.low.2.num w hm
  rw [decide_eq_true h] at this; exact this
theorem cdouble_any {x y x' y' : Int} {i j : Bool} (hp : Vd x y i) (hj : Vd x' y' j) (ej : ptOf x' y' j = (ptOf x y i).add (ptOf x y i)) (w : World) (hm : Mds w) :
    Calls Tryd.prog 21 #[.agg #[.int .u64 (l0 x), .int .u64 (l1 x), .int .u64 (l2 x), .int .u64 (l3 x), .int .u64 (l0 y), .int .u64 (l1 y), .int .u64 (l2 y), .int .u64 (l3 y), .bool i]] w fun e w' => e = .returned (.tuple #[.agg #[.int .u64 (l0 x'), .int .u64 (l1 x'), .int .u64 (l2 x'), .int .u64 (l3 x'), .int .u64 (l0 y'), .int .u64 (l1 y'), .int .u64 (l2 y'), .int .u64 (l3 y'), .bool j], .int .i64 0]) ∧ Below w.heap.size w w' := by
  obtain ⟨a1, a2, a3, k1, k2, k3, ew, CW⟩ := cwiden_J hp
  obtain ⟨b1, b2, b3, m1, m2, m3, eb, CD⟩ := cdbl_J k1 k2 k3
  obtain ⟨px, py, pi, u1, u2, u3, u4, CP⟩ := cpoint_J m1 m2 m3
  have on1 : EC.On (J3 a1 a2 a3).pt := by rw [ew]; exact hp.on
  have e2 : ptOf px py pi = (ptOf x y i).add (ptOf x y i) := by rw [u4, eb, EC.jd_pt on1, ew]
  have hvd : Vd px py pi := by
    cases pi with
    | true => exact u3 rfl
    | false => exact ⟨u1, u2, by rw [e2]; exact EC.Pt.on hp.on hp.on⟩
  obtain ⟨rfl, rfl, rfl⟩ := hvd.inj hj (by rw [e2, ej])
  exact cdouble_walk (con_yes hp) CW CD CP w hm

set_option maxRecDepth 100000 in
set_option maxHeartbeats 4000000 in
theorem cneg_walk {x y s : Int} {i : Bool} (C0 : Hid (∀ w, Mds w → Calls Tryd.prog 25 #[.agg #[.int .u64 (l0 x), .int .u64 (l1 x), .int .u64 (l2 x), .int .u64 (l3 x), .int .u64 (l0 y), .int .u64 (l1 y), .int .u64 (l2 y), .int .u64 (l3 y), .bool i]] w fun e w' => e = .returned (.bool true) ∧ Below w.heap.size w w')) (C1 : Hid (∀ w, Mds w → Calls Tryd.prog 38 #[.agg #[.int .u64 (l0 y), .int .u64 (l1 y), .int .u64 (l2 y), .int .u64 (l3 y)]] w fun e w' => e = .returned (.agg #[.int .u64 (l0 s), .int .u64 (l1 s), .int .u64 (l2 s), .int .u64 (l3 s)]) ∧ Below w.heap.size w w')) (w : World) (hm : Mds w) :
    Calls Tryd.prog 23 #[.agg #[.int .u64 (l0 x), .int .u64 (l1 x), .int .u64 (l2 x), .int .u64 (l3 x), .int .u64 (l0 y), .int .u64 (l1 y), .int .u64 (l2 y), .int .u64 (l3 y), .bool i]] w fun e w' => e = .returned (.tuple #[.agg #[.int .u64 (l0 x), .int .u64 (l1 x), .int .u64 (l2 x), .int .u64 (l3 x), .int .u64 (l0 s), .int .u64 (l1 s), .int .u64 (l2 s), .int .u64 (l3 s), .bool i], .int .i64 0]) ∧ Below w.heap.size w w' := by
  go_enter Tryd.func23, Tryd.ntmps23
  go_wp2_with fail
  refine calls_world (fun W => Below w.heap.size w W ∧ Mds W ∧ Pnt W w.heap.size x y i ∧ Loose W w.heap.size 9 ∧ Bk9 W (w.heap.size + 1)) ⟨by repeat (first | with_reducible exact Below.refl _ _ | with_reducible refine Below.alloc ?_ (by first | omega | (simp; done) | (simp; omega)) _), (hm.alloc _).alloc _, (Pnt.new rfl).alloc _, (Loose.new _ _ _ _).alloc (by simp) _, Bk9.new (by simp)⟩ ?_
  rintro W ⟨B, hD, hP, hL, hR⟩
  have o3 : w.heap.size ≤ w.heap.size + 1 := by omega
  have o4 : w.heap.size ≤ w.heap.size := Nat.le_refl _
  have n1 : w.heap.size + 1 ≠ w.heap.size := by omega
  have n2 := n1.symm
  generalize w.heap.size + 1 = br at *
  with_reducible refine (C0.out _ hD).mono ?_
  rintro e w1 ⟨rfl, hb⟩
  replace B := B.trans (hb.mono B.size)
  replace hL := hL.keep hb hP.lt
  replace hD := hD.keep hb; replace hR := hR.keep hb; replace hP := hP.keep hb
  clear hb W
  have gP := hP.cells
  go_wp2_with fail
  refine calls_world (fun W => Below w.heap.size w W ∧ Mds W ∧ Pnt W w.heap.size x y i ∧ Loose W w.heap.size 9 ∧ Bk9 W br) ⟨B, hD, hP, hL, hR⟩ ?_
  clear B hD hP hL hR gP
  rintro W ⟨B, hD, hP, hL, hR⟩
  with_reducible refine (C1.out _ hD).mono ?_
  rintro e w2 ⟨rfl, hb⟩
  replace B := B.trans (hb.mono B.size)
  replace hL := hL.keep hb hP.lt
  replace hR := hR.keep hb; replace hP := hP.keep hb
  clear hb hD W
  have gP := hP.cells
  have q4 := hL 4 (by decide); have q5 := hL 5 (by decide); have q6 := hL 6 (by decide); have q7 := hL 7 (by decide)
  have gR := hR.cells; have fR := hR.free
  go_wp2
  simp [bodyPost, results, Tryd.results23, go_sem, *]
  repeat (first | with_reducible exact B | with_reducible refine Below.setCell ?_ o3 _ | with_reducible refine Below.setCell ?_ o4 _)
theorem cneg_any {x y : Int} {i : Bool} (hp : Vd x y i) : Vd x (modN pN (0 - y)) i ∧ ptOf x (modN pN (0 - y)) i = (ptOf x y i).neg ∧
    ∀ w, Mds w → Calls Tryd.prog 23 #[.agg #[.int .u64 (l0 x), .int .u64 (l1 x), .int .u64 (l2 x), .int .u64 (l3 x), .int .u64 (l0 y), .int .u64 (l1 y), .int .u64 (l2 y), .int .u64 (l3 y), .bool i]] w fun e w' => e = .returned (.tuple #[.agg #[.int .u64 (l0 x), .int .u64 (l1 x), .int .u64 (l2 x), .int .u64 (l3 x), .int .u64 (l0 (modN pN (0 - y))), .int .u64 (l1 (modN pN (0 - y))), .int .u64 (l2 (modN pN (0 - y))), .int .u64 (l3 (modN pN (0 - y))), .bool i], .int .i64 0]) ∧ Below w.heap.size w w' := by
  have e : ptOf x (modN pN (0 - y)) i = (ptOf x y i).neg := by
    cases i with
    | true => rfl
    | false =>
      show EC.Pt.a _ (EC.fp (modN pN (0 - y))) = EC.Pt.a _ (-EC.fp y)
      rw [EC.fp_mod, EC.fp_sub, EC.fp_zero]
      congr 1
  refine ⟨?_, e, fun w hm => cneg_walk (con_yes hp) (fun w hm => copposite_any hp.low.2.num w hm) w hm⟩
  cases i with
  | true => obtain ⟨rfl, rfl⟩ := hp; exact ⟨rfl, by decide⟩
  | false => exact ⟨hp.1, EC.low_mod _, by rw [e]; exact EC.on_neg hp.on⟩

def gX : Int := 55066263022277343669578718895168534326250603453777594175500187360389116729240
def gY : Int := 32670510020758816978083085130507043184471273380659243275938904335757337482424
/-- Where the table holds the base point. -/
def Gat (W : World) : Prop := W.cell? ⟨0, 9, none⟩ = some (.int .u64 6481385041966929816) ∧ W.cell? ⟨0, 10, none⟩ = some (.int .u64 188021827762530521) ∧ W.cell? ⟨0, 11, none⟩ = some (.int .u64 6170039885052185351) ∧ W.cell? ⟨0, 12, none⟩ = some (.int .u64 8772561819708210092) ∧ W.cell? ⟨0, 13, none⟩ = some (.int .u64 11261198710074299576) ∧ W.cell? ⟨0, 14, none⟩ = some (.int .u64 18237243440184513561) ∧ W.cell? ⟨0, 15, none⟩ = some (.int .u64 6747795201694173352) ∧ W.cell? ⟨0, 16, none⟩ = some (.int .u64 5204712524664259685) ∧ W.cell? ⟨0, 17, none⟩ = some (.bool false)
theorem Gat.keep {W w1 : World} (h : Gat W) (hb : Below W.heap.size W w1) : Gat w1 := by
  obtain ⟨a0, a1, a2, a3, a4, a5, a6, a7, a8⟩ := h
  exact ⟨cell_keep hb a0, cell_keep hb a1, cell_keep hb a2, cell_keep hb a3, cell_keep hb a4, cell_keep hb a5, cell_keep hb a6, cell_keep hb a7, cell_keep hb a8⟩
theorem Gat.alloc {W : World} (h : Gat W) (ob : Obj) : Gat (W.alloc ob) := h.keep ((Below.refl _ _).alloc (Nat.le_refl _) ob)
theorem g_limbs : l0 gX = 6481385041966929816 ∧ l1 gX = 188021827762530521 ∧ l2 gX = 6170039885052185351 ∧ l3 gX = 8772561819708210092 ∧ l0 gY = 11261198710074299576 ∧ l1 gY = 18237243440184513561 ∧ l2 gY = 6747795201694173352 ∧ l3 gY = 5204712524664259685 := by decide
theorem g_valid : Vd gX gY false := ⟨⟨by decide, by decide⟩, ⟨by decide, by decide⟩, by show EC.fp gY * EC.fp gY = EC.fp gX * EC.fp gX * EC.fp gX + 7; decide +kernel⟩
set_option maxHeartbeats 4000000 in
theorem cg_any (w : World) (hg : Gat w) :
    Calls Tryd.prog 27 #[] w fun e w' => e = .returned (.agg #[.int .u64 (l0 gX), .int .u64 (l1 gX), .int .u64 (l2 gX), .int .u64 (l3 gX), .int .u64 (l0 gY), .int .u64 (l1 gY), .int .u64 (l2 gY), .int .u64 (l3 gY), .bool false]) ∧ Below w.heap.size w w' := by
  obtain ⟨r0, r1, r2, r3, r4, r5, r6, r7⟩ := g_limbs
  rw [r0, r1, r2, r3, r4, r5, r6, r7]
  clear r0 r1 r2 r3 r4 r5 r6 r7
  have hg' := hg.alloc
  have lt : 0 < w.heap.size := World.block_lt_of_cell? w ⟨0, 9, none⟩ hg.1
  obtain ⟨a0, a1, a2, a3, a4, a5, a6, a7, a8⟩ := hg
  go_enter Tryd.func27, Tryd.ntmps27
  go_wp2
  simp [bodyPost, results, Tryd.results27, go_sem]
  repeat (first | with_reducible refine Below.setCell ?_ (by omega) _ | (first | with_reducible exact Below.refl _ _ | with_reducible refine Below.alloc ?_ (by first | omega | (simp; done) | (simp; omega)) _))
end Go.Proofs.YtjppjieidjodfabDoor

namespace Go.Proofs.YtjppjieidjodfabDoor
open Go.RowKit Go.Sort
theorem fp_cast (u : EC.F) : EC.fp (u.val : Int) = u := by
  apply Fin.ext
  rw [EC.fp_val]
  have := u.isLt
  omega
/-- Every point has its value. -/
theorem rep_pt {p : EC.Pt} (h : EC.On p) : ∃ x y i, Vd x y i ∧ ptOf x y i = p := by
  cases p with
  | o => exact ⟨0, 0, true, ⟨rfl, rfl⟩, rfl⟩
  | a u v =>
    have e : ptOf (u.val : Int) (v.val : Int) false = .a u v := by
      show EC.Pt.a _ _ = _
      rw [fp_cast, fp_cast]
    exact ⟨u.val, v.val, false, ⟨EC.fp_low u, EC.fp_low v, by rw [e]; exact h⟩, e⟩
theorem eq_pt_self {x y : Int} {i : Bool} (h : Vd x y i) : ∀ w, (Op.equalIn 10000 26 (.agg #[.int .u64 (l0 x), .int .u64 (l1 x), .int .u64 (l2 x), .int .u64 (l3 x), .int .u64 (l0 y), .int .u64 (l1 y), .int .u64 (l2 y), .int .u64 (l3 y), .bool i]) (.agg #[.int .u64 (l0 x), .int .u64 (l1 x), .int .u64 (l2 x), .int .u64 (l3 x), .int .u64 (l0 y), .int .u64 (l1 y), .int .u64 (l2 y), .int .u64 (l3 y), .bool i])).run Tryd.prog w = .ok true w := fun w => by
  have := eq_pt_any (i := i) (j := i) h.low.1.num h.low.2.num h.low.1.num h.low.2.num w
  simpa using this
theorem con_no {x y : Int} {i : Bool} (hx : Num x) (hy : Num y) (h : ¬ Vd x y i) : Hid (∀ w, Mds w → Calls Tryd.prog 25 #[.agg #[.int .u64 (l0 x), .int .u64 (l1 x), .int .u64 (l2 x), .int .u64 (l3 x), .int .u64 (l0 y), .int .u64 (l1 y), .int .u64 (l2 y), .int .u64 (l3 y), .bool i]] w fun e w' => e = .returned (.bool false) ∧ Below w.heap.size w w') := fun w hm => by
  have := con_any (i := i) hx hy w hm
  rw [decide_eq_false h] at this; exact this
end Go.Proofs.YtjppjieidjodfabDoor

namespace Go.Proofs.YtjppjieidjodfabDoor
open Go.RowKit Go.Sort

theorem lwnum_any (v : Int) (w : World) : Calls Tryd.prog 11 #[.int .i64 v] w fun e w' => e = .returned (.int .i64 v) ∧ Below w.heap.size w w' := by
  go_enter Tryd.func11, Tryd.ntmps11
  go_wp2
  simp [bodyPost, results, Tryd.results11, go_sem]
  exact Below.refl _ _
def dX : Int := 89565891926547004231252920425935692360644145829622209833684329913297188986597
def dY : Int := 12158399299693830322967808612713398636155367887041628176798871954788371653930
theorem g_pt : EC.gJ.pt = ptOf gX gY false := by
  rw [EC.gJ_pt]; show EC.Pt.a _ _ = EC.Pt.a (EC.fp gX) (EC.fp gY)
  rw [show EC.gJ.x = EC.fp gX by decide +kernel, show EC.gJ.y = EC.fp gY by decide +kernel]
theorem d_pt : ptOf dX dY false = (ptOf gX gY false).add (ptOf gX gY false) := by
  rw [← g_pt, ← EC.jd_pt EC.gJ_on]
  exact (EC.pt_of (u := EC.fp dX) (v := EC.fp dY) (by decide +kernel) (by decide +kernel) (by decide +kernel)).symm
theorem d_valid : Vd dX dY false := ⟨⟨by decide, by decide⟩, ⟨by decide, by decide⟩, by rw [d_pt]; exact EC.Pt.on g_valid.on g_valid.on⟩
theorem d_limbs : l0 dX = 12370272968204394213 ∧ l1 dX = 6662950628856118439 ∧ l2 dX = 3478257130916576472 ∧ l3 dX = 14268669794154544493 := by decide
theorem none_not : ¬ Vd 0 0 false := fun h => absurd h.2.2 (by show ¬ EC.fp 0 * EC.fp 0 = EC.fp 0 * EC.fp 0 * EC.fp 0 + 7; decide +kernel)

end Go.Proofs.YtjppjieidjodfabDoor

namespace Go.Proofs.YtjppjieidjodfabDoor
open Go.RowKit Go.Sort

def put9 (W : World) (b : Nat) (x y : Int) (i : Bool) : World := (((((((((W.setCell ⟨b, 0, none⟩ (.int .u64 (l0 x))).setCell ⟨b, 1, none⟩ (.int .u64 (l1 x))).setCell ⟨b, 2, none⟩ (.int .u64 (l2 x))).setCell ⟨b, 3, none⟩ (.int .u64 (l3 x))).setCell ⟨b, 4, none⟩ (.int .u64 (l0 y))).setCell ⟨b, 5, none⟩ (.int .u64 (l1 y))).setCell ⟨b, 6, none⟩ (.int .u64 (l2 y))).setCell ⟨b, 7, none⟩ (.int .u64 (l3 y))).setCell ⟨b, 8, none⟩ (.bool i))
theorem Bk9.put9 {W : World} {b : Nat} (h : Bk9 W b) (x y : Int) (i : Bool) : Pnt (Go.Proofs.YtjppjieidjodfabDoor.put9 W b x y i) b x y i := by
  obtain ⟨a0, a1, a2, a3, a4, a5, a6, a7, a8⟩ := h.cells
  intro k hk
  have hk' : k < 9 := by simpa using hk
  have hc : k = 0 ∨ k = 1 ∨ k = 2 ∨ k = 3 ∨ k = 4 ∨ k = 5 ∨ k = 6 ∨ k = 7 ∨ k = 8 := by omega
  unfold Go.Proofs.YtjppjieidjodfabDoor.put9
  rcases hc with rfl | rfl | rfl | rfl | rfl | rfl | rfl | rfl | rfl <;> simp [go_sem, a0, a1, a2, a3, a4, a5, a6, a7, a8]
theorem Pnt.put9 {W : World} {b b' : Nat} {x y x' y' : Int} {i j : Bool} (h : Pnt W b x y i) (ne : b' ≠ b) : Pnt (Go.Proofs.YtjppjieidjodfabDoor.put9 W b' x' y' j) b x y i := by
  unfold Go.Proofs.YtjppjieidjodfabDoor.put9
  exact Cl.set (Cl.set (Cl.set (Cl.set (Cl.set (Cl.set (Cl.set (Cl.set (Cl.set (h) ne _) ne _) ne _) ne _) ne _) ne _) ne _) ne _) ne _
theorem Mds.put9 {W : World} {b' : Nat} {x' y' : Int} {j : Bool} (h : Mds W) (ne : b' ≠ 1) : Mds (Go.Proofs.YtjppjieidjodfabDoor.put9 W b' x' y' j) := by
  unfold Go.Proofs.YtjppjieidjodfabDoor.put9
  exact (((((((((h.set ne _).set ne _).set ne _).set ne _).set ne _).set ne _).set ne _).set ne _).set ne _)
theorem below_put9 {W w : World} {n b : Nat} {x' y' : Int} {j : Bool} (h : Below n w W) (hb : n ≤ b) : Below n w (put9 W b x' y' j) := by
  unfold put9
  exact (((((((((h.setCell hb _).setCell hb _).setCell hb _).setCell hb _).setCell hb _).setCell hb _).setCell hb _).setCell hb _).setCell hb _)

end Go.Proofs.YtjppjieidjodfabDoor

import Derived.Test.YtleneapnjanbbaaDoorCJx
import Derived.Test.YtleneapnjanbbaaDoorFList
import Derived.Test.YtleneapnjanbbaaDoorQAlloc
namespace Go.Proofs.YtleneapnjanbbaaDoor
open Go.RowKit Go.Sort

/-- A value of type Point. -/
structure PP where
  x : Int
  y : Int
  i : Bool
def PP.pt (q : PP) : EC.Pt := ptOf q.x q.y q.i
/-- Points in a row, from a cell on. -/
def Pts (W : World) (b o : Nat) (L : List PP) : Prop := ∀ i, i < L.length → W.cell? ⟨b, o + i * 9, none⟩ = some (.int .u64 (l0 (L.getD i ⟨0, 0, true⟩).x)) ∧ W.cell? ⟨b, o + i * 9 + 1, none⟩ = some (.int .u64 (l1 (L.getD i ⟨0, 0, true⟩).x)) ∧ W.cell? ⟨b, o + i * 9 + 2, none⟩ = some (.int .u64 (l2 (L.getD i ⟨0, 0, true⟩).x)) ∧ W.cell? ⟨b, o + i * 9 + 3, none⟩ = some (.int .u64 (l3 (L.getD i ⟨0, 0, true⟩).x)) ∧ W.cell? ⟨b, o + i * 9 + 4, none⟩ = some (.int .u64 (l0 (L.getD i ⟨0, 0, true⟩).y)) ∧ W.cell? ⟨b, o + i * 9 + 5, none⟩ = some (.int .u64 (l1 (L.getD i ⟨0, 0, true⟩).y)) ∧ W.cell? ⟨b, o + i * 9 + 6, none⟩ = some (.int .u64 (l2 (L.getD i ⟨0, 0, true⟩).y)) ∧ W.cell? ⟨b, o + i * 9 + 7, none⟩ = some (.int .u64 (l3 (L.getD i ⟨0, 0, true⟩).y)) ∧ W.cell? ⟨b, o + i * 9 + 8, none⟩ = some (.bool (L.getD i ⟨0, 0, true⟩).i)
theorem Pts.keep {W w1 : World} {b o : Nat} {L : List PP} (h : Pts W b o L) (hb : Below W.heap.size W w1) : Pts w1 b o L := fun i hi => by
  obtain ⟨a0, a1, a2, a3, a4, a5, a6, a7, a8⟩ := h i hi
  exact ⟨cell_keep hb a0, cell_keep hb a1, cell_keep hb a2, cell_keep hb a3, cell_keep hb a4, cell_keep hb a5, cell_keep hb a6, cell_keep hb a7, cell_keep hb a8⟩
theorem Pts.alloc {W : World} {b o : Nat} {L : List PP} (h : Pts W b o L) (ob : Obj) : Pts (W.alloc ob) b o L := h.keep ((Below.refl _ _).alloc (Nat.le_refl _) ob)
theorem Pts.set {W : World} {b o b' k : Nat} {L : List PP} (h : Pts W b o L) (ne : b' ≠ b) (v : Value) : Pts (W.setCell ⟨b', k, none⟩ v) b o L := fun i hi => by
  obtain ⟨a0, a1, a2, a3, a4, a5, a6, a7, a8⟩ := h i hi
  exact ⟨cell_far a0 ne, cell_far a1 ne, cell_far a2 ne, cell_far a3 ne, cell_far a4 ne, cell_far a5 ne, cell_far a6 ne, cell_far a7 ne, cell_far a8 ne⟩
/-- Three numbers in a block that may be written. -/
def TV (W : World) (b : Nat) (x y z : Int) : Prop := Thr W b x y z ∧ Loose W b 12
theorem TV.keep {W w1 : World} {b : Nat} {x y z : Int} (h : TV W b x y z) (hb : Below W.heap.size W w1) : TV w1 b x y z := ⟨h.1.keep hb, h.2.keep hb h.1.lt⟩
theorem TV.alloc {W : World} {b : Nat} {x y z : Int} (h : TV W b x y z) (ob : Obj) : TV (W.alloc ob) b x y z := h.keep ((Below.refl _ _).alloc (Nat.le_refl _) ob)
theorem TV.free {W : World} {b : Nat} {x y z : Int} (h : TV W b x y z) : W.frozen? ⟨b, 0, none⟩ = false ∧ W.frozen? ⟨b, 1, none⟩ = false ∧ W.frozen? ⟨b, 2, none⟩ = false ∧ W.frozen? ⟨b, 3, none⟩ = false ∧ W.frozen? ⟨b, 4, none⟩ = false ∧ W.frozen? ⟨b, 5, none⟩ = false ∧ W.frozen? ⟨b, 6, none⟩ = false ∧ W.frozen? ⟨b, 7, none⟩ = false ∧ W.frozen? ⟨b, 8, none⟩ = false ∧ W.frozen? ⟨b, 9, none⟩ = false ∧ W.frozen? ⟨b, 10, none⟩ = false ∧ W.frozen? ⟨b, 11, none⟩ = false := ⟨h.2 0 (by decide), h.2 1 (by decide), h.2 2 (by decide), h.2 3 (by decide), h.2 4 (by decide), h.2 5 (by decide), h.2 6 (by decide), h.2 7 (by decide), h.2 8 (by decide), h.2 9 (by decide), h.2 10 (by decide), h.2 11 (by decide)⟩
def put12 (W : World) (b : Nat) (x' y' z' : Int) : World := ((((((((((((W.setCell ⟨b, 0, none⟩ (.int .u64 (l0 x'))).setCell ⟨b, 1, none⟩ (.int .u64 (l1 x'))).setCell ⟨b, 2, none⟩ (.int .u64 (l2 x'))).setCell ⟨b, 3, none⟩ (.int .u64 (l3 x'))).setCell ⟨b, 4, none⟩ (.int .u64 (l0 y'))).setCell ⟨b, 5, none⟩ (.int .u64 (l1 y'))).setCell ⟨b, 6, none⟩ (.int .u64 (l2 y'))).setCell ⟨b, 7, none⟩ (.int .u64 (l3 y'))).setCell ⟨b, 8, none⟩ (.int .u64 (l0 z'))).setCell ⟨b, 9, none⟩ (.int .u64 (l1 z'))).setCell ⟨b, 10, none⟩ (.int .u64 (l2 z'))).setCell ⟨b, 11, none⟩ (.int .u64 (l3 z')))
theorem TV.put {W : World} {b : Nat} {x y z : Int} (h : TV W b x y z) (x' y' z' : Int) : TV (put12 W b x' y' z') b x' y' z' := by
  have hl : ∀ k, k < 12 → ∀ (W' : World), Loose W' b 12 → True := fun _ _ _ _ => trivial
  clear hl
  refine ⟨?_, ?_⟩
  · obtain ⟨a0, a1, a2, a3, a4, a5, a6, a7, a8, a9, a10, a11⟩ := h.1.cells
    intro k hk
    have hk' : k < 12 := by simpa using hk
    have hc : k = 0 ∨ k = 1 ∨ k = 2 ∨ k = 3 ∨ k = 4 ∨ k = 5 ∨ k = 6 ∨ k = 7 ∨ k = 8 ∨ k = 9 ∨ k = 10 ∨ k = 11 := by omega
    unfold put12
    rcases hc with rfl | rfl | rfl | rfl | rfl | rfl | rfl | rfl | rfl | rfl | rfl | rfl <;> simp [go_sem, a0, a1, a2, a3, a4, a5, a6, a7, a8, a9, a10, a11]
  · unfold put12
    exact ((((((((((((h.2.set _ _).set _ _).set _ _).set _ _).set _ _).set _ _).set _ _).set _ _).set _ _).set _ _).set _ _).set _ _)
theorem Cl.put {W : World} {b b' : Nat} {l : List Value} (h : Cl W b l) (ne : b' ≠ b) (x' y' z' : Int) : Cl (put12 W b' x' y' z') b l := by
  unfold put12
  exact ((((((((((((h.set ne _).set ne _).set ne _).set ne _).set ne _).set ne _).set ne _).set ne _).set ne _).set ne _).set ne _).set ne _)
theorem Bk9.put {W : World} {b b' : Nat} (h : Bk9 W b) (ne : b' ≠ b) (x' y' z' : Int) : Bk9 (put12 W b' x' y' z') b := ⟨h.1.put ne x' y' z', by unfold put12; exact ((((((((((((h.2.set _ _).set _ _).set _ _).set _ _).set _ _).set _ _).set _ _).set _ _).set _ _).set _ _).set _ _).set _ _)⟩
theorem Mds.put {W : World} {b' : Nat} (h : Mds W) (ne : b' ≠ 1) (x' y' z' : Int) : Mds (put12 W b' x' y' z') := by
  unfold put12
  exact ((((((((((((h.set ne _).set ne _).set ne _).set ne _).set ne _).set ne _).set ne _).set ne _).set ne _).set ne _).set ne _).set ne _)
theorem Pts.put {W : World} {b o b' : Nat} {L : List PP} (h : Pts W b o L) (ne : b' ≠ b) (x' y' z' : Int) : Pts (put12 W b' x' y' z') b o L := by
  unfold put12
  exact ((((((((((((h.set ne _).set ne _).set ne _).set ne _).set ne _).set ne _).set ne _).set ne _).set ne _).set ne _).set ne _).set ne _)
end Go.Proofs.YtleneapnjanbbaaDoor

namespace Go.Proofs.YtleneapnjanbbaaDoor
open Go.RowKit Go.Sort

end Go.Proofs.YtleneapnjanbbaaDoor

namespace Go.Proofs.YtleneapnjanbbaaDoor
open Go.RowKit Go.Sort

set_option maxRecDepth 100000 in
set_option maxHeartbeats 4000000 in
theorem cdouble_walk {x y a1 a2 a3 b1 b2 b3 x' y' : Int} {i j : Bool} (C0 : Hid (∀ w, Mds w → Calls Tryd.prog 10 #[.agg #[.int .u64 (l0 x), .int .u64 (l1 x), .int .u64 (l2 x), .int .u64 (l3 x), .int .u64 (l0 y), .int .u64 (l1 y), .int .u64 (l2 y), .int .u64 (l3 y), .bool i]] w fun e w' => e = .returned (.bool true) ∧ Below w.heap.size w w')) (C1 : Hid (∀ w, Calls Tryd.prog 23 #[.agg #[.int .u64 (l0 x), .int .u64 (l1 x), .int .u64 (l2 x), .int .u64 (l3 x), .int .u64 (l0 y), .int .u64 (l1 y), .int .u64 (l2 y), .int .u64 (l3 y), .bool i]] w fun e w' => e = .returned (.agg #[.int .u64 (l0 a1), .int .u64 (l1 a1), .int .u64 (l2 a1), .int .u64 (l3 a1), .int .u64 (l0 a2), .int .u64 (l1 a2), .int .u64 (l2 a2), .int .u64 (l3 a2), .int .u64 (l0 a3), .int .u64 (l1 a3), .int .u64 (l2 a3), .int .u64 (l3 a3)]) ∧ Below w.heap.size w w')) (C2 : Hid (∀ w, Mds w → Calls Tryd.prog 24 #[.agg #[.int .u64 (l0 a1), .int .u64 (l1 a1), .int .u64 (l2 a1), .int .u64 (l3 a1), .int .u64 (l0 a2), .int .u64 (l1 a2), .int .u64 (l2 a2), .int .u64 (l3 a2), .int .u64 (l0 a3), .int .u64 (l1 a3), .int .u64 (l2 a3), .int .u64 (l3 a3)]] w fun e w' => e = .returned (.agg #[.int .u64 (l0 b1), .int .u64 (l1 b1), .int .u64 (l2 b1), .int .u64 (l3 b1), .int .u64 (l0 b2), .int .u64 (l1 b2), .int .u64 (l2 b2), .int .u64 (l3 b2), .int .u64 (l0 b3), .int .u64 (l1 b3), .int .u64 (l2 b3), .int .u64 (l3 b3)]) ∧ Below w.heap.size w w')) (C3 : Hid (∀ w, Mds w → Calls Tryd.prog 25 #[.agg #[.int .u64 (l0 b1), .int .u64 (l1 b1), .int .u64 (l2 b1), .int .u64 (l3 b1), .int .u64 (l0 b2), .int .u64 (l1 b2), .int .u64 (l2 b2), .int .u64 (l3 b2), .int .u64 (l0 b3), .int .u64 (l1 b3), .int .u64 (l2 b3), .int .u64 (l3 b3)]] w fun e w' => e = .returned (.agg #[.int .u64 (l0 x'), .int .u64 (l1 x'), .int .u64 (l2 x'), .int .u64 (l3 x'), .int .u64 (l0 y'), .int .u64 (l1 y'), .int .u64 (l2 y'), .int .u64 (l3 y'), .bool j]) ∧ Below w.heap.size w w')) (w : World) (hm : Mds w) :
    Calls Tryd.prog 13 #[.agg #[.int .u64 (l0 x), .int .u64 (l1 x), .int .u64 (l2 x), .int .u64 (l3 x), .int .u64 (l0 y), .int .u64 (l1 y), .int .u64 (l2 y), .int .u64 (l3 y), .bool i]] w fun e w' => e = .returned (.tuple #[.agg #[.int .u64 (l0 x'), .int .u64 (l1 x'), .int .u64 (l2 x'), .int .u64 (l3 x'), .int .u64 (l0 y'), .int .u64 (l1 y'), .int .u64 (l2 y'), .int .u64 (l3 y'), .bool j], .int .i64 0]) ∧ Below w.heap.size w w' := by
  go_enter Tryd.func13, Tryd.ntmps13
  go_wp2_with fail
  refine calls_world (fun W => Below w.heap.size w W ∧ Mds W ∧ Pnt W w.heap.size x y i ∧ Bk9 W (w.heap.size + 1)) ⟨by repeat (first | with_reducible exact Below.refl _ _ | with_reducible refine Below.alloc ?_ (by first | omega | (simp; done) | (simp; omega)) _), (hm.alloc _).alloc _, (Pnt.new rfl).alloc _, Bk9.new (by simp)⟩ ?_
  rintro W ⟨B, hD, hP, hR⟩
  have o3 : w.heap.size ≤ w.heap.size + 1 := by omega
  generalize w.heap.size + 1 = br at *
  with_reducible refine (C0.out _ hD).mono ?_
  rintro e w1 ⟨rfl, hb⟩
  replace B := B.trans (hb.mono B.size)
  replace hD := hD.keep hb; replace hP := hP.keep hb; replace hR := hR.keep hb
  clear hb W
  have ghP := hP.cells
  go_wp2_with fail
  refine calls_world (fun W => Below w.heap.size w W ∧ Mds W ∧ Pnt W w.heap.size x y i ∧ Bk9 W br) ⟨B, hD, hP, hR⟩ ?_
  clear B hD hP hR ghP
  rintro W ⟨B, hD, hP, hR⟩
  with_reducible refine (C1.out _).mono ?_
  rintro e w2 ⟨rfl, hb⟩
  replace B := B.trans (hb.mono B.size)
  replace hD := hD.keep hb; replace hP := hP.keep hb; replace hR := hR.keep hb
  clear hb W
  go_wp2_with fail
  refine calls_world (fun W => Below w.heap.size w W ∧ Mds W ∧ Pnt W w.heap.size x y i ∧ Bk9 W br) ⟨B, hD, hP, hR⟩ ?_
  clear B hD hP hR 
  rintro W ⟨B, hD, hP, hR⟩
  with_reducible refine (C2.out _ hD).mono ?_
  rintro e w3 ⟨rfl, hb⟩
  replace B := B.trans (hb.mono B.size)
  replace hD := hD.keep hb; replace hP := hP.keep hb; replace hR := hR.keep hb
  clear hb W
  go_wp2_with fail
  refine calls_world (fun W => Below w.heap.size w W ∧ Mds W ∧ Pnt W w.heap.size x y i ∧ Bk9 W br) ⟨B, hD, hP, hR⟩ ?_
  clear B hD hP hR 
  rintro W ⟨B, hD, hP, hR⟩
  with_reducible refine (C3.out _ hD).mono ?_
  rintro e w9 ⟨rfl, hb⟩
  replace B := B.trans (hb.mono B.size)
  replace hD := hD.keep hb; replace hP := hP.keep hb; replace hR := hR.keep hb
  clear hb W hD hP
  have gR := hR.cells; have fR := hR.free
  go_wp2
  simp [bodyPost, results, Tryd.results13, go_sem, gR]
  repeat (first | with_reducible exact B | with_reducible refine Below.setCell ?_ o3 _)

theorem con_yes {x y : Int} {i : Bool} (h : Vd x y i) : Hid (∀ w, Mds w → Calls Tryd.prog 10 #[.agg #[.int .u64 (l0 x), .int .u64 (l1 x), .int .u64 (l2 x), .int .u64 (l3 x), .int .u64 (l0 y), .int .u64 (l1 y), .int .u64 (l2 y), .int .u64 (l3 y), .bool i]] w fun e w' => e = .returned (.bool true) ∧ Below w.heap.size w w') := fun w hm => by
  have := con_any (i := i) h.low.1.num h.low.2.num w hm
  rw [decide_eq_true h] at this; exact this
theorem cdouble_any {x y x' y' : Int} {i j : Bool} (hp : Vd x y i) (hj : Vd x' y' j) (ej : ptOf x' y' j = (ptOf x y i).add (ptOf x y i)) (w : World) (hm : Mds w) :
    Calls Tryd.prog 13 #[.agg #[.int .u64 (l0 x), .int .u64 (l1 x), .int .u64 (l2 x), .int .u64 (l3 x), .int .u64 (l0 y), .int .u64 (l1 y), .int .u64 (l2 y), .int .u64 (l3 y), .bool i]] w fun e w' => e = .returned (.tuple #[.agg #[.int .u64 (l0 x'), .int .u64 (l1 x'), .int .u64 (l2 x'), .int .u64 (l3 x'), .int .u64 (l0 y'), .int .u64 (l1 y'), .int .u64 (l2 y'), .int .u64 (l3 y'), .bool j], .int .i64 0]) ∧ Below w.heap.size w w' := by
  obtain ⟨a1, a2, a3, k1, k2, k3, ew, CW⟩ := cwiden_J hp
  obtain ⟨b1, b2, b3, m1, m2, m3, eb, CD⟩ := cdbl_J k1 k2 k3
  obtain ⟨px, py, pi, u1, u2, u3, u4, CP⟩ := cpoint_J m1 m2 m3
  have on1 : EC.On (J3 a1 a2 a3).pt := by rw [ew]; exact hp.on
  have e2 : ptOf px py pi = (ptOf x y i).add (ptOf x y i) := by rw [u4, eb, EC.jd_pt on1, ew]
  have hvd : Vd px py pi := by
    cases pi with
    | true => exact u3 rfl
    | false => exact ⟨u1, u2, by rw [e2]; exact EC.Pt.on hp.on hp.on⟩
  obtain ⟨rfl, rfl, rfl⟩ := hvd.inj hj (by rw [e2, ej])
  exact cdouble_walk (con_yes hp) CW CD CP w hm

def gX : Int := 55066263022277343669578718895168534326250603453777594175500187360389116729240
def gY : Int := 32670510020758816978083085130507043184471273380659243275938904335757337482424
/-- Where the table holds the base point. -/
def Gat (W : World) : Prop := W.cell? ⟨0, 9, none⟩ = some (.int .u64 6481385041966929816) ∧ W.cell? ⟨0, 10, none⟩ = some (.int .u64 188021827762530521) ∧ W.cell? ⟨0, 11, none⟩ = some (.int .u64 6170039885052185351) ∧ W.cell? ⟨0, 12, none⟩ = some (.int .u64 8772561819708210092) ∧ W.cell? ⟨0, 13, none⟩ = some (.int .u64 11261198710074299576) ∧ W.cell? ⟨0, 14, none⟩ = some (.int .u64 18237243440184513561) ∧ W.cell? ⟨0, 15, none⟩ = some (.int .u64 6747795201694173352) ∧ W.cell? ⟨0, 16, none⟩ = some (.int .u64 5204712524664259685) ∧ W.cell? ⟨0, 17, none⟩ = some (.bool false)
theorem Gat.keep {W w1 : World} (h : Gat W) (hb : Below W.heap.size W w1) : Gat w1 := by
  obtain ⟨a0, a1, a2, a3, a4, a5, a6, a7, a8⟩ := h
  exact ⟨cell_keep hb a0, cell_keep hb a1, cell_keep hb a2, cell_keep hb a3, cell_keep hb a4, cell_keep hb a5, cell_keep hb a6, cell_keep hb a7, cell_keep hb a8⟩
theorem Gat.alloc {W : World} (h : Gat W) (ob : Obj) : Gat (W.alloc ob) := h.keep ((Below.refl _ _).alloc (Nat.le_refl _) ob)
theorem g_limbs : l0 gX = 6481385041966929816 ∧ l1 gX = 188021827762530521 ∧ l2 gX = 6170039885052185351 ∧ l3 gX = 8772561819708210092 ∧ l0 gY = 11261198710074299576 ∧ l1 gY = 18237243440184513561 ∧ l2 gY = 6747795201694173352 ∧ l3 gY = 5204712524664259685 := by decide
theorem g_valid : Vd gX gY false := ⟨⟨by decide, by decide⟩, ⟨by decide, by decide⟩, by show EC.fp gY * EC.fp gY = EC.fp gX * EC.fp gX * EC.fp gX + 7; decide +kernel⟩
set_option maxHeartbeats 4000000 in
theorem cg_any (w : World) (hg : Gat w) :
    Calls Tryd.prog 12 #[] w fun e w' => e = .returned (.agg #[.int .u64 (l0 gX), .int .u64 (l1 gX), .int .u64 (l2 gX), .int .u64 (l3 gX), .int .u64 (l0 gY), .int .u64 (l1 gY), .int .u64 (l2 gY), .int .u64 (l3 gY), .bool false]) ∧ Below w.heap.size w w' := by
  obtain ⟨r0, r1, r2, r3, r4, r5, r6, r7⟩ := g_limbs
  rw [r0, r1, r2, r3, r4, r5, r6, r7]
  clear r0 r1 r2 r3 r4 r5 r6 r7
  have hg' := hg.alloc
  have lt : 0 < w.heap.size := World.block_lt_of_cell? w ⟨0, 9, none⟩ hg.1
  obtain ⟨a0, a1, a2, a3, a4, a5, a6, a7, a8⟩ := hg
  go_enter Tryd.func12, Tryd.ntmps12
  go_wp2
  simp [bodyPost, results, Tryd.results12, go_sem]
  repeat (first | with_reducible refine Below.setCell ?_ (by omega) _ | (first | with_reducible exact Below.refl _ _ | with_reducible refine Below.alloc ?_ (by first | omega | (simp; done) | (simp; omega)) _))
end Go.Proofs.YtleneapnjanbbaaDoor

namespace Go.Proofs.YtleneapnjanbbaaDoor
open Go.RowKit Go.Sort
end Go.Proofs.YtleneapnjanbbaaDoor

namespace Go.Proofs.YtleneapnjanbbaaDoor
open Go.RowKit Go.Sort

theorem lwnum_any (v : Int) (w : World) : Calls Tryd.prog 7 #[.int .i64 v] w fun e w' => e = .returned (.int .i64 v) ∧ Below w.heap.size w w' := by
  go_enter Tryd.func7, Tryd.ntmps7
  go_wp2
  simp [bodyPost, results, Tryd.results7, go_sem]
  exact Below.refl _ _
theorem lzero_any (w : World) : Calls Tryd.prog 14 #[] w fun e w' => e = .returned (.agg #[.int .u64 (l0 0), .int .u64 (l1 0), .int .u64 (l2 0), .int .u64 (l3 0), .int .u64 (l0 0), .int .u64 (l1 0), .int .u64 (l2 0), .int .u64 (l3 0), .bool true]) ∧ Below w.heap.size w w' := by
  obtain ⟨z0, z1, z2, z3⟩ := zero_limbs
  rw [z0, z1, z2, z3]
  go_enter Tryd.func14, Tryd.ntmps14
  go_wp2
  simp [bodyPost, results, Tryd.results14, go_sem]
  repeat (first | with_reducible refine Below.setCell ?_ (by omega) _ | (first | with_reducible exact Below.refl _ _ | with_reducible refine Below.alloc ?_ (by first | omega | (simp; done) | (simp; omega)) _))

def dX : Int := 89565891926547004231252920425935692360644145829622209833684329913297188986597
def dY : Int := 12158399299693830322967808612713398636155367887041628176798871954788371653930
theorem g_pt : EC.gJ.pt = ptOf gX gY false := by
  rw [EC.gJ_pt]; show EC.Pt.a _ _ = EC.Pt.a (EC.fp gX) (EC.fp gY)
  rw [show EC.gJ.x = EC.fp gX by decide +kernel, show EC.gJ.y = EC.fp gY by decide +kernel]
theorem d_pt : ptOf dX dY false = (ptOf gX gY false).add (ptOf gX gY false) := by
  rw [← g_pt, ← EC.jd_pt EC.gJ_on]
  exact (EC.pt_of (u := EC.fp dX) (v := EC.fp dY) (by decide +kernel) (by decide +kernel) (by decide +kernel)).symm
theorem d_valid : Vd dX dY false := ⟨⟨by decide, by decide⟩, ⟨by decide, by decide⟩, by rw [d_pt]; exact EC.Pt.on g_valid.on g_valid.on⟩
theorem d_limbs : l0 dX = 12370272968204394213 ∧ l1 dX = 6662950628856118439 ∧ l2 dX = 3478257130916576472 ∧ l3 dX = 14268669794154544493 := by decide
theorem none_not : ¬ Vd 0 0 false := fun h => absurd h.2.2 (by show ¬ EC.fp 0 * EC.fp 0 = EC.fp 0 * EC.fp 0 * EC.fp 0 + 7; decide +kernel)

set_option maxRecDepth 100000 in
set_option maxHeartbeats 8000000 in
theorem lbase_any (w : World) (hm : Mds w) (hg : Gat w) :
    Calls Tryd.prog 4 #[] w fun e w' => e = .returned (.bool true) ∧ Below w.heap.size w w' := by
  have C1 : Hid (∀ w, Gat w → Calls Tryd.prog 12 #[] w fun e w' => e = .returned (.agg #[.int .u64 (l0 gX), .int .u64 (l1 gX), .int .u64 (l2 gX), .int .u64 (l3 gX), .int .u64 (l0 gY), .int .u64 (l1 gY), .int .u64 (l2 gY), .int .u64 (l3 gY), .bool false]) ∧ Below w.heap.size w w') := fun w h => cg_any w h
  have C2 : Hid (∀ w, Mds w → Calls Tryd.prog 13 #[.agg #[.int .u64 (l0 gX), .int .u64 (l1 gX), .int .u64 (l2 gX), .int .u64 (l3 gX), .int .u64 (l0 gY), .int .u64 (l1 gY), .int .u64 (l2 gY), .int .u64 (l3 gY), .bool false]] w fun e w' => e = .returned (.tuple #[.agg #[.int .u64 (l0 dX), .int .u64 (l1 dX), .int .u64 (l2 dX), .int .u64 (l3 dX), .int .u64 (l0 dY), .int .u64 (l1 dY), .int .u64 (l2 dY), .int .u64 (l3 dY), .bool false], .int .i64 0]) ∧ Below w.heap.size w w') := fun w hm => cdouble_any g_valid d_valid d_pt w hm
  have C3 : Hid (∀ w, Mds w → Calls Tryd.prog 10 #[.agg #[.int .u64 (l0 gX), .int .u64 (l1 gX), .int .u64 (l2 gX), .int .u64 (l3 gX), .int .u64 (l0 gY), .int .u64 (l1 gY), .int .u64 (l2 gY), .int .u64 (l3 gY), .bool false]] w fun e w' => e = .returned (.bool true) ∧ Below w.heap.size w w') := con_yes g_valid
  have C4 : Hid (∀ w, Mds w → Calls Tryd.prog 10 #[.agg #[.int .u64 (l0 dX), .int .u64 (l1 dX), .int .u64 (l2 dX), .int .u64 (l3 dX), .int .u64 (l0 dY), .int .u64 (l1 dY), .int .u64 (l2 dY), .int .u64 (l3 dY), .bool false]] w fun e w' => e = .returned (.bool true) ∧ Below w.heap.size w w') := con_yes d_valid
  have C5 : Hid (∀ w, Mds w → Calls Tryd.prog 10 #[.agg #[.int .u64 0, .int .u64 0, .int .u64 0, .int .u64 0, .int .u64 0, .int .u64 0, .int .u64 0, .int .u64 0, .bool false]] w fun e w' => e = .returned (.bool false) ∧ Below w.heap.size w w') := fun w hm => by
    have := con_any (x := 0) (y := 0) (i := false) ⟨by decide, by decide⟩ ⟨by decide, by decide⟩ w hm
    obtain ⟨z0, z1, z2, z3⟩ := zero_limbs
    rw [z0, z1, z2, z3, decide_eq_false none_not] at this
    exact this
  have C6 : Hid (∀ w, Mds w → Calls Tryd.prog 10 #[.agg #[.int .u64 (l0 0), .int .u64 (l1 0), .int .u64 (l2 0), .int .u64 (l3 0), .int .u64 (l0 0), .int .u64 (l1 0), .int .u64 (l2 0), .int .u64 (l3 0), .bool true]] w fun e w' => e = .returned (.bool true) ∧ Below w.heap.size w w') := con_yes ⟨rfl, rfl⟩
  have e1 : ∀ w, (Op.equalIn 10000 26 (.agg #[.int .u64 (l0 dX), .int .u64 (l1 dX), .int .u64 (l2 dX), .int .u64 (l3 dX)]) (.agg #[.int .u64 (l0 dX), .int .u64 (l1 dX), .int .u64 (l2 dX), .int .u64 (l3 dX)])).run Tryd.prog w = .ok true w := fun w => eq_yes w
  have e2 : ∀ w, (Op.equalIn 10000 28 (.agg #[.int .u64 (l0 dX), .int .u64 (l1 dX), .int .u64 (l2 dX), .int .u64 (l3 dX), .int .u64 (l0 dY), .int .u64 (l1 dY), .int .u64 (l2 dY), .int .u64 (l3 dY), .bool false]) (.agg #[.int .u64 (l0 gX), .int .u64 (l1 gX), .int .u64 (l2 gX), .int .u64 (l3 gX), .int .u64 (l0 gY), .int .u64 (l1 gY), .int .u64 (l2 gY), .int .u64 (l3 gY), .bool false])).run Tryd.prog w = .ok false w := fun w => by
    rw [eq_pt_any d_valid.low.1.num d_valid.low.2.num g_valid.low.1.num g_valid.low.2.num]
    rw [decide_eq_false (show ¬ dX = gX by decide)]; rfl
  obtain ⟨r0, r1, r2, r3⟩ := d_limbs
  have hold : ∀ (W : World) (t : TypeId), Hold (W.alloc (.cells #[.int .u64 12370272968204394213, .int .u64 6662950628856118439, .int .u64 3478257130916576472, .int .u64 14268669794154544493] t)) W.heap.size dX := fun W t => by
    rw [← r0, ← r1, ← r2, ← r3]; exact Hold.new _ _ _
  clear r0 r1 r2 r3
  generalize dX = dX at *; generalize dY = dY at *; generalize gX = gX at *; generalize gY = gY at *
  go_enter Tryd.func4, Tryd.ntmps4
  go_wp2_with fail
  refine calls_world (fun W => Below w.heap.size w W ∧ Mds W ∧ Gat W ∧ Hold W w.heap.size dX) ⟨by repeat (first | with_reducible exact Below.refl _ _ | with_reducible refine Below.alloc ?_ (by first | omega | (simp; done) | (simp; omega)) _), hm.alloc _, hg.alloc _, hold _ _⟩ ?_
  rintro W ⟨B, hD, hG, hX⟩
  with_reducible refine (C1.out _ hG).mono ?_
  rintro e w1 ⟨rfl, hb⟩
  replace B := B.trans (hb.mono B.size)
  replace hD := hD.keep hb; replace hX := hX.keep hb
  clear hb hG W
  go_wp2_with fail
  refine calls_world (fun W => Below w.heap.size w W ∧ Mds W ∧ Hold W w.heap.size dX ∧ Pnt W w1.heap.size gX gY false) ⟨B.alloc B.size _, hD.alloc _, hX.alloc _, Pnt.new rfl⟩ ?_
  clear B hD hX 
  rintro W ⟨B, hD, hX, hA⟩
  generalize w1.heap.size = ba at *
  with_reducible refine (C2.out _ hD).mono ?_
  rintro e w2 ⟨rfl, hb⟩
  replace B := B.trans (hb.mono B.size)
  replace hD := hD.keep hb; replace hX := hX.keep hb; replace hA := hA.keep hb
  clear hb W
  have ghA := fun o => (hA.alloc o).cells
  go_wp2_with fail
  refine calls_world (fun W => Below w.heap.size w W ∧ Mds W ∧ Hold W w.heap.size dX ∧ Pnt W ba gX gY false ∧ Pnt W w2.heap.size dX dY false) ⟨B.alloc B.size _, hD.alloc _, hX.alloc _, hA.alloc _, Pnt.new rfl⟩ ?_
  clear B hD hX hA ghA
  rintro W ⟨B, hD, hX, hA, hE⟩
  generalize w2.heap.size = be at *
  with_reducible refine (C3.out _ hD).mono ?_
  rintro e w3 ⟨rfl, hb⟩
  replace B := B.trans (hb.mono B.size)
  replace hD := hD.keep hb; replace hX := hX.keep hb; replace hA := hA.keep hb; replace hE := hE.keep hb
  clear hb W
  have ghE := hE.cells
  go_wp2_with fail
  refine calls_world (fun W => Below w.heap.size w W ∧ Mds W ∧ Hold W w.heap.size dX ∧ Pnt W ba gX gY false ∧ Pnt W be dX dY false) ⟨B, hD, hX, hA, hE⟩ ?_
  clear B hD hX hA hE ghE
  rintro W ⟨B, hD, hX, hA, hE⟩
  with_reducible refine (C4.out _ hD).mono ?_
  rintro e w4 ⟨rfl, hb⟩
  replace B := B.trans (hb.mono B.size)
  replace hD := hD.keep hb; replace hX := hX.keep hb; replace hA := hA.keep hb; replace hE := hE.keep hb
  clear hb W
  go_wp2_with fail
  refine calls_world (fun W => Below w.heap.size w W ∧ Mds W ∧ Hold W w.heap.size dX ∧ Pnt W ba gX gY false ∧ Pnt W be dX dY false) ⟨B, hD, hX, hA, hE⟩ ?_
  clear B hD hX hA hE 
  rintro W ⟨B, hD, hX, hA, hE⟩
  with_reducible refine (lwnum_any _ _).mono ?_
  rintro e w5 ⟨rfl, hb⟩
  replace B := B.trans (hb.mono B.size)
  replace hD := hD.keep hb; replace hX := hX.keep hb; replace hA := hA.keep hb; replace hE := hE.keep hb
  clear hb W
  have ghE := hE.cells
  have ghX := hX.cells
  have ghA := hA.cells
  go_wp2_with fail
  refine calls_world (fun W => Below w.heap.size w W ∧ Mds W ∧ Hold W w.heap.size dX ∧ Pnt W ba gX gY false ∧ Pnt W be dX dY false) ⟨B, hD, hX, hA, hE⟩ ?_
  clear B hD hX hA hE ghE ghX ghA
  rintro W ⟨B, hD, hX, hA, hE⟩
  with_reducible refine (C5.out _ hD).mono ?_
  rintro e w6 ⟨rfl, hb⟩
  replace B := B.trans (hb.mono B.size)
  replace hD := hD.keep hb; replace hX := hX.keep hb; replace hA := hA.keep hb; replace hE := hE.keep hb
  clear hb W
  go_wp2_with fail
  refine calls_world (fun W => Below w.heap.size w W ∧ Mds W ∧ Hold W w.heap.size dX ∧ Pnt W ba gX gY false ∧ Pnt W be dX dY false) ⟨B, hD, hX, hA, hE⟩ ?_
  clear B hD hX hA hE 
  rintro W ⟨B, hD, hX, hA, hE⟩
  with_reducible refine (lzero_any _).mono ?_
  rintro e w7 ⟨rfl, hb⟩
  replace B := B.trans (hb.mono B.size)
  replace hD := hD.keep hb; replace hX := hX.keep hb; replace hA := hA.keep hb; replace hE := hE.keep hb
  clear hb W
  go_wp2_with fail
  refine calls_world (fun W => Below w.heap.size w W ∧ Mds W ∧ Hold W w.heap.size dX ∧ Pnt W ba gX gY false ∧ Pnt W be dX dY false) ⟨B, hD, hX, hA, hE⟩ ?_
  clear B hD hX hA hE 
  rintro W ⟨B, hD, hX, hA, hE⟩
  with_reducible refine (C6.out _ hD).mono ?_
  rintro e w9 ⟨rfl, hb⟩
  replace B := B.trans (hb.mono B.size)
  replace hD := hD.keep hb; replace hX := hX.keep hb; replace hA := hA.keep hb; replace hE := hE.keep hb
  clear hb W
  go_wp2
  simp [bodyPost, results, Tryd.results4, go_sem]
  exact B
end Go.Proofs.YtleneapnjanbbaaDoor

namespace Go.Proofs.YtleneapnjanbbaaDoor
open Go.RowKit Go.Sort

def put9 (W : World) (b : Nat) (x y : Int) (i : Bool) : World := (((((((((W.setCell ⟨b, 0, none⟩ (.int .u64 (l0 x))).setCell ⟨b, 1, none⟩ (.int .u64 (l1 x))).setCell ⟨b, 2, none⟩ (.int .u64 (l2 x))).setCell ⟨b, 3, none⟩ (.int .u64 (l3 x))).setCell ⟨b, 4, none⟩ (.int .u64 (l0 y))).setCell ⟨b, 5, none⟩ (.int .u64 (l1 y))).setCell ⟨b, 6, none⟩ (.int .u64 (l2 y))).setCell ⟨b, 7, none⟩ (.int .u64 (l3 y))).setCell ⟨b, 8, none⟩ (.bool i))
theorem Bk9.put9 {W : World} {b : Nat} (h : Bk9 W b) (x y : Int) (i : Bool) : Pnt (Go.Proofs.YtleneapnjanbbaaDoor.put9 W b x y i) b x y i := by
  obtain ⟨a0, a1, a2, a3, a4, a5, a6, a7, a8⟩ := h.cells
  intro k hk
  have hk' : k < 9 := by simpa using hk
  have hc : k = 0 ∨ k = 1 ∨ k = 2 ∨ k = 3 ∨ k = 4 ∨ k = 5 ∨ k = 6 ∨ k = 7 ∨ k = 8 := by omega
  unfold Go.Proofs.YtleneapnjanbbaaDoor.put9
  rcases hc with rfl | rfl | rfl | rfl | rfl | rfl | rfl | rfl | rfl <;> simp [go_sem, a0, a1, a2, a3, a4, a5, a6, a7, a8]
theorem Pnt.put9 {W : World} {b b' : Nat} {x y x' y' : Int} {i j : Bool} (h : Pnt W b x y i) (ne : b' ≠ b) : Pnt (Go.Proofs.YtleneapnjanbbaaDoor.put9 W b' x' y' j) b x y i := by
  unfold Go.Proofs.YtleneapnjanbbaaDoor.put9
  exact Cl.set (Cl.set (Cl.set (Cl.set (Cl.set (Cl.set (Cl.set (Cl.set (Cl.set (h) ne _) ne _) ne _) ne _) ne _) ne _) ne _) ne _) ne _
theorem Mds.put9 {W : World} {b' : Nat} {x' y' : Int} {j : Bool} (h : Mds W) (ne : b' ≠ 1) : Mds (Go.Proofs.YtleneapnjanbbaaDoor.put9 W b' x' y' j) := by
  unfold Go.Proofs.YtleneapnjanbbaaDoor.put9
  exact (((((((((h.set ne _).set ne _).set ne _).set ne _).set ne _).set ne _).set ne _).set ne _).set ne _)
end Go.Proofs.YtleneapnjanbbaaDoor

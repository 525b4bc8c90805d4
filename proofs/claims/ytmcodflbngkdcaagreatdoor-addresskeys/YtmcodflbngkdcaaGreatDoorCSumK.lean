import Derived.Test.YtmcodflbngkdcaaGreatDoorCPt
import Derived.Test.YtmcodflbngkdcaaGreatDoorFList
import Derived.Test.YtmcodflbngkdcaaGreatDoorFFold
import Derived.Test.YtmcodflbngkdcaaGreatDoorCSq
import Derived.Test.YtmcodflbngkdcaaGreatDoorHold
namespace Go.Proofs.YtmcodflbngkdcaaGreatDoor
open Go.RowKit Go.Sort

/-- A value of type Point. -/
structure PP where
  x : Int
  y : Int
  i : Bool
def PP.pt (q : PP) : EC.Pt := ptOf q.x q.y q.i
/-- Points in a row, from a cell on. -/
def Pts (W : World) (b o : Nat) (L : List PP) : Prop := ∀ i, i < L.length → W.cell? ⟨b, o + i * 9, none⟩ = some (.int .u64 (l0 (L.getD i ⟨0, 0, true⟩).x)) ∧ W.cell? ⟨b, o + i * 9 + 1, none⟩ = some (.int .u64 (l1 (L.getD i ⟨0, 0, true⟩).x)) ∧ W.cell? ⟨b, o + i * 9 + 2, none⟩ = some (.int .u64 (l2 (L.getD i ⟨0, 0, true⟩).x)) ∧ W.cell? ⟨b, o + i * 9 + 3, none⟩ = some (.int .u64 (l3 (L.getD i ⟨0, 0, true⟩).x)) ∧ W.cell? ⟨b, o + i * 9 + 4, none⟩ = some (.int .u64 (l0 (L.getD i ⟨0, 0, true⟩).y)) ∧ W.cell? ⟨b, o + i * 9 + 5, none⟩ = some (.int .u64 (l1 (L.getD i ⟨0, 0, true⟩).y)) ∧ W.cell? ⟨b, o + i * 9 + 6, none⟩ = some (.int .u64 (l2 (L.getD i ⟨0, 0, true⟩).y)) ∧ W.cell? ⟨b, o + i * 9 + 7, none⟩ = some (.int .u64 (l3 (L.getD i ⟨0, 0, true⟩).y)) ∧ W.cell? ⟨b, o + i * 9 + 8, none⟩ = some (.bool (L.getD i ⟨0, 0, true⟩).i)
theorem Pts.keep {W w1 : World} {b o : Nat} {L : List PP} (h : Pts W b o L) (hb : Below W.heap.size W w1) : Pts w1 b o L := fun i hi => by
  obtain ⟨a0, a1, a2, a3, a4, a5, a6, a7, a8⟩ := h i hi
  exact ⟨cell_keep hb a0, cell_keep hb a1, cell_keep hb a2, cell_keep hb a3, cell_keep hb a4, cell_keep hb a5, cell_keep hb a6, cell_keep hb a7, cell_keep hb a8⟩
theorem Pts.alloc {W : World} {b o : Nat} {L : List PP} (h : Pts W b o L) (ob : Obj) : Pts (W.alloc ob) b o L := h.keep ((Below.refl _ _).alloc (Nat.le_refl _) ob)
theorem Pts.set {W : World} {b o b' k : Nat} {L : List PP} (h : Pts W b o L) (ne : b' ≠ b) (v : Value) : Pts (W.setCell ⟨b', k, none⟩ v) b o L := fun i hi => by
  obtain ⟨a0, a1, a2, a3, a4, a5, a6, a7, a8⟩ := h i hi
  exact ⟨cell_far a0 ne, cell_far a1 ne, cell_far a2 ne, cell_far a3 ne, cell_far a4 ne, cell_far a5 ne, cell_far a6 ne, cell_far a7 ne, cell_far a8 ne⟩
/-- Three numbers in a block that may be written. -/
def TV (W : World) (b : Nat) (x y z : Int) : Prop := Thr W b x y z ∧ Loose W b 12
theorem TV.keep {W w1 : World} {b : Nat} {x y z : Int} (h : TV W b x y z) (hb : Below W.heap.size W w1) : TV w1 b x y z := ⟨h.1.keep hb, h.2.keep hb h.1.lt⟩
theorem TV.alloc {W : World} {b : Nat} {x y z : Int} (h : TV W b x y z) (ob : Obj) : TV (W.alloc ob) b x y z := h.keep ((Below.refl _ _).alloc (Nat.le_refl _) ob)
theorem TV.free {W : World} {b : Nat} {x y z : Int} (h : TV W b x y z) : W.frozen? ⟨b, 0, none⟩ = false ∧ W.frozen? ⟨b, 1, none⟩ = false ∧ W.frozen? ⟨b, 2, none⟩ = false ∧ W.frozen? ⟨b, 3, none⟩ = false ∧ W.frozen? ⟨b, 4, none⟩ = false ∧ W.frozen? ⟨b, 5, none⟩ = false ∧ W.frozen? ⟨b, 6, none⟩ = false ∧ W.frozen? ⟨b, 7, none⟩ = false ∧ W.frozen? ⟨b, 8, none⟩ = false ∧ W.frozen? ⟨b, 9, none⟩ = false ∧ W.frozen? ⟨b, 10, none⟩ = false ∧ W.frozen? ⟨b, 11, none⟩ = false := ⟨h.2 0 (by decide), h.2 1 (by decide), h.2 2 (by decide), h.2 3 (by decide), h.2 4 (by decide), h.2 5 (by decide), h.2 6 (by decide), h.2 7 (by decide), h.2 8 (by decide), h.2 9 (by decide), h.2 10 (by decide), h.2 11 (by decide)⟩
def put12 (W : World) (b : Nat) (x' y' z' : Int) : World := ((((((((((((W.setCell ⟨b, 0, none⟩ (.int .u64 (l0 x'))).setCell ⟨b, 1, none⟩ (.int .u64 (l1 x'))).setCell ⟨b, 2, none⟩ (.int .u64 (l2 x'))).setCell ⟨b, 3, none⟩ (.int .u64 (l3 x'))).setCell ⟨b, 4, none⟩ (.int .u64 (l0 y'))).setCell ⟨b, 5, none⟩ (.int .u64 (l1 y'))).setCell ⟨b, 6, none⟩ (.int .u64 (l2 y'))).setCell ⟨b, 7, none⟩ (.int .u64 (l3 y'))).setCell ⟨b, 8, none⟩ (.int .u64 (l0 z'))).setCell ⟨b, 9, none⟩ (.int .u64 (l1 z'))).setCell ⟨b, 10, none⟩ (.int .u64 (l2 z'))).setCell ⟨b, 11, none⟩ (.int .u64 (l3 z')))
theorem TV.put {W : World} {b : Nat} {x y z : Int} (h : TV W b x y z) (x' y' z' : Int) : TV (put12 W b x' y' z') b x' y' z' := by
  have hl : ∀ k, k < 12 → ∀ (W' : World), Loose W' b 12 → True := fun _ _ _ _ => trivial
  clear hl
  refine ⟨?_, ?_⟩
  · obtain ⟨a0, a1, a2, a3, a4, a5, a6, a7, a8, a9, a10, a11⟩ := h.1.cells
    intro k hk
    have hk' : k < 12 := by simpa using hk
    have hc : k = 0 ∨ k = 1 ∨ k = 2 ∨ k = 3 ∨ k = 4 ∨ k = 5 ∨ k = 6 ∨ k = 7 ∨ k = 8 ∨ k = 9 ∨ k = 10 ∨ k = 11 := by omega
    unfold put12
    rcases hc with rfl | rfl | rfl | rfl | rfl | rfl | rfl | rfl | rfl | rfl | rfl | rfl <;> simp [go_sem, a0, a1, a2, a3, a4, a5, a6, a7, a8, a9, a10, a11]
  · unfold put12
    exact ((((((((((((h.2.set _ _).set _ _).set _ _).set _ _).set _ _).set _ _).set _ _).set _ _).set _ _).set _ _).set _ _).set _ _)
theorem Cl.put {W : World} {b b' : Nat} {l : List Value} (h : Cl W b l) (ne : b' ≠ b) (x' y' z' : Int) : Cl (put12 W b' x' y' z') b l := by
  unfold put12
  exact ((((((((((((h.set ne _).set ne _).set ne _).set ne _).set ne _).set ne _).set ne _).set ne _).set ne _).set ne _).set ne _).set ne _)
theorem Bk9.put {W : World} {b b' : Nat} (h : Bk9 W b) (ne : b' ≠ b) (x' y' z' : Int) : Bk9 (put12 W b' x' y' z') b := ⟨h.1.put ne x' y' z', by unfold put12; exact ((((((((((((h.2.set _ _).set _ _).set _ _).set _ _).set _ _).set _ _).set _ _).set _ _).set _ _).set _ _).set _ _).set _ _)⟩
theorem Mds.put {W : World} {b' : Nat} (h : Mds W) (ne : b' ≠ 1) (x' y' z' : Int) : Mds (put12 W b' x' y' z') := by
  unfold put12
  exact ((((((((((((h.set ne _).set ne _).set ne _).set ne _).set ne _).set ne _).set ne _).set ne _).set ne _).set ne _).set ne _).set ne _)
theorem Pts.put {W : World} {b o b' : Nat} {L : List PP} (h : Pts W b o L) (ne : b' ≠ b) (x' y' z' : Int) : Pts (put12 W b' x' y' z') b o L := by
  unfold put12
  exact ((((((((((((h.set ne _).set ne _).set ne _).set ne _).set ne _).set ne _).set ne _).set ne _).set ne _).set ne _).set ne _).set ne _)
theorem below_put {W w : World} {n b : Nat} (h : Below n w W) (hb : n ≤ b) (x' y' z' : Int) : Below n w (put12 W b x' y' z') := by
  unfold put12
  exact ((((((((((((h.setCell hb _).setCell hb _).setCell hb _).setCell hb _).setCell hb _).setCell hb _).setCell hb _).setCell hb _).setCell hb _).setCell hb _).setCell hb _).setCell hb _)

end Go.Proofs.YtmcodflbngkdcaaGreatDoor

namespace Go.Proofs.YtmcodflbngkdcaaGreatDoor
open Go.RowKit Go.Sort

theorem Bk12.tv {W : World} {b : Nat} (h : Bk12 W b) : TV W b 0 0 0 := by
  obtain ⟨z0, z1, z2, z3⟩ := zero_limbs
  refine ⟨?_, h.2⟩
  unfold Thr
  rw [z0, z1, z2, z3]
  exact h.1

end Go.Proofs.YtmcodflbngkdcaaGreatDoor

namespace Go.Proofs.YtmcodflbngkdcaaGreatDoor
open Go.RowKit Go.Sort

theorem con_yes {x y : Int} {i : Bool} (h : Vd x y i) : Hid (∀ w, Mds w → Calls Tryz.prog 58 #[.agg #[.int .u64 (l0 x), .int .u64 (l1 x), .int .u64 (l2 x), .int .u64 (l3 x), .int .u64 (l0 y), .int .u64 (l1 y), .int .u64 (l2 y), .int .u64 (l3 y), .bool i]] w fun e w' => e = .returned (.bool true) ∧ Below w.heap.size w w') := fun w hm => by
  have := con_any (i := i) h.low.1.num h.low.2.num w hm
  rw [decide_eq_true h] at this; exact this
def gX : Int := 55066263022277343669578718895168534326250603453777594175500187360389116729240
def gY : Int := 32670510020758816978083085130507043184471273380659243275938904335757337482424
/-- Where the table holds the base point. -/
def Gat (W : World) : Prop := W.cell? ⟨0, 9, none⟩ = some (.int .u64 6481385041966929816) ∧ W.cell? ⟨0, 10, none⟩ = some (.int .u64 188021827762530521) ∧ W.cell? ⟨0, 11, none⟩ = some (.int .u64 6170039885052185351) ∧ W.cell? ⟨0, 12, none⟩ = some (.int .u64 8772561819708210092) ∧ W.cell? ⟨0, 13, none⟩ = some (.int .u64 11261198710074299576) ∧ W.cell? ⟨0, 14, none⟩ = some (.int .u64 18237243440184513561) ∧ W.cell? ⟨0, 15, none⟩ = some (.int .u64 6747795201694173352) ∧ W.cell? ⟨0, 16, none⟩ = some (.int .u64 5204712524664259685) ∧ W.cell? ⟨0, 17, none⟩ = some (.bool false)
theorem Gat.keep {W w1 : World} (h : Gat W) (hb : Below W.heap.size W w1) : Gat w1 := by
  obtain ⟨a0, a1, a2, a3, a4, a5, a6, a7, a8⟩ := h
  exact ⟨cell_keep hb a0, cell_keep hb a1, cell_keep hb a2, cell_keep hb a3, cell_keep hb a4, cell_keep hb a5, cell_keep hb a6, cell_keep hb a7, cell_keep hb a8⟩
theorem Gat.alloc {W : World} (h : Gat W) (ob : Obj) : Gat (W.alloc ob) := h.keep ((Below.refl _ _).alloc (Nat.le_refl _) ob)
theorem g_limbs : l0 gX = 6481385041966929816 ∧ l1 gX = 188021827762530521 ∧ l2 gX = 6170039885052185351 ∧ l3 gX = 8772561819708210092 ∧ l0 gY = 11261198710074299576 ∧ l1 gY = 18237243440184513561 ∧ l2 gY = 6747795201694173352 ∧ l3 gY = 5204712524664259685 := by decide
theorem g_valid : Vd gX gY false := ⟨⟨by decide, by decide⟩, ⟨by decide, by decide⟩, by show EC.fp gY * EC.fp gY = EC.fp gX * EC.fp gX * EC.fp gX + 7; decide +kernel⟩
end Go.Proofs.YtmcodflbngkdcaaGreatDoor

namespace Go.Proofs.YtmcodflbngkdcaaGreatDoor
open Go.RowKit Go.Sort
theorem fp_cast (u : EC.F) : EC.fp (u.val : Int) = u := by
  apply Fin.ext
  rw [EC.fp_val]
  have := u.isLt
  omega
/-- Every point has its value. -/
theorem rep_pt {p : EC.Pt} (h : EC.On p) : ∃ x y i, Vd x y i ∧ ptOf x y i = p := by
  cases p with
  | o => exact ⟨0, 0, true, ⟨rfl, rfl⟩, rfl⟩
  | a u v =>
    have e : ptOf (u.val : Int) (v.val : Int) false = .a u v := by
      show EC.Pt.a _ _ = _
      rw [fp_cast, fp_cast]
    exact ⟨u.val, v.val, false, ⟨EC.fp_low u, EC.fp_low v, by rw [e]; exact h⟩, e⟩
theorem con_no {x y : Int} {i : Bool} (hx : Num x) (hy : Num y) (h : ¬ Vd x y i) : Hid (∀ w, Mds w → Calls Tryz.prog 58 #[.agg #[.int .u64 (l0 x), .int .u64 (l1 x), .int .u64 (l2 x), .int .u64 (l3 x), .int .u64 (l0 y), .int .u64 (l1 y), .int .u64 (l2 y), .int .u64 (l3 y), .bool i]] w fun e w' => e = .returned (.bool false) ∧ Below w.heap.size w w') := fun w hm => by
  have := con_any (i := i) hx hy w hm
  rw [decide_eq_false h] at this; exact this
end Go.Proofs.YtmcodflbngkdcaaGreatDoor

namespace Go.Proofs.YtmcodflbngkdcaaGreatDoor
open Go.RowKit Go.Sort

end Go.Proofs.YtmcodflbngkdcaaGreatDoor

namespace Go.Proofs.YtmcodflbngkdcaaGreatDoor
open Go.RowKit Go.Sort

def put9 (W : World) (b : Nat) (x y : Int) (i : Bool) : World := (((((((((W.setCell ⟨b, 0, none⟩ (.int .u64 (l0 x))).setCell ⟨b, 1, none⟩ (.int .u64 (l1 x))).setCell ⟨b, 2, none⟩ (.int .u64 (l2 x))).setCell ⟨b, 3, none⟩ (.int .u64 (l3 x))).setCell ⟨b, 4, none⟩ (.int .u64 (l0 y))).setCell ⟨b, 5, none⟩ (.int .u64 (l1 y))).setCell ⟨b, 6, none⟩ (.int .u64 (l2 y))).setCell ⟨b, 7, none⟩ (.int .u64 (l3 y))).setCell ⟨b, 8, none⟩ (.bool i))
theorem Bk9.put9 {W : World} {b : Nat} (h : Bk9 W b) (x y : Int) (i : Bool) : Pnt (Go.Proofs.YtmcodflbngkdcaaGreatDoor.put9 W b x y i) b x y i := by
  obtain ⟨a0, a1, a2, a3, a4, a5, a6, a7, a8⟩ := h.cells
  intro k hk
  have hk' : k < 9 := by simpa using hk
  have hc : k = 0 ∨ k = 1 ∨ k = 2 ∨ k = 3 ∨ k = 4 ∨ k = 5 ∨ k = 6 ∨ k = 7 ∨ k = 8 := by omega
  unfold Go.Proofs.YtmcodflbngkdcaaGreatDoor.put9
  rcases hc with rfl | rfl | rfl | rfl | rfl | rfl | rfl | rfl | rfl <;> simp [go_sem, a0, a1, a2, a3, a4, a5, a6, a7, a8]
theorem Pnt.put9 {W : World} {b b' : Nat} {x y x' y' : Int} {i j : Bool} (h : Pnt W b x y i) (ne : b' ≠ b) : Pnt (Go.Proofs.YtmcodflbngkdcaaGreatDoor.put9 W b' x' y' j) b x y i := by
  unfold Go.Proofs.YtmcodflbngkdcaaGreatDoor.put9
  exact Cl.set (Cl.set (Cl.set (Cl.set (Cl.set (Cl.set (Cl.set (Cl.set (Cl.set (h) ne _) ne _) ne _) ne _) ne _) ne _) ne _) ne _) ne _
theorem Mds.put9 {W : World} {b' : Nat} {x' y' : Int} {j : Bool} (h : Mds W) (ne : b' ≠ 1) : Mds (Go.Proofs.YtmcodflbngkdcaaGreatDoor.put9 W b' x' y' j) := by
  unfold Go.Proofs.YtmcodflbngkdcaaGreatDoor.put9
  exact (((((((((h.set ne _).set ne _).set ne _).set ne _).set ne _).set ne _).set ne _).set ne _).set ne _)
end Go.Proofs.YtmcodflbngkdcaaGreatDoor

namespace Go.Proofs.YtmcodflbngkdcaaGreatDoor
open Go.RowKit Go.Sort

set_option maxRecDepth 100000 in
set_option maxHeartbeats 4000000 in
theorem r5times_walk {n x r : Int} (C1 : Hid (∀ w, Calls Tryz.prog 74 #[.int .u64 n] w fun e w' => e = .returned (.agg #[.int .u64 (l0 n), .int .u64 (l1 n), .int .u64 (l2 n), .int .u64 (l3 n)]) ∧ Below w.heap.size w w')) (C2 : Hid (∀ w, Calls Tryz.prog 45 #[.agg #[.int .u64 (l0 n), .int .u64 (l1 n), .int .u64 (l2 n), .int .u64 (l3 n)], .agg #[.int .u64 (l0 x), .int .u64 (l1 x), .int .u64 (l2 x), .int .u64 (l3 x)]] w fun e w' => e = .returned (.agg #[.int .u64 (l0 r), .int .u64 (l1 r), .int .u64 (l2 r), .int .u64 (l3 r)]) ∧ Below w.heap.size w w')) (w : World) :
    Calls Tryz.prog 77 #[.int .u64 n, .agg #[.int .u64 (l0 x), .int .u64 (l1 x), .int .u64 (l2 x), .int .u64 (l3 x)]] w fun e w' => e = .returned (.agg #[.int .u64 (l0 r), .int .u64 (l1 r), .int .u64 (l2 r), .int .u64 (l3 r)]) ∧ Below w.heap.size w w' := by
  go_enter Tryz.func77, Tryz.ntmps77
  go_wp2_with fail
  refine wp_world (fun W => Below w.heap.size w W ∧ Hold W w.heap.size x ∧ Blank W (w.heap.size + 1)) ⟨by repeat (first | with_reducible exact Below.refl _ _ | with_reducible refine Below.alloc ?_ (by first | omega | (simp; done) | (simp; omega)) _), (Hold.new _ _ _).alloc _, Blank.new (by simp)⟩ ?_
  rintro W ⟨B, hX, hR⟩
  have o3 : w.heap.size ≤ w.heap.size + 1 := by omega
  generalize w.heap.size + 1 = br at *
  have ghX := hX.grown
  refine below_tail 4 (by kernel_rfl) (by kernel_rfl) ?_
  simp only [List.take_succ_cons, List.take_zero, List.drop_succ_cons, List.drop_zero]
  repeat
    first
      | go_big_quiet_skip
      | (go_big_quiet_want; go_big_quiet_op; go_big_quiet_on)
      | (go_big_quiet_want
         go_big_quiet_op
         apply Exists.intro
         refine ⟨fun p => ?_, ?_⟩
         · (first | (go_at_call 74; with_reducible exact Calls.regrown_of (C1.out _)) | (go_at_call 45; with_reducible exact Calls.regrown_of (C2.out _)))
         go_big_quiet_on)
  refine wpQuiet_nil ?_
  rintro w1 ⟨p, rfl⟩
  have hb := below_regrown W p.d p.os
  generalize grow (redrawn W p.d) p.os = w1 at *
  replace B := B.trans (hb.mono B.size)
  replace hX := hX.keep hb; replace hR := hR.keep hb
  clear hb W ghX 
  clear hX
  have gR := hR.1.all4; have fR := hR.2.all4
  go_wp2
  simp [bodyPost, results, Tryz.results77, go_sem, *]
  repeat (first | with_reducible exact B | with_reducible refine Below.setCell ?_ o3 _)

set_option maxRecDepth 100000 in
set_option maxHeartbeats 4000000 in
theorem r5three_id {x y : Int} (w : World) :
    Calls Tryz.prog 46 #[.agg #[.int .u64 (l0 x), .int .u64 (l1 x), .int .u64 (l2 x), .int .u64 (l3 x), .int .u64 (l0 y), .int .u64 (l1 y), .int .u64 (l2 y), .int .u64 (l3 y), .bool true]] w fun e w' => e = .returned (.agg #[.int .u64 (l0 0), .int .u64 (l1 0), .int .u64 (l2 0), .int .u64 (l3 0), .int .u64 (l0 0), .int .u64 (l1 0), .int .u64 (l2 0), .int .u64 (l3 0), .int .u64 (l0 0), .int .u64 (l1 0), .int .u64 (l2 0), .int .u64 (l3 0)]) ∧ Below w.heap.size w w' := by
  obtain ⟨z0, z1, z2, z3⟩ := zero_limbs
  rw [z0, z1, z2, z3]
  go_enter Tryz.func46, Tryz.ntmps46
  go_wp2
  simp [bodyPost, results, Tryz.results46, go_sem]
  repeat (first | with_reducible exact Below.refl _ _ | with_reducible refine Below.alloc ?_ (by first | omega | (simp; done) | (simp; omega)) _ | with_reducible refine Below.setCell ?_ (by first | omega | (simp; done) | (simp; omega)) _)

set_option maxRecDepth 100000 in
set_option maxHeartbeats 4000000 in
theorem r5three_pt {x y : Int} (C1 : Hid (∀ w, Calls Tryz.prog 74 #[.int .u64 1] w fun e w' => e = .returned (.agg #[.int .u64 (l0 1), .int .u64 (l1 1), .int .u64 (l2 1), .int .u64 (l3 1)]) ∧ Below w.heap.size w w')) (w : World) :
    Calls Tryz.prog 46 #[.agg #[.int .u64 (l0 x), .int .u64 (l1 x), .int .u64 (l2 x), .int .u64 (l3 x), .int .u64 (l0 y), .int .u64 (l1 y), .int .u64 (l2 y), .int .u64 (l3 y), .bool false]] w fun e w' => e = .returned (.agg #[.int .u64 (l0 x), .int .u64 (l1 x), .int .u64 (l2 x), .int .u64 (l3 x), .int .u64 (l0 y), .int .u64 (l1 y), .int .u64 (l2 y), .int .u64 (l3 y), .int .u64 (l0 1), .int .u64 (l1 1), .int .u64 (l2 1), .int .u64 (l3 1)]) ∧ Below w.heap.size w w' := by
  go_enter Tryz.func46, Tryz.ntmps46
  go_wp2_with fail
  refine wp_world (fun W => Below w.heap.size w W ∧ Pnt W w.heap.size x y false ∧ Bk12 W (w.heap.size + 1)) ⟨by repeat (first | with_reducible exact Below.refl _ _ | with_reducible refine Below.alloc ?_ (by first | omega | (simp; done) | (simp; omega)) _), (Pnt.new rfl).alloc _, Bk12.new (by simp)⟩ ?_
  rintro W ⟨B, hP, hR⟩
  have o3 : w.heap.size ≤ w.heap.size + 1 := by omega
  generalize w.heap.size + 1 = br at *
  have ghP := hP.grown
  refine below_tail 6 (by kernel_rfl) (by kernel_rfl) ?_
  simp only [List.take_succ_cons, List.take_zero, List.drop_succ_cons, List.drop_zero]
  repeat
    first
      | go_big_quiet_skip
      | (go_big_quiet_want; go_big_quiet_op; go_big_quiet_on)
      | (go_big_quiet_want
         go_big_quiet_op
         apply Exists.intro
         refine ⟨fun p => ?_, ?_⟩
         · (first | (go_at_call 74; with_reducible exact Calls.regrown_of (C1.out _)))
         go_big_quiet_on)
  refine wpQuiet_nil ?_
  rintro w1 ⟨p, rfl⟩
  have hb := below_regrown W p.d p.os
  generalize grow (redrawn W p.d) p.os = w1 at *
  replace B := B.trans (hb.mono B.size)
  replace hP := hP.keep hb; replace hR := hR.keep hb
  clear hb W ghP 
  clear hP
  have gR := hR.cells; have fR := hR.free
  go_wp2
  simp [bodyPost, results, Tryz.results46, go_sem, gR]
  repeat (first | with_reducible exact B | with_reducible refine Below.setCell ?_ o3 _)

set_option maxRecDepth 100000 in
set_option maxHeartbeats 16000000 in
theorem r5twice_walk {x y z a f s c m h k u q n b1 b2 v e1 r : Int}
    (C1 : Hid (∀ w, Calls Tryz.prog 45 #[.agg #[.int .u64 (l0 y), .int .u64 (l1 y), .int .u64 (l2 y), .int .u64 (l3 y)], .agg #[.int .u64 (l0 y), .int .u64 (l1 y), .int .u64 (l2 y), .int .u64 (l3 y)]] w fun e w' => e = .returned (.agg #[.int .u64 (l0 a), .int .u64 (l1 a), .int .u64 (l2 a), .int .u64 (l3 a)]) ∧ Below w.heap.size w w'))
    (C2 : Hid (∀ w, Calls Tryz.prog 45 #[.agg #[.int .u64 (l0 x), .int .u64 (l1 x), .int .u64 (l2 x), .int .u64 (l3 x)], .agg #[.int .u64 (l0 a), .int .u64 (l1 a), .int .u64 (l2 a), .int .u64 (l3 a)]] w fun e w' => e = .returned (.agg #[.int .u64 (l0 f), .int .u64 (l1 f), .int .u64 (l2 f), .int .u64 (l3 f)]) ∧ Below w.heap.size w w'))
    (C3 : Hid (∀ w, Calls Tryz.prog 77 #[.int .u64 4, .agg #[.int .u64 (l0 f), .int .u64 (l1 f), .int .u64 (l2 f), .int .u64 (l3 f)]] w fun e w' => e = .returned (.agg #[.int .u64 (l0 s), .int .u64 (l1 s), .int .u64 (l2 s), .int .u64 (l3 s)]) ∧ Below w.heap.size w w'))
    (C4 : Hid (∀ w, Calls Tryz.prog 45 #[.agg #[.int .u64 (l0 x), .int .u64 (l1 x), .int .u64 (l2 x), .int .u64 (l3 x)], .agg #[.int .u64 (l0 x), .int .u64 (l1 x), .int .u64 (l2 x), .int .u64 (l3 x)]] w fun e w' => e = .returned (.agg #[.int .u64 (l0 c), .int .u64 (l1 c), .int .u64 (l2 c), .int .u64 (l3 c)]) ∧ Below w.heap.size w w'))
    (C5 : Hid (∀ w, Calls Tryz.prog 77 #[.int .u64 3, .agg #[.int .u64 (l0 c), .int .u64 (l1 c), .int .u64 (l2 c), .int .u64 (l3 c)]] w fun e w' => e = .returned (.agg #[.int .u64 (l0 m), .int .u64 (l1 m), .int .u64 (l2 m), .int .u64 (l3 m)]) ∧ Below w.heap.size w w'))
    (C6 : Hid (∀ w, Calls Tryz.prog 45 #[.agg #[.int .u64 (l0 m), .int .u64 (l1 m), .int .u64 (l2 m), .int .u64 (l3 m)], .agg #[.int .u64 (l0 m), .int .u64 (l1 m), .int .u64 (l2 m), .int .u64 (l3 m)]] w fun e w' => e = .returned (.agg #[.int .u64 (l0 h), .int .u64 (l1 h), .int .u64 (l2 h), .int .u64 (l3 h)]) ∧ Below w.heap.size w w'))
    (C7 : Hid (∀ w, Calls Tryz.prog 77 #[.int .u64 2, .agg #[.int .u64 (l0 s), .int .u64 (l1 s), .int .u64 (l2 s), .int .u64 (l3 s)]] w fun e w' => e = .returned (.agg #[.int .u64 (l0 k), .int .u64 (l1 k), .int .u64 (l2 k), .int .u64 (l3 k)]) ∧ Below w.heap.size w w'))
    (C8 : Hid (∀ w, Calls Tryz.prog 78 #[.agg #[.int .u64 (l0 h), .int .u64 (l1 h), .int .u64 (l2 h), .int .u64 (l3 h)], .agg #[.int .u64 (l0 k), .int .u64 (l1 k), .int .u64 (l2 k), .int .u64 (l3 k)]] w fun e w' => e = .returned (.agg #[.int .u64 (l0 u), .int .u64 (l1 u), .int .u64 (l2 u), .int .u64 (l3 u)]) ∧ Below w.heap.size w w'))
    (C9 : Hid (∀ w, Calls Tryz.prog 78 #[.agg #[.int .u64 (l0 s), .int .u64 (l1 s), .int .u64 (l2 s), .int .u64 (l3 s)], .agg #[.int .u64 (l0 u), .int .u64 (l1 u), .int .u64 (l2 u), .int .u64 (l3 u)]] w fun e w' => e = .returned (.agg #[.int .u64 (l0 q), .int .u64 (l1 q), .int .u64 (l2 q), .int .u64 (l3 q)]) ∧ Below w.heap.size w w'))
    (C10 : Hid (∀ w, Calls Tryz.prog 45 #[.agg #[.int .u64 (l0 m), .int .u64 (l1 m), .int .u64 (l2 m), .int .u64 (l3 m)], .agg #[.int .u64 (l0 q), .int .u64 (l1 q), .int .u64 (l2 q), .int .u64 (l3 q)]] w fun e w' => e = .returned (.agg #[.int .u64 (l0 n), .int .u64 (l1 n), .int .u64 (l2 n), .int .u64 (l3 n)]) ∧ Below w.heap.size w w'))
    (C11 : Hid (∀ w, Calls Tryz.prog 45 #[.agg #[.int .u64 (l0 a), .int .u64 (l1 a), .int .u64 (l2 a), .int .u64 (l3 a)], .agg #[.int .u64 (l0 a), .int .u64 (l1 a), .int .u64 (l2 a), .int .u64 (l3 a)]] w fun e w' => e = .returned (.agg #[.int .u64 (l0 b1), .int .u64 (l1 b1), .int .u64 (l2 b1), .int .u64 (l3 b1)]) ∧ Below w.heap.size w w'))
    (C12 : Hid (∀ w, Calls Tryz.prog 77 #[.int .u64 8, .agg #[.int .u64 (l0 b1), .int .u64 (l1 b1), .int .u64 (l2 b1), .int .u64 (l3 b1)]] w fun e w' => e = .returned (.agg #[.int .u64 (l0 b2), .int .u64 (l1 b2), .int .u64 (l2 b2), .int .u64 (l3 b2)]) ∧ Below w.heap.size w w'))
    (C13 : Hid (∀ w, Calls Tryz.prog 78 #[.agg #[.int .u64 (l0 n), .int .u64 (l1 n), .int .u64 (l2 n), .int .u64 (l3 n)], .agg #[.int .u64 (l0 b2), .int .u64 (l1 b2), .int .u64 (l2 b2), .int .u64 (l3 b2)]] w fun e w' => e = .returned (.agg #[.int .u64 (l0 v), .int .u64 (l1 v), .int .u64 (l2 v), .int .u64 (l3 v)]) ∧ Below w.heap.size w w'))
    (C14 : Hid (∀ w, Calls Tryz.prog 45 #[.agg #[.int .u64 (l0 y), .int .u64 (l1 y), .int .u64 (l2 y), .int .u64 (l3 y)], .agg #[.int .u64 (l0 z), .int .u64 (l1 z), .int .u64 (l2 z), .int .u64 (l3 z)]] w fun e w' => e = .returned (.agg #[.int .u64 (l0 e1), .int .u64 (l1 e1), .int .u64 (l2 e1), .int .u64 (l3 e1)]) ∧ Below w.heap.size w w'))
    (C15 : Hid (∀ w, Calls Tryz.prog 77 #[.int .u64 2, .agg #[.int .u64 (l0 e1), .int .u64 (l1 e1), .int .u64 (l2 e1), .int .u64 (l3 e1)]] w fun e w' => e = .returned (.agg #[.int .u64 (l0 r), .int .u64 (l1 r), .int .u64 (l2 r), .int .u64 (l3 r)]) ∧ Below w.heap.size w w'))
    (w : World) :
    Calls Tryz.prog 47 #[.agg #[.int .u64 (l0 x), .int .u64 (l1 x), .int .u64 (l2 x), .int .u64 (l3 x), .int .u64 (l0 y), .int .u64 (l1 y), .int .u64 (l2 y), .int .u64 (l3 y), .int .u64 (l0 z), .int .u64 (l1 z), .int .u64 (l2 z), .int .u64 (l3 z)]] w fun e w' => e = .returned (.agg #[.int .u64 (l0 u), .int .u64 (l1 u), .int .u64 (l2 u), .int .u64 (l3 u), .int .u64 (l0 v), .int .u64 (l1 v), .int .u64 (l2 v), .int .u64 (l3 v), .int .u64 (l0 r), .int .u64 (l1 r), .int .u64 (l2 r), .int .u64 (l3 r)]) ∧ Below w.heap.size w w' := by
  go_enter Tryz.func47, Tryz.ntmps47
  go_wp2_with fail
  refine calls_world (fun W => Below w.heap.size w W ∧ Thr W w.heap.size x y z ∧ Bk12 W (w.heap.size + 1)) ⟨by repeat (first | with_reducible exact Below.refl _ _ | with_reducible refine Below.alloc ?_ (by first | omega | (simp; done) | (simp; omega)) _), (Thr.new rfl).alloc _, Bk12.new (by simp)⟩ ?_
  rintro W ⟨B, hT, hR⟩
  have o3 : w.heap.size ≤ w.heap.size + 1 := by omega
  generalize w.heap.size + 1 = br at *
  with_reducible refine (C1.out _).mono ?_
  rintro e w1 ⟨rfl, hb⟩
  replace B := B.trans (hb.mono B.size)
  replace hT := hT.keep hb; replace hR := hR.keep hb
  clear hb W
  have ghT := fun o => (hT.alloc o).cells
  go_wp2_with fail
  refine calls_world (fun W => Below w.heap.size w W ∧ Thr W w.heap.size x y z ∧ Bk12 W br ∧ Hold W w1.heap.size a) ⟨B.alloc B.size _, hT.alloc _, hR.alloc _, Hold.new _ _ _⟩ ?_
  clear B hT hR ghT
  rintro W ⟨B, hT, hR, hA⟩
  generalize w1.heap.size = ba at *
  with_reducible refine (C2.out _).mono ?_
  rintro e w2 ⟨rfl, hb⟩
  replace B := B.trans (hb.mono B.size)
  replace hT := hT.keep hb; replace hR := hR.keep hb; replace hA := hA.keep hb
  clear hb W
  go_wp2_with fail
  refine calls_world (fun W => Below w.heap.size w W ∧ Thr W w.heap.size x y z ∧ Bk12 W br ∧ Hold W ba a) ⟨B, hT, hR, hA⟩ ?_
  clear B hT hR hA 
  rintro W ⟨B, hT, hR, hA⟩
  with_reducible refine (C3.out _).mono ?_
  rintro e w3 ⟨rfl, hb⟩
  replace B := B.trans (hb.mono B.size)
  replace hT := hT.keep hb; replace hR := hR.keep hb; replace hA := hA.keep hb
  clear hb W
  have ghT := fun o => (hT.alloc o).cells
  go_wp2_with fail
  refine calls_world (fun W => Below w.heap.size w W ∧ Thr W w.heap.size x y z ∧ Bk12 W br ∧ Hold W ba a ∧ Hold W w3.heap.size s) ⟨B.alloc B.size _, hT.alloc _, hR.alloc _, hA.alloc _, Hold.new _ _ _⟩ ?_
  clear B hT hR hA ghT
  rintro W ⟨B, hT, hR, hA, hS⟩
  generalize w3.heap.size = bs at *
  with_reducible refine (C4.out _).mono ?_
  rintro e w4 ⟨rfl, hb⟩
  replace B := B.trans (hb.mono B.size)
  replace hT := hT.keep hb; replace hR := hR.keep hb; replace hA := hA.keep hb; replace hS := hS.keep hb
  clear hb W
  go_wp2_with fail
  refine calls_world (fun W => Below w.heap.size w W ∧ Thr W w.heap.size x y z ∧ Bk12 W br ∧ Hold W ba a ∧ Hold W bs s) ⟨B, hT, hR, hA, hS⟩ ?_
  clear B hT hR hA hS 
  rintro W ⟨B, hT, hR, hA, hS⟩
  with_reducible refine (C5.out _).mono ?_
  rintro e w5 ⟨rfl, hb⟩
  replace B := B.trans (hb.mono B.size)
  replace hT := hT.keep hb; replace hR := hR.keep hb; replace hA := hA.keep hb; replace hS := hS.keep hb
  clear hb W
  go_wp2_with fail
  refine wp_world (fun W => Below w.heap.size w W ∧ Thr W w.heap.size x y z ∧ Bk12 W br ∧ Hold W ba a ∧ Hold W bs s ∧ Hold W w5.heap.size m) ⟨B.alloc B.size _, hT.alloc _, hR.alloc _, hA.alloc _, hS.alloc _, Hold.new _ _ _⟩ ?_
  clear B hT hR hA hS 
  rintro W ⟨B, hT, hR, hA, hS, hM⟩
  generalize w5.heap.size = bm at *
  refine alloc_tail (A := ?AA1) 6 (by kernel_rfl) (by kernel_rfl) rfl rfl (alloc_num _ _ _) (fun V hV => ?HH1) (fun V w1 hV hw => ?TT1)
  case HH1 =>
    have ghS := (hS.keep hV).grown
    have ghM := (hM.keep hV).grown
    unfold Gr
    simp only [List.take_succ_cons, List.take_zero]
    repeat
      first
        | go_big_quiet_skip
        | (go_big_quiet_want; go_big_quiet_op; go_big_quiet_on)
        | (go_big_quiet_want
           go_big_quiet_op
           apply Exists.intro
           refine ⟨fun p => ?_, ?_⟩
           · (first | (go_at_call 45; with_reducible exact Calls.regrown_of (C6.out _)) | (go_at_call 77; with_reducible exact Calls.regrown_of (C7.out _)) | (go_at_call 78; with_reducible exact Calls.regrown_of (C8.out _)))
           go_big_quiet_on)
    refine wpQuiet_nil ?_
    exact rfl
  case TT1 =>
    have hb := alloc_below hV hw
    have hN := (Blank.new rfl).keep hw
    have nhT : V.heap.size ≠ w.heap.size := Nat.ne_of_gt (Nat.lt_of_lt_of_le (hT.lt) hV.size)
    have nhR : V.heap.size ≠ br := Nat.ne_of_gt (Nat.lt_of_lt_of_le (hR.lt) hV.size)
    have nhA : V.heap.size ≠ ba := Nat.ne_of_gt (Nat.lt_of_lt_of_le (World.block_lt_of_cell? _ _ hA.1) hV.size)
    have nhS : V.heap.size ≠ bs := Nat.ne_of_gt (Nat.lt_of_lt_of_le (World.block_lt_of_cell? _ _ hS.1) hV.size)
    have nhM : V.heap.size ≠ bm := Nat.ne_of_gt (Nat.lt_of_lt_of_le (World.block_lt_of_cell? _ _ hM.1) hV.size)
    have gn : w.heap.size ≤ V.heap.size := Nat.le_trans B.size hV.size
    replace B := B.trans (hb.mono B.size)
    replace hT := hT.keep hb; replace hR := hR.keep hb; replace hA := hA.keep hb; replace hS := hS.keep hb; replace hM := hM.keep hb
    clear hb hw hV W
    generalize V.heap.size = bu at *
    clear V
    have gN := hN.1.all4; have qN := hN.2.all4
    have mhT := nhT.symm
    have mhR := nhR.symm
    have mhA := nhA.symm
    have mhS := nhS.symm
    have mhM := nhM.symm
    simp only [List.drop_succ_cons, List.drop_zero, Act.put, List.setIfInBounds_toArray, List.set_cons_zero, List.set_cons_succ]
    go_wp2_with fail
    refine wp_world (fun W => Below w.heap.size w W ∧ Thr W w.heap.size x y z ∧ Bk12 W br ∧ Hold W ba a ∧ Hold W bs s ∧ Hold W bm m ∧ Hold W bu u) ⟨below_set4 B gn _ _ _ _, hT.set4 nhT _ _ _ _, hR.set4 nhR _ _ _ _, hA.set4 nhA _ _ _ _, hS.set4 nhS _ _ _ _, hM.set4 nhM _ _ _ _, Hold.sets4 (Blank.has hN)⟩ ?_
    clear B hN gN qN hT hR hA hS hM nhT mhT nhR mhR nhA mhA nhS mhS nhM mhM  gn
    rintro W ⟨B, hT, hR, hA, hS, hM, hU⟩
    clear w1
    refine alloc_tail (A := ?AA2) 10 (by kernel_rfl) (by kernel_rfl) rfl rfl (alloc_num _ _ _) (fun V hV => ?HH2) (fun V w1 hV hw => ?TT2)
    case HH2 =>
      have ghA := (hA.keep hV).grown
      have ghS := (hS.keep hV).grown
      have ghM := (hM.keep hV).grown
      have ghU := (hU.keep hV).grown
      unfold Gr
      simp only [List.take_succ_cons, List.take_zero]
      repeat
        first
          | go_big_quiet_skip
          | (go_big_quiet_want; go_big_quiet_op; go_big_quiet_on)
          | (go_big_quiet_want
             go_big_quiet_op
             apply Exists.intro
             refine ⟨fun p => ?_, ?_⟩
             · (first | (go_at_call 78; with_reducible exact Calls.regrown_of (C9.out _)) | (go_at_call 45; with_reducible exact Calls.regrown_of (C10.out _)) | (go_at_call 45; with_reducible exact Calls.regrown_of (C11.out _)) | (go_at_call 77; with_reducible exact Calls.regrown_of (C12.out _)) | (go_at_call 78; with_reducible exact Calls.regrown_of (C13.out _)))
             go_big_quiet_on)
      refine wpQuiet_nil ?_
      exact rfl
    case TT2 =>
      have hb := alloc_below hV hw
      have hN := (Blank.new rfl).keep hw
      have nhT : V.heap.size ≠ w.heap.size := Nat.ne_of_gt (Nat.lt_of_lt_of_le (hT.lt) hV.size)
      have nhR : V.heap.size ≠ br := Nat.ne_of_gt (Nat.lt_of_lt_of_le (hR.lt) hV.size)
      have nhA : V.heap.size ≠ ba := Nat.ne_of_gt (Nat.lt_of_lt_of_le (World.block_lt_of_cell? _ _ hA.1) hV.size)
      have nhS : V.heap.size ≠ bs := Nat.ne_of_gt (Nat.lt_of_lt_of_le (World.block_lt_of_cell? _ _ hS.1) hV.size)
      have nhM : V.heap.size ≠ bm := Nat.ne_of_gt (Nat.lt_of_lt_of_le (World.block_lt_of_cell? _ _ hM.1) hV.size)
      have nhU : V.heap.size ≠ bu := Nat.ne_of_gt (Nat.lt_of_lt_of_le (World.block_lt_of_cell? _ _ hU.1) hV.size)
      have gn : w.heap.size ≤ V.heap.size := Nat.le_trans B.size hV.size
      replace B := B.trans (hb.mono B.size)
      replace hT := hT.keep hb; replace hR := hR.keep hb; replace hA := hA.keep hb; replace hS := hS.keep hb; replace hM := hM.keep hb; replace hU := hU.keep hb
      clear hb hw hV W
      generalize V.heap.size = bv at *
      clear V
      have gN := hN.1.all4; have qN := hN.2.all4
      have ghT := hT.cells
      have mhT := nhT.symm
      have mhR := nhR.symm
      have mhA := nhA.symm
      have mhS := nhS.symm
      have mhM := nhM.symm
      have mhU := nhU.symm
      simp only [List.drop_succ_cons, List.drop_zero, Act.put, List.setIfInBounds_toArray, List.set_cons_zero, List.set_cons_succ]
      go_wp2_with fail
      refine calls_world (fun W => Below w.heap.size w W ∧ Thr W w.heap.size x y z ∧ Bk12 W br ∧ Hold W ba a ∧ Hold W bs s ∧ Hold W bm m ∧ Hold W bu u ∧ Hold W bv v) ⟨below_set4 B gn _ _ _ _, hT.set4 nhT _ _ _ _, hR.set4 nhR _ _ _ _, hA.set4 nhA _ _ _ _, hS.set4 nhS _ _ _ _, hM.set4 nhM _ _ _ _, hU.set4 nhU _ _ _ _, Hold.sets4 (Blank.has hN)⟩ ?_
      clear B hN gN qN hT hR hA hS hM hU nhT mhT nhR mhR nhA mhA nhS mhS nhM mhM nhU mhU ghT gn
      rintro W ⟨B, hT, hR, hA, hS, hM, hU, hV1⟩
      clear w1
      clear hA hS hM
      with_reducible refine (C14.out _).mono ?_
      rintro e w6 ⟨rfl, hb⟩
      replace B := B.trans (hb.mono B.size)
      replace hT := hT.keep hb; replace hR := hR.keep hb; replace hU := hU.keep hb; replace hV1 := hV1.keep hb
      clear hb W
      go_wp2_with fail
      refine calls_world (fun W => Below w.heap.size w W ∧ Thr W w.heap.size x y z ∧ Bk12 W br ∧ Hold W bu u ∧ Hold W bv v) ⟨B, hT, hR, hU, hV1⟩ ?_
      clear B hT hR hU hV1 
      rintro W ⟨B, hT, hR, hU, hV1⟩
      with_reducible refine (C15.out _).mono ?_
      rintro e w9 ⟨rfl, hb⟩
      replace B := B.trans (hb.mono B.size)
      replace hT := hT.keep hb; replace hR := hR.keep hb; replace hU := hU.keep hb; replace hV1 := hV1.keep hb
      clear hb W hT
      have gU := hU.allocs; have gV := hV1.allocs
      have nr : w9.heap.size ≠ br := by have := hR.lt; omega
      have nr2 := nr.symm
      have gR := fun o => (hR.alloc o).cells; have fR := fun o => (hR.alloc o).free
      have nu : w9.heap.size ≠ bu := Nat.ne_of_gt (World.block_lt_of_cell? _ _ hU.1)
      have nv : w9.heap.size ≠ bv := Nat.ne_of_gt (World.block_lt_of_cell? _ _ hV1.1)
      have nu2 := nu.symm; have nv2 := nv.symm
      have BB : Hid (∀ o, Below w.heap.size w (w9.alloc o)) := fun o => B.alloc B.size o
      clear B hU hV1 hR
      go_wp2
      simp [bodyPost, results, Tryz.results47, go_sem, *]
      repeat (first | with_reducible exact BB.out _ | with_reducible refine Below.setCell ?_ o3 _)

theorem r5times_any {n x : Int} (hn : Word n) (hx : Num x) (w : World) : Calls Tryz.prog 77 #[.int .u64 n, .agg #[.int .u64 (l0 x), .int .u64 (l1 x), .int .u64 (l2 x), .int .u64 (l3 x)]] w fun e w' => e = .returned (.agg #[.int .u64 (l0 (modN pN (n * x))), .int .u64 (l1 (modN pN (n * x))), .int .u64 (l2 (modN pN (n * x))), .int .u64 (l3 (modN pN (n * x)))]) ∧ Below w.heap.size w w' :=
  r5times_walk (fun w => rfrom_any hn w) (fun w => r5mul_any ⟨hn.1, by have := hn.2; omega⟩ hx w) w
end Go.Proofs.YtmcodflbngkdcaaGreatDoor

import Derived.Test.YtiebnlahhmngcaaGreatDoorCPt
import Derived.Test.YtiebnlahhmngcaaGreatDoorFList
namespace Go.Proofs.YtiebnlahhmngcaaGreatDoor
open Go.RowKit Go.Sort

/-- A value of type Point. -/
structure PP where
  x : Int
  y : Int
  i : Bool
def PP.pt (q : PP) : EC.Pt := ptOf q.x q.y q.i
/-- Points in a row, from a cell on. -/
def Pts (W : World) (b o : Nat) (L : List PP) : Prop := ∀ i, i < L.length → W.cell? ⟨b, o + i * 9, none⟩ = some (.int .u64 (l0 (L.getD i ⟨0, 0, true⟩).x)) ∧ W.cell? ⟨b, o + i * 9 + 1, none⟩ = some (.int .u64 (l1 (L.getD i ⟨0, 0, true⟩).x)) ∧ W.cell? ⟨b, o + i * 9 + 2, none⟩ = some (.int .u64 (l2 (L.getD i ⟨0, 0, true⟩).x)) ∧ W.cell? ⟨b, o + i * 9 + 3, none⟩ = some (.int .u64 (l3 (L.getD i ⟨0, 0, true⟩).x)) ∧ W.cell? ⟨b, o + i * 9 + 4, none⟩ = some (.int .u64 (l0 (L.getD i ⟨0, 0, true⟩).y)) ∧ W.cell? ⟨b, o + i * 9 + 5, none⟩ = some (.int .u64 (l1 (L.getD i ⟨0, 0, true⟩).y)) ∧ W.cell? ⟨b, o + i * 9 + 6, none⟩ = some (.int .u64 (l2 (L.getD i ⟨0, 0, true⟩).y)) ∧ W.cell? ⟨b, o + i * 9 + 7, none⟩ = some (.int .u64 (l3 (L.getD i ⟨0, 0, true⟩).y)) ∧ W.cell? ⟨b, o + i * 9 + 8, none⟩ = some (.bool (L.getD i ⟨0, 0, true⟩).i)
theorem Pts.keep {W w1 : World} {b o : Nat} {L : List PP} (h : Pts W b o L) (hb : Below W.heap.size W w1) : Pts w1 b o L := fun i hi => by
  obtain ⟨a0, a1, a2, a3, a4, a5, a6, a7, a8⟩ := h i hi
  exact ⟨cell_keep hb a0, cell_keep hb a1, cell_keep hb a2, cell_keep hb a3, cell_keep hb a4, cell_keep hb a5, cell_keep hb a6, cell_keep hb a7, cell_keep hb a8⟩
theorem Pts.alloc {W : World} {b o : Nat} {L : List PP} (h : Pts W b o L) (ob : Obj) : Pts (W.alloc ob) b o L := h.keep ((Below.refl _ _).alloc (Nat.le_refl _) ob)
theorem Pts.set {W : World} {b o b' k : Nat} {L : List PP} (h : Pts W b o L) (ne : b' ≠ b) (v : Value) : Pts (W.setCell ⟨b', k, none⟩ v) b o L := fun i hi => by
  obtain ⟨a0, a1, a2, a3, a4, a5, a6, a7, a8⟩ := h i hi
  exact ⟨cell_far a0 ne, cell_far a1 ne, cell_far a2 ne, cell_far a3 ne, cell_far a4 ne, cell_far a5 ne, cell_far a6 ne, cell_far a7 ne, cell_far a8 ne⟩
/-- Three numbers in a block that may be written. -/
def TV (W : World) (b : Nat) (x y z : Int) : Prop := Thr W b x y z ∧ Loose W b 12
theorem TV.keep {W w1 : World} {b : Nat} {x y z : Int} (h : TV W b x y z) (hb : Below W.heap.size W w1) : TV w1 b x y z := ⟨h.1.keep hb, h.2.keep hb h.1.lt⟩
theorem TV.free {W : World} {b : Nat} {x y z : Int} (h : TV W b x y z) : W.frozen? ⟨b, 0, none⟩ = false ∧ W.frozen? ⟨b, 1, none⟩ = false ∧ W.frozen? ⟨b, 2, none⟩ = false ∧ W.frozen? ⟨b, 3, none⟩ = false ∧ W.frozen? ⟨b, 4, none⟩ = false ∧ W.frozen? ⟨b, 5, none⟩ = false ∧ W.frozen? ⟨b, 6, none⟩ = false ∧ W.frozen? ⟨b, 7, none⟩ = false ∧ W.frozen? ⟨b, 8, none⟩ = false ∧ W.frozen? ⟨b, 9, none⟩ = false ∧ W.frozen? ⟨b, 10, none⟩ = false ∧ W.frozen? ⟨b, 11, none⟩ = false := ⟨h.2 0 (by decide), h.2 1 (by decide), h.2 2 (by decide), h.2 3 (by decide), h.2 4 (by decide), h.2 5 (by decide), h.2 6 (by decide), h.2 7 (by decide), h.2 8 (by decide), h.2 9 (by decide), h.2 10 (by decide), h.2 11 (by decide)⟩
def put12 (W : World) (b : Nat) (x' y' z' : Int) : World := ((((((((((((W.setCell ⟨b, 0, none⟩ (.int .u64 (l0 x'))).setCell ⟨b, 1, none⟩ (.int .u64 (l1 x'))).setCell ⟨b, 2, none⟩ (.int .u64 (l2 x'))).setCell ⟨b, 3, none⟩ (.int .u64 (l3 x'))).setCell ⟨b, 4, none⟩ (.int .u64 (l0 y'))).setCell ⟨b, 5, none⟩ (.int .u64 (l1 y'))).setCell ⟨b, 6, none⟩ (.int .u64 (l2 y'))).setCell ⟨b, 7, none⟩ (.int .u64 (l3 y'))).setCell ⟨b, 8, none⟩ (.int .u64 (l0 z'))).setCell ⟨b, 9, none⟩ (.int .u64 (l1 z'))).setCell ⟨b, 10, none⟩ (.int .u64 (l2 z'))).setCell ⟨b, 11, none⟩ (.int .u64 (l3 z')))
theorem TV.put {W : World} {b : Nat} {x y z : Int} (h : TV W b x y z) (x' y' z' : Int) : TV (put12 W b x' y' z') b x' y' z' := by
  have hl : ∀ k, k < 12 → ∀ (W' : World), Loose W' b 12 → True := fun _ _ _ _ => trivial
  clear hl
  refine ⟨?_, ?_⟩
  · obtain ⟨a0, a1, a2, a3, a4, a5, a6, a7, a8, a9, a10, a11⟩ := h.1.cells
    intro k hk
    have hk' : k < 12 := by simpa using hk
    have hc : k = 0 ∨ k = 1 ∨ k = 2 ∨ k = 3 ∨ k = 4 ∨ k = 5 ∨ k = 6 ∨ k = 7 ∨ k = 8 ∨ k = 9 ∨ k = 10 ∨ k = 11 := by omega
    unfold put12
    rcases hc with rfl | rfl | rfl | rfl | rfl | rfl | rfl | rfl | rfl | rfl | rfl | rfl <;> simp [go_sem, a0, a1, a2, a3, a4, a5, a6, a7, a8, a9, a10, a11]
  · unfold put12
    exact ((((((((((((h.2.set _ _).set _ _).set _ _).set _ _).set _ _).set _ _).set _ _).set _ _).set _ _).set _ _).set _ _).set _ _)
theorem Cl.put {W : World} {b b' : Nat} {l : List Value} (h : Cl W b l) (ne : b' ≠ b) (x' y' z' : Int) : Cl (put12 W b' x' y' z') b l := by
  unfold put12
  exact ((((((((((((h.set ne _).set ne _).set ne _).set ne _).set ne _).set ne _).set ne _).set ne _).set ne _).set ne _).set ne _).set ne _)
theorem Mds.put {W : World} {b' : Nat} (h : Mds W) (ne : b' ≠ 2) (x' y' z' : Int) : Mds (put12 W b' x' y' z') := by
  unfold put12
  exact ((((((((((((h.set ne _).set ne _).set ne _).set ne _).set ne _).set ne _).set ne _).set ne _).set ne _).set ne _).set ne _).set ne _)
theorem Pts.put {W : World} {b o b' : Nat} {L : List PP} (h : Pts W b o L) (ne : b' ≠ b) (x' y' z' : Int) : Pts (put12 W b' x' y' z') b o L := by
  unfold put12
  exact ((((((((((((h.set ne _).set ne _).set ne _).set ne _).set ne _).set ne _).set ne _).set ne _).set ne _).set ne _).set ne _).set ne _)
theorem below_put {W w : World} {n b : Nat} (h : Below n w W) (hb : n ≤ b) (x' y' z' : Int) : Below n w (put12 W b x' y' z') := by
  unfold put12
  exact ((((((((((((h.setCell hb _).setCell hb _).setCell hb _).setCell hb _).setCell hb _).setCell hb _).setCell hb _).setCell hb _).setCell hb _).setCell hb _).setCell hb _).setCell hb _)

end Go.Proofs.YtiebnlahhmngcaaGreatDoor

namespace Go.Proofs.YtiebnlahhmngcaaGreatDoor
open Go.RowKit Go.Sort

theorem Bk12.tv {W : World} {b : Nat} (h : Bk12 W b) : TV W b 0 0 0 := by
  obtain ⟨z0, z1, z2, z3⟩ := zero_limbs
  refine ⟨?_, h.2⟩
  unfold Thr
  rw [z0, z1, z2, z3]
  exact h.1

end Go.Proofs.YtiebnlahhmngcaaGreatDoor

namespace Go.Proofs.YtiebnlahhmngcaaGreatDoor
open Go.RowKit Go.Sort

theorem con_yes {x y : Int} {i : Bool} (h : Vd x y i) : Hid (∀ w, Mds w → Calls Tryz.prog 50 #[.agg #[.int .u64 (l0 x), .int .u64 (l1 x), .int .u64 (l2 x), .int .u64 (l3 x), .int .u64 (l0 y), .int .u64 (l1 y), .int .u64 (l2 y), .int .u64 (l3 y), .bool i]] w fun e w' => e = .returned (.bool true) ∧ Below w.heap.size w w') := fun w hm => by
  have := con_any (i := i) h.low.1.num h.low.2.num w hm
  rw [decide_eq_true h] at this; exact this
def gX : Int := 55066263022277343669578718895168534326250603453777594175500187360389116729240
def gY : Int := 32670510020758816978083085130507043184471273380659243275938904335757337482424
end Go.Proofs.YtiebnlahhmngcaaGreatDoor

namespace Go.Proofs.YtiebnlahhmngcaaGreatDoor
open Go.RowKit Go.Sort
theorem fp_cast (u : EC.F) : EC.fp (u.val : Int) = u := by
  apply Fin.ext
  rw [EC.fp_val]
  have := u.isLt
  omega
/-- Every point has its value. -/
theorem rep_pt {p : EC.Pt} (h : EC.On p) : ∃ x y i, Vd x y i ∧ ptOf x y i = p := by
  cases p with
  | o => exact ⟨0, 0, true, ⟨rfl, rfl⟩, rfl⟩
  | a u v =>
    have e : ptOf (u.val : Int) (v.val : Int) false = .a u v := by
      show EC.Pt.a _ _ = _
      rw [fp_cast, fp_cast]
    exact ⟨u.val, v.val, false, ⟨EC.fp_low u, EC.fp_low v, by rw [e]; exact h⟩, e⟩
end Go.Proofs.YtiebnlahhmngcaaGreatDoor

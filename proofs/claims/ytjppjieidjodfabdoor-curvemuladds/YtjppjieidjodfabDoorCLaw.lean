import Derived.Test.YtjppjieidjodfabDoorCOps
import Derived.Test.YtjppjieidjodfabDoorQAlloc
namespace Go.Proofs.YtjppjieidjodfabDoor
open Go.RowKit Go.Sort

theorem lwnum_any (v : Int) (w : World) : Calls Tryd.prog 11 #[.int .i64 v] w fun e w' => e = .returned (.int .i64 v) ∧ Below w.heap.size w w' := by
  go_enter Tryd.func11, Tryd.ntmps11
  go_wp2
  simp [bodyPost, results, Tryd.results11, go_sem]
  exact Below.refl _ _
def dX : Int := 89565891926547004231252920425935692360644145829622209833684329913297188986597
def dY : Int := 12158399299693830322967808612713398636155367887041628176798871954788371653930
theorem g_pt : EC.gJ.pt = ptOf gX gY false := by
  rw [EC.gJ_pt]; show EC.Pt.a _ _ = EC.Pt.a (EC.fp gX) (EC.fp gY)
  rw [show EC.gJ.x = EC.fp gX by decide +kernel, show EC.gJ.y = EC.fp gY by decide +kernel]
theorem d_pt : ptOf dX dY false = (ptOf gX gY false).add (ptOf gX gY false) := by
  rw [← g_pt, ← EC.jd_pt EC.gJ_on]
  exact (EC.pt_of (u := EC.fp dX) (v := EC.fp dY) (by decide +kernel) (by decide +kernel) (by decide +kernel)).symm
theorem d_valid : Vd dX dY false := ⟨⟨by decide, by decide⟩, ⟨by decide, by decide⟩, by rw [d_pt]; exact EC.Pt.on g_valid.on g_valid.on⟩
theorem d_limbs : l0 dX = 12370272968204394213 ∧ l1 dX = 6662950628856118439 ∧ l2 dX = 3478257130916576472 ∧ l3 dX = 14268669794154544493 := by decide
theorem none_not : ¬ Vd 0 0 false := fun h => absurd h.2.2 (by show ¬ EC.fp 0 * EC.fp 0 = EC.fp 0 * EC.fp 0 * EC.fp 0 + 7; decide +kernel)

end Go.Proofs.YtjppjieidjodfabDoor

namespace Go.Proofs.YtjppjieidjodfabDoor
open Go.RowKit Go.Sort

def put9 (W : World) (b : Nat) (x y : Int) (i : Bool) : World := (((((((((W.setCell ⟨b, 0, none⟩ (.int .u64 (l0 x))).setCell ⟨b, 1, none⟩ (.int .u64 (l1 x))).setCell ⟨b, 2, none⟩ (.int .u64 (l2 x))).setCell ⟨b, 3, none⟩ (.int .u64 (l3 x))).setCell ⟨b, 4, none⟩ (.int .u64 (l0 y))).setCell ⟨b, 5, none⟩ (.int .u64 (l1 y))).setCell ⟨b, 6, none⟩ (.int .u64 (l2 y))).setCell ⟨b, 7, none⟩ (.int .u64 (l3 y))).setCell ⟨b, 8, none⟩ (.bool i))
theorem Bk9.put9 {W : World} {b : Nat} (h : Bk9 W b) (x y : Int) (i : Bool) : Pnt (Go.Proofs.YtjppjieidjodfabDoor.put9 W b x y i) b x y i := by
  obtain ⟨a0, a1, a2, a3, a4, a5, a6, a7, a8⟩ := h.cells
  intro k hk
  have hk' : k < 9 := by simpa using hk
  have hc : k = 0 ∨ k = 1 ∨ k = 2 ∨ k = 3 ∨ k = 4 ∨ k = 5 ∨ k = 6 ∨ k = 7 ∨ k = 8 := by omega
  unfold Go.Proofs.YtjppjieidjodfabDoor.put9
  rcases hc with rfl | rfl | rfl | rfl | rfl | rfl | rfl | rfl | rfl <;> simp [go_sem, a0, a1, a2, a3, a4, a5, a6, a7, a8]
theorem Pnt.put9 {W : World} {b b' : Nat} {x y x' y' : Int} {i j : Bool} (h : Pnt W b x y i) (ne : b' ≠ b) : Pnt (Go.Proofs.YtjppjieidjodfabDoor.put9 W b' x' y' j) b x y i := by
  unfold Go.Proofs.YtjppjieidjodfabDoor.put9
  exact Cl.set (Cl.set (Cl.set (Cl.set (Cl.set (Cl.set (Cl.set (Cl.set (Cl.set (h) ne _) ne _) ne _) ne _) ne _) ne _) ne _) ne _) ne _
theorem Mds.put9 {W : World} {b' : Nat} {x' y' : Int} {j : Bool} (h : Mds W) (ne : b' ≠ 1) : Mds (Go.Proofs.YtjppjieidjodfabDoor.put9 W b' x' y' j) := by
  unfold Go.Proofs.YtjppjieidjodfabDoor.put9
  exact (((((((((h.set ne _).set ne _).set ne _).set ne _).set ne _).set ne _).set ne _).set ne _).set ne _)
theorem below_put9 {W w : World} {n b : Nat} {x' y' : Int} {j : Bool} (h : Below n w W) (hb : n ≤ b) : Below n w (put9 W b x' y' j) := by
  unfold put9
  exact (((((((((h.setCell hb _).setCell hb _).setCell hb _).setCell hb _).setCell hb _).setCell hb _).setCell hb _).setCell hb _).setCell hb _)

end Go.Proofs.YtjppjieidjodfabDoor

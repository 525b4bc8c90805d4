import Derived.Test.YtncpjgpioajbeaaGreatDoorCLaw
import Derived.Test.YtncpjgpioajbeaaGreatDoorQLate
namespace Go.Proofs.YtncpjgpioajbeaaGreatDoor
open Go.RowKit Go.Sort

def put9 (W : World) (b : Nat) (x y : Int) (i : Bool) : World := (((((((((W.setCell ⟨b, 0, none⟩ (.int .u64 (l0 x))).setCell ⟨b, 1, none⟩ (.int .u64 (l1 x))).setCell ⟨b, 2, none⟩ (.int .u64 (l2 x))).setCell ⟨b, 3, none⟩ (.int .u64 (l3 x))).setCell ⟨b, 4, none⟩ (.int .u64 (l0 y))).setCell ⟨b, 5, none⟩ (.int .u64 (l1 y))).setCell ⟨b, 6, none⟩ (.int .u64 (l2 y))).setCell ⟨b, 7, none⟩ (.int .u64 (l3 y))).setCell ⟨b, 8, none⟩ (.bool i))
theorem Bk9.put9 {W : World} {b : Nat} (h : Bk9 W b) (x y : Int) (i : Bool) : Pnt (Go.Proofs.YtncpjgpioajbeaaGreatDoor.put9 W b x y i) b x y i := by
  obtain ⟨a0, a1, a2, a3, a4, a5, a6, a7, a8⟩ := h.cells
  intro k hk
  have hk' : k < 9 := by simpa using hk
  have hc : k = 0 ∨ k = 1 ∨ k = 2 ∨ k = 3 ∨ k = 4 ∨ k = 5 ∨ k = 6 ∨ k = 7 ∨ k = 8 := by omega
  unfold Go.Proofs.YtncpjgpioajbeaaGreatDoor.put9
  rcases hc with rfl | rfl | rfl | rfl | rfl | rfl | rfl | rfl | rfl <;> simp [go_sem, a0, a1, a2, a3, a4, a5, a6, a7, a8]
theorem Pnt.put9 {W : World} {b b' : Nat} {x y x' y' : Int} {i j : Bool} (h : Pnt W b x y i) (ne : b' ≠ b) : Pnt (Go.Proofs.YtncpjgpioajbeaaGreatDoor.put9 W b' x' y' j) b x y i := by
  unfold Go.Proofs.YtncpjgpioajbeaaGreatDoor.put9
  exact Cl.set (Cl.set (Cl.set (Cl.set (Cl.set (Cl.set (Cl.set (Cl.set (Cl.set (h) ne _) ne _) ne _) ne _) ne _) ne _) ne _) ne _) ne _
theorem Mds.put9 {W : World} {b' : Nat} {x' y' : Int} {j : Bool} (h : Mds W) (ne : b' ≠ 1) : Mds (Go.Proofs.YtncpjgpioajbeaaGreatDoor.put9 W b' x' y' j) := by
  unfold Go.Proofs.YtncpjgpioajbeaaGreatDoor.put9
  exact (((((((((h.set ne _).set ne _).set ne _).set ne _).set ne _).set ne _).set ne _).set ne _).set ne _)
theorem below_put9 {W w : World} {n b : Nat} {x' y' : Int} {j : Bool} (h : Below n w W) (hb : n ≤ b) : Below n w (put9 W b x' y' j) := by
  unfold put9
  exact (((((((((h.setCell hb _).setCell hb _).setCell hb _).setCell hb _).setCell hb _).setCell hb _).setCell hb _).setCell hb _).setCell hb _)

end Go.Proofs.YtncpjgpioajbeaaGreatDoor

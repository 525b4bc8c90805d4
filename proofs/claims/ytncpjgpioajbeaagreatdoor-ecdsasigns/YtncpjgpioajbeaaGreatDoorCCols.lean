import Derived.Test.YtncpjgpioajbeaaGreatDoorCBlend
import Derived.Test.YtncpjgpioajbeaaGreatDoorCLaid
import Derived.Test.YtncpjgpioajbeaaGreatDoorCMOps
import Derived.Test.YtncpjgpioajbeaaGreatDoorCPlus
import Derived.Test.YtncpjgpioajbeaaGreatDoorQPut
namespace Go.Proofs.YtncpjgpioajbeaaGreatDoor
open Go.RowKit Go.Sort

theorem Cols.keep {W w1 : World} (h : Cols W) (hb : Below W.heap.size W w1) : Cols w1 := Pts.keep h hb
theorem Cols.alloc {W : World} (h : Cols W) (ob : Obj) : Cols (W.alloc ob) := Pts.alloc h ob
theorem Cols.put9 {W : World} {b' : Nat} {x' y' : Int} {j : Bool} (h : Cols W) (ne : b' ≠ 0) : Cols (Go.Proofs.YtncpjgpioajbeaaGreatDoor.put9 W b' x' y' j) := by
  unfold Go.Proofs.YtncpjgpioajbeaaGreatDoor.put9
  exact Pts.set (Pts.set (Pts.set (Pts.set (Pts.set (Pts.set (Pts.set (Pts.set (Pts.set h ne _) ne _) ne _) ne _) ne _) ne _) ne _) ne _) ne _
theorem Nm.lt {W : World} {b : Nat} {n : Int} (h : Nm W b n) : b < W.heap.size := Cl.lt h (by simp)
theorem Nm.put9 {W : World} {b b' : Nat} {n x' y' : Int} {j : Bool} (h : Nm W b n) (ne : b' ≠ b) : Nm (Go.Proofs.YtncpjgpioajbeaaGreatDoor.put9 W b' x' y' j) b n := by
  unfold Go.Proofs.YtncpjgpioajbeaaGreatDoor.put9
  exact Cl.set (Cl.set (Cl.set (Cl.set (Cl.set (Cl.set (Cl.set (Cl.set (Cl.set h ne _) ne _) ne _) ne _) ne _) ne _) ne _) ne _) ne _
def put4 (W : World) (b : Nat) (n : Int) : World := (((W.setCell ⟨b, 0, none⟩ (.int .u64 (l0 n))).setCell ⟨b, 1, none⟩ (.int .u64 (l1 n))).setCell ⟨b, 2, none⟩ (.int .u64 (l2 n))).setCell ⟨b, 3, none⟩ (.int .u64 (l3 n))
theorem Blank.put4 {W : World} {b : Nat} (h : Blank W b) (n : Int) : Nm (Go.Proofs.YtncpjgpioajbeaaGreatDoor.put4 W b n) b n := by
  obtain ⟨a0, a1, a2, a3⟩ := h.1.all4
  intro k hk
  have hk' : k < 4 := by simpa using hk
  have hc : k = 0 ∨ k = 1 ∨ k = 2 ∨ k = 3 := by omega
  unfold Go.Proofs.YtncpjgpioajbeaaGreatDoor.put4
  rcases hc with rfl | rfl | rfl | rfl <;> simp [go_sem, a0, a1, a2, a3]
theorem Pnt.put4 {W : World} {b b' : Nat} {x y n : Int} {i : Bool} (h : Pnt W b x y i) (ne : b' ≠ b) : Pnt (Go.Proofs.YtncpjgpioajbeaaGreatDoor.put4 W b' n) b x y i := by
  unfold Go.Proofs.YtncpjgpioajbeaaGreatDoor.put4
  exact Cl.set (Cl.set (Cl.set (Cl.set h ne _) ne _) ne _) ne _
theorem Nm.put4 {W : World} {b b' : Nat} {m n : Int} (h : Nm W b m) (ne : b' ≠ b) : Nm (Go.Proofs.YtncpjgpioajbeaaGreatDoor.put4 W b' n) b m := by
  unfold Go.Proofs.YtncpjgpioajbeaaGreatDoor.put4
  exact Cl.set (Cl.set (Cl.set (Cl.set h ne _) ne _) ne _) ne _
theorem below_put4 {W w : World} {n b : Nat} {m : Int} (h : Below n w W) (hb : n ≤ b) : Below n w (put4 W b m) := by
  unfold put4
  exact (((h.setCell hb _).setCell hb _).setCell hb _).setCell hb _
end Go.Proofs.YtncpjgpioajbeaaGreatDoor

import Derived.Test.YtncpjgpioajbeaaGreatDoorCBlend
import Derived.Test.YtncpjgpioajbeaaGreatDoorCLaid
import Derived.Test.YtncpjgpioajbeaaGreatDoorCMOps
import Derived.Test.YtncpjgpioajbeaaGreatDoorCPlus
import Derived.Test.YtncpjgpioajbeaaGreatDoorQPut
namespace Go.Proofs.YtncpjgpioajbeaaGreatDoor
open Go.RowKit Go.Sort

theorem Cols.keep {W w1 : World} (h : Cols W) (hb : Below W.heap.size W w1) : Cols w1 := Pts.keep h hb
theorem Cols.alloc {W : World} (h : Cols W) (ob : Obj) : Cols (W.alloc ob) := Pts.alloc h ob
theorem Cols.put9 {W : World} {b' : Nat} {x' y' : Int} {j : Bool} (h : Cols W) (ne : b' ≠ 0) : Cols (Go.Proofs.YtncpjgpioajbeaaGreatDoor.put9 W b' x' y' j) := by
  unfold Go.Proofs.YtncpjgpioajbeaaGreatDoor.put9
  exact Pts.set (Pts.set (Pts.set (Pts.set (Pts.set (Pts.set (Pts.set (Pts.set (Pts.set h ne _) ne _) ne _) ne _) ne _) ne _) ne _) ne _) ne _
theorem Nm.lt {W : World} {b : Nat} {n : Int} (h : Nm W b n) : b < W.heap.size := Cl.lt h (by simp)
theorem Nm.put9 {W : World} {b b' : Nat} {n x' y' : Int} {j : Bool} (h : Nm W b n) (ne : b' ≠ b) : Nm (Go.Proofs.YtncpjgpioajbeaaGreatDoor.put9 W b' x' y' j) b n := by
  unfold Go.Proofs.YtncpjgpioajbeaaGreatDoor.put9
  exact Cl.set (Cl.set (Cl.set (Cl.set (Cl.set (Cl.set (Cl.set (Cl.set (Cl.set h ne _) ne _) ne _) ne _) ne _) ne _) ne _) ne _) ne _
theorem alloc_pt (dst : Option Tmp) (pos : String) (ty : TypeId) (ρ : Operand → Value) (w : World) : (execOp ρ { dst := dst, op := Op.alloc 37, type := ty, pos := pos, after := #[], guard := none }).run Tryz.prog w = .ok (.value (.pointer (some ⟨w.heap.size, 0, none⟩))) (w.alloc (.cells #[.int .u64 0, .int .u64 0, .int .u64 0, .int .u64 0, .int .u64 0, .int .u64 0, .int .u64 0, .int .u64 0, .bool false] 37)) := by
  simp [execOp, go_sem]
end Go.Proofs.YtncpjgpioajbeaaGreatDoor

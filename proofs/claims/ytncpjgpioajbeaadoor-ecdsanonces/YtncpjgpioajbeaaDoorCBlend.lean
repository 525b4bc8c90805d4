import Derived.Test.YtncpjgpioajbeaaDoorCTrs
import Derived.Test.YtncpjgpioajbeaaDoorCLaid
import Derived.Test.YtncpjgpioajbeaaDoorRefBit
namespace Go.Proofs.YtncpjgpioajbeaaDoor
open Go.RowKit Go.Sort

/-- A number in a block. -/
def Nm (W : World) (b : Nat) (n : Int) : Prop := Cl W b [.int .u64 (l0 n), .int .u64 (l1 n), .int .u64 (l2 n), .int .u64 (l3 n)]
theorem Nm.keep {W w1 : World} {b : Nat} {n : Int} (h : Nm W b n) (hb : Below W.heap.size W w1) : Nm w1 b n := Cl.keep h hb
theorem Nm.cells {W : World} {b : Nat} {n : Int} (h : Nm W b n) : W.cell? ⟨b, 0, none⟩ = some (.int .u64 (l0 n)) ∧ W.cell? ⟨b, 1, none⟩ = some (.int .u64 (l1 n)) ∧ W.cell? ⟨b, 2, none⟩ = some (.int .u64 (l2 n)) ∧ W.cell? ⟨b, 3, none⟩ = some (.int .u64 (l3 n)) := ⟨h 0 (by simp), h 1 (by simp), h 2 (by simp), h 3 (by simp)⟩
theorem Nm.grown {W : World} {b : Nat} {n : Int} (h : Nm W b n) : ∀ d os, (grow (redrawn W d) os).cell? ⟨b, 0, none⟩ = some (.int .u64 (l0 n)) ∧ (grow (redrawn W d) os).cell? ⟨b, 1, none⟩ = some (.int .u64 (l1 n)) ∧ (grow (redrawn W d) os).cell? ⟨b, 2, none⟩ = some (.int .u64 (l2 n)) ∧ (grow (redrawn W d) os).cell? ⟨b, 3, none⟩ = some (.int .u64 (l3 n)) := fun d os => (h.keep (below_regrown W d os)).cells
theorem Nm.alloc {W : World} {b : Nat} {n : Int} (h : Nm W b n) (ob : Obj) : Nm (W.alloc ob) b n := h.keep ((Below.refl _ _).alloc (Nat.le_refl _) ob)
theorem Bk12.put {W : World} {b b' : Nat} (h : Bk12 W b) (ne : b' ≠ b) (x' y' z' : Int) : Bk12 (put12 W b' x' y' z') b := ⟨h.1.put ne x' y' z', by unfold put12; exact ((((((((((((h.2.set _ _).set _ _).set _ _).set _ _).set _ _).set _ _).set _ _).set _ _).set _ _).set _ _).set _ _).set _ _)⟩
theorem Pts.cells_put {W : World} {b o b' : Nat} {L : List PP} (h : Pts W b o L) (ne : b' ≠ b) (vs : List Value) (k : Nat) : Pts (W.setCells b' k vs) b o L := by
  induction vs generalizing W k with
  | nil => exact h
  | cons v r ih => exact ih (h.set ne v) (k + 1)

end Go.Proofs.YtncpjgpioajbeaaDoor

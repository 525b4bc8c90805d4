import Derived.Test.YtndefnomefdhoabDoorKFillNum
import Derived.Test.YtndefnomefdhoabDoorKFilled
namespace Go.Proofs.YtndefnomefdhoabDoor.K
open Go.RowKit Go.Sort

theorem Byo.drew {W : World} {b o : Nat} {X : List (BitVec 8)} (h : Byo W b o X) : Byo W.drew b o X := h
theorem Byo.far {W : World} {b b' o i : Nat} {v : Value} {X : List (BitVec 8)} (h : Byo W b o X) (ne : b' ≠ b) : Byo (W.setCell ⟨b', i, none⟩ v) b o X := fun j hj => by rw [World.cell?_setCell_far _ _ _ _ ne]; exact h j hj
theorem Byo.farCells {W : World} {b b' o i : Nat} {X : List (BitVec 8)} (h : Byo W b o X) (ne : b' ≠ b) (cs : List Value) : Byo (W.setCells b' i cs) b o X := fun j hj => by rw [World.cell?_setCells_out _ _ _ _ _ (fun e => absurd e.symm ne)]; exact h j hj
theorem Arr.zeros25 {W : World} {b : Nat} (e : b = W.heap.size) : Arr (W.alloc (.cells #[.int .u64 0, .int .u64 0, .int .u64 0, .int .u64 0, .int .u64 0, .int .u64 0, .int .u64 0, .int .u64 0, .int .u64 0, .int .u64 0, .int .u64 0, .int .u64 0, .int .u64 0, .int .u64 0, .int .u64 0, .int .u64 0, .int .u64 0, .int .u64 0, .int .u64 0, .int .u64 0, .int .u64 0, .int .u64 0, .int .u64 0, .int .u64 0, .int .u64 0] 86)) b (List.replicate 25 0) := fresh_arr e

end Go.Proofs.YtndefnomefdhoabDoor.K

import Derived.Test.YtndefnomefdhoabDoorBmA
/- Filters as sets of bits. -/
namespace Go.Proofs.YtndefnomefdhoabDoor
open Go.RowKit Go.Sort

/-- Several bits set. -/
def setsF (F : List (BitVec 8)) (l : List Nat) : List (BitVec 8) := l.foldl setF F
theorem setsF_len : ∀ (l : List Nat) {F : List (BitVec 8)}, F.length = 256 → (setsF F l).length = 256
  | [], _, h => h
  | x :: l, F, h => setsF_len l (by rw [setF_len]; exact h)
end Go.Proofs.YtndefnomefdhoabDoor

/- isSet. -/
namespace Go.Proofs.YtndefnomefdhoabDoor
open Go.RowKit Go.Sort

end Go.Proofs.YtndefnomefdhoabDoor

/- The document's bit. -/
namespace Go.Proofs.YtndefnomefdhoabDoor
open Go.RowKit Go.Sort

end Go.Proofs.YtndefnomefdhoabDoor

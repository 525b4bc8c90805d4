import Derived.Test.YtndefnomefdhoabDoorKInv
namespace Go.Proofs.YtndefnomefdhoabDoor.K
open Go.RowKit Go.Sort

theorem own_form {B : Nat} {W : World} {v : Value} {X : List (BitVec 8)} (h : Own B W v X) (h0 : 0 < X.length) : ∃ g c, v = .slice (some ⟨g, 0, none⟩) X.length c ∧ X.length ≤ c := by
  rcases h.2 with ⟨rfl, h1⟩ | ⟨g, cap, cur, rfl, _, _, hle, _⟩
  · omega
  · exact ⟨g, cap, rfl, hle⟩
theorem byts_set (X : List (BitVec 8)) (i : Nat) (x : BitVec 8) : (byts X).set i (.int .u8 (Y x)) = byts (X.set i x) := by simp [byts, List.map_set]

/-- The text filled up. -/
def padN (n : Nat) : Nat := 135 - n % 136
def fillL (X : List (BitVec 8)) (f : BitVec 8) : List (BitVec 8) := (X ++ f :: List.replicate (padN X.length) 0).set (X.length + padN X.length) ((X ++ f :: List.replicate (padN X.length) 0).getD (X.length + padN X.length) 0 ||| 128)

end Go.Proofs.YtndefnomefdhoabDoor.K

namespace Go.Proofs.YtndefnomefdhoabDoor.K
open Go.RowKit Go.Sort

end Go.Proofs.YtndefnomefdhoabDoor.K

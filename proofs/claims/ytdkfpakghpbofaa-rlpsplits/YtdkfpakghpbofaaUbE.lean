import Derived.Test.YtdkfpakghpbofaaUbD
/- Layer 1: Get, Strict of any list; '==' of 32 bytes. -/
namespace Go.Proofs.Ytdkfpakghpbofaa
open Go.RowKit Go.Sort

def gv (X : List Int) : Int := if X.length ≤ 32 then sufN X X.length else 0
def se (X : List Int) : Int := if X.length ≤ 32 then (if X ≠ [] ∧ X.getD 0 0 = 0 then 13 else 0) else 11
theorem Bts.bz {W : World} {b : Nat} {l : List Int} (h : Bts W b l) : Bz W b 0 l := fun i hi => by rw [Nat.zero_add]; exact h.1 i hi
end Go.Proofs.Ytdkfpakghpbofaa

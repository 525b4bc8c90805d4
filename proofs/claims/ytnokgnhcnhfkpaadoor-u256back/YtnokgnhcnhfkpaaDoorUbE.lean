import Derived.Test.YtnokgnhcnhfkpaaDoorUbC
/- Layer 1: Get, Strict of any list; '==' of 32 bytes. -/
namespace Go.Proofs.YtnokgnhcnhfkpaaDoor
open Go.RowKit Go.Sort

def gv (X : List Int) : Int := if X.length ≤ 32 then sufN X X.length else 0
def ge (X : List Int) : Int := if X.length ≤ 32 then 0 else 11
def sv (X : List Int) : Int := if X.length ≤ 32 then (if X ≠ [] ∧ X.getD 0 0 = 0 then 0 else sufN X X.length) else 0
def se (X : List Int) : Int := if X.length ≤ 32 then (if X ≠ [] ∧ X.getD 0 0 = 0 then 13 else 0) else 11
theorem get_all {g c : Nat} {X : List Int} (hX : Byts X) (w : World) (hz : Bz w g 0 X) :
    Calls Tryd.prog 5 #[.slice (some ⟨g, 0, none⟩) X.length c] w fun e w' => e = .returned (.tuple #[.agg #[.int .u64 (l0 (gv X)), .int .u64 (l1 (gv X)), .int .u64 (l2 (gv X)), .int .u64 (l3 (gv X))], .int .i64 (ge X)]) ∧ Below w.heap.size w w' := by
  by_cases h : X.length ≤ 32
  · rw [gv, ge, if_pos h, if_pos h]; exact get_some hX h w hz
  · rw [gv, ge, if_neg h, if_neg h]; exact get_long (by omega) w
theorem Bts.bz {W : World} {b : Nat} {l : List Int} (h : Bts W b l) : Bz W b 0 l := fun i hi => by rw [Nat.zero_add]; exact h.1 i hi
end Go.Proofs.YtnokgnhcnhfkpaaDoor

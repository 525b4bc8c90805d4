import Derived.Test.YtidchaaahgnabaaDoorKRPerm
import Derived.Test.YtidchaaahgnabaaDoorKEq
namespace Go.Proofs.YtidchaaahgnabaaDoor
open Go.RowKit Go.Sort

theorem Tab.grown {W : World} {b : Nat} {l : List Nat} (h : Tab W b l) (d : Nat) (os : Array Obj) : Tab (grow (redrawn W d) os) b l := fun i hi => cell_regrown (h i hi) d os
theorem Lns.grown {W : World} {b : Nat} {L : List (BitVec 64)} (h : Lns W b L) (d : Nat) (os : Array Obj) : Lns (grow (redrawn W d) os) b L := fun i hi => cell_regrown (h i hi) d os

end Go.Proofs.YtidchaaahgnabaaDoor

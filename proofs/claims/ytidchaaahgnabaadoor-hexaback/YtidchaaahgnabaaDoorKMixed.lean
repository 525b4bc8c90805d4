import Derived.Test.YtidchaaahgnabaaDoorKSpec
import Derived.Test.YtidchaaahgnabaaDoorKPerm
import Derived.Test.YtidchaaahgnabaaDoorTail
import Derived.Test.YtidchaaahgnabaaDoorKTurn
namespace Go.Proofs.YtidchaaahgnabaaDoor
open Go.RowKit Go.Sort

end Go.Proofs.YtidchaaahgnabaaDoor

namespace Go.Proofs.YtidchaaahgnabaaDoor
open Go.RowKit Go.Sort

end Go.Proofs.YtidchaaahgnabaaDoor

namespace Go.Proofs.YtidchaaahgnabaaDoor
open Go.RowKit Go.Sort

/-- Block b holds the five columns' sums and may be written. -/
def Cols (W : World) (b : Nat) (C : List (BitVec 64)) : Prop := C.length = 5 ∧ Lns W b C ∧ Loose W b 5
theorem Cols.lt {W : World} {b : Nat} {C : List (BitVec 64)} (h : Cols W b C) : b < W.heap.size := h.2.1.lt (by rw [h.1]; decide)
theorem Cols.keep {W w1 : World} {b : Nat} {C : List (BitVec 64)} (h : Cols W b C) (hb : Below W.heap.size W w1) : Cols w1 b C := ⟨h.1, h.2.1.keep hb, h.2.2.keep hb h.lt⟩
theorem Cols.alloc {W : World} {b : Nat} {C : List (BitVec 64)} (h : Cols W b C) (o : Obj) : Cols (W.alloc o) b C := h.keep ((Below.refl _ _).alloc (Nat.le_refl _) o)
theorem Cols.drew {W : World} {b : Nat} {C : List (BitVec 64)} (h : Cols W b C) : Cols W.drew b C := h
theorem Cols.other {W : World} {b b' i : Nat} {C : List (BitVec 64)} (h : Cols W b C) (ne : b' ≠ b) (v : Value) : Cols (W.setCell ⟨b', i, none⟩ v) b C := ⟨h.1, h.2.1.other ne v, h.2.2.set _ _⟩
theorem Cols.otherCells {W : World} {b b' o : Nat} {C : List (BitVec 64)} (h : Cols W b C) (ne : b' ≠ b) (cs : List Value) : Cols (W.setCells b' o cs) b C := ⟨h.1, h.2.1.otherCells ne cs, h.2.2.setCells _ _ _⟩
theorem Cols.set {W : World} {b : Nat} {C : List (BitVec 64)} (h : Cols W b C) (i : Nat) (hi : i < 5) (v : BitVec 64) : Cols (W.setCell ⟨b, i, none⟩ (.int .u64 (V v))) b (C.set i v) :=
  ⟨by rw [List.length_set]; exact h.1, h.2.1.set i (by rw [h.1]; exact hi) v, h.2.2.set _ _⟩
theorem Cols.zeros {W : World} {b : Nat} (t : TypeId) (e : b = W.heap.size) : Cols (W.alloc (.cells #[.int .u64 0, .int .u64 0, .int .u64 0, .int .u64 0, .int .u64 0] t)) b (List.replicate 5 0) := by
  have h : V 0#64 = 0 := V_zero
  have z : (lanes (List.replicate 5 0)).toArray = #[.int .u64 0, .int .u64 0, .int .u64 0, .int .u64 0, .int .u64 0] := by simp [lanes, List.replicate, h]
  rw [← z]
  exact ⟨by simp, Lns.new _ _ e, Loose.new _ _ _ e⟩

end Go.Proofs.YtidchaaahgnabaaDoor

namespace Go.Proofs.YtidchaaahgnabaaDoor
open Go.RowKit Go.Sort

theorem lanes_size {L : List (BitVec 64)} (h : L.length = 25) : ((lanes L).toArray).size = 25 := by simp [lanes_len, h]

end Go.Proofs.YtidchaaahgnabaaDoor

namespace Go.Proofs.YtidchaaahgnabaaDoor
open Go.RowKit Go.Sort

theorem Tab.grown {W : World} {b : Nat} {l : List Nat} (h : Tab W b l) (d : Nat) (os : Array Obj) : Tab (grow (redrawn W d) os) b l := fun i hi => cell_regrown (h i hi) d os
theorem Lns.grown {W : World} {b : Nat} {L : List (BitVec 64)} (h : Lns W b L) (d : Nat) (os : Array Obj) : Lns (grow (redrawn W d) os) b L := fun i hi => cell_regrown (h i hi) d os

end Go.Proofs.YtidchaaahgnabaaDoor

namespace Go.Proofs.YtidchaaahgnabaaDoor
open Go.RowKit Go.Sort

theorem wpList_world {P : Program} {ops : Array Oper} {Q : Exit → Act → World → Prop} {rest : List Oper} {a : Act} {w : World} (S : World → Prop) (h : S w) (k : ∀ W, S W → wpList P ops Q rest a W) : wpList P ops Q rest a w := k w h
theorem fresh_arr {W : World} {b : Nat} (e : b = W.heap.size) : Arr (W.alloc (.cells #[.int .u64 0, .int .u64 0, .int .u64 0, .int .u64 0, .int .u64 0, .int .u64 0, .int .u64 0, .int .u64 0, .int .u64 0, .int .u64 0, .int .u64 0, .int .u64 0, .int .u64 0, .int .u64 0, .int .u64 0, .int .u64 0, .int .u64 0, .int .u64 0, .int .u64 0, .int .u64 0, .int .u64 0, .int .u64 0, .int .u64 0, .int .u64 0, .int .u64 0] 92)) b (List.replicate 25 0) := Arr.zeros _ e

end Go.Proofs.YtidchaaahgnabaaDoor

import Derived.Test.YtohdlfilldaghaaNbR
import Derived.Test.YtohdlfilldaghaaNbN
import Derived.Test.YtohdlfilldaghaaNbI
/- Layer 11: NibbleUnpacks. -/
namespace Go.Proofs.Ytohdlfilldaghaa
open Go.RowKit Go.Sort

theorem famN {B n : Nat} {W : World} {V : Nat → Value} {F : Nat → List Int} (cs : Array Value) (t : TypeId) (hc : ∀ i, i < n → cs[i]? = some (V i)) (ho : ∀ i, i < n → OwnB B W (V i) (F i)) (dis : ∀ i j k, i < n → j < n → i ≠ j → (V i).ownBlock = some k → (V j).ownBlock ≠ some k) : Fam B (W.alloc (.cells cs t)) W.heap.size n V F 0 where
  cell := fun i hi => by rw [World.cell?_alloc_mark]; exact hc i hi
  rd := fun i hi => ((ho i hi).alloc _).rd
  own := fun i _ hi => (ho i hi).alloc _
  dis := dis
  far := fun i k hi hk e => by have := ((ho i hi).lt k hk).2; omega
theorem Many.below {B n : Nat} {w w' : World} {V : Nat → Value} (h : Many w w' n V) (hB : B ≤ w.heap.size) (hv : ∀ i k, i < n → (V i).ownBlock = some k → B ≤ k) : Below B w w' :=
  ⟨h.os, h.tape, h.output, h.size, fun k hk => h.block k (by omega) (fun i hi e => by have := hv i k hi e; omega)⟩
theorem Rw8.many {n g : Nat} {w w' : World} {V : Nat → Value} {X : List Int} (r : Rw8 w g X) (h : Many w w' n V) (hv : ∀ i, i < n → (V i).ownBlock ≠ some g) : Rw8 w' g X := (h.block g r.lt hv).trans r
theorem unpX_len (D : List Int) : (unpX D).length ≤ 2 * D.length + 1 := by
  rw [unpX]
  split
  · rw [List.length_append, ofL_len, List.length_drop, unpR]
    split <;> simp <;> omega
  · simp
/-- Of two: the first, or the other. -/
def pick2 {α : Type} (x y : α) (i : Nat) : α := if i = 0 then x else y

end Go.Proofs.Ytohdlfilldaghaa

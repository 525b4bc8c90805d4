import Derived.WalkKit
import Derived.Deep.RegionHeld
import Derived.Test.YtllfmlgnemkklaaDoorRows
import Derived.Test.YtllfmlgnemkklaaDoorNum
import Derived.WalkSpells
import Derived.WalkLawsBesides
import Derived.Laws.Externs
import Derived.Shelf.Spec.BitsCarry
import Derived.Lib.Mul64
import Derived.Laws.Bits64b
import Derived.BigRegion
import Derived.Deep.RegionWith
import Derived.BigQuiet
import Derived.Deep.RegionHeld3
import Derived.Test.YtllfmlgnemkklaaDoorHold
import Derived.LoopN
import Derived.Test.YtllfmlgnemkklaaDoorShl
import Derived.Test.YtllfmlgnemkklaaDoorShelf
import Derived.Lib.ItoaNum
import Derived.Test.YtllfmlgnemkklaaDoorCmp
import Derived.Test.YtllfmlgnemkklaaDoorTail
import Derived.Test.YtllfmlgnemkklaaDoorRowB
import Derived.Deep.LoopGhost
import Derived.Test.YtllfmlgnemkklaaDoorRoomy
import Derived.Maps.AppendAt
import Derived.Lib.AppendZeros
import Derived.StillTail
import Derived.Lib.QuietBelow
import Derived.Laws.OwnMore
/- Layer 1: bytes as numbers, lists of one's own (as in layer 11). -/
namespace Go.Proofs.YtllfmlgnemkklaaDoor
open Go.RowKit Go.Sort

/-- Bytes from a cell on. -/
def Bz (W : World) (b o : Nat) (X : List Int) : Prop := ∀ i, i < X.length → W.cell? ⟨b, o + i, none⟩ = some (.int .u8 (X.getD i 0))
/-- Where a slice of these bytes points: an empty one anywhere, or nowhere. -/
def Az (a : Option Addr) (b o : Nat) (X : List Int) : Prop := X = [] ∨ a = some ⟨b, o, none⟩
/-- Bytes. -/
def Bys (X : List Int) : Prop := ∀ x ∈ X, 0 ≤ x ∧ x < 256
theorem Bz.keep {W W' : World} {b o : Nat} {X : List Int} (h : Bz W b o X) (hb : Below W.heap.size W W') : Bz W' b o X := fun i hi => cell_keep hb (h i hi)
/-- A slice of the call's own memory, of these bytes. -/
def OwnB (B : Nat) (W : World) (v : Value) (X : List Int) : Prop := W.ownsRow B 5 1 v X.length (X.map (Value.int .u8))
theorem OwnB.row {B : Nat} {W : World} {v : Value} {X : List Int} (h : OwnB B W v X) : W.ownsRow B 5 1 v X.length (X.map (Value.int .u8)) := h
theorem grown_of_below {W W' : World} (h : Below W.heap.size W W') (row : Option Nat) : W.grownBy W' row := ⟨h.os, h.tape, h.output, h.size, fun k hk _ => h.block k hk⟩
theorem OwnB.keep {B : Nat} {W W' : World} {v : Value} {X : List Int} (h : OwnB B W v X) (hb : Below W.heap.size W W') : OwnB B W' v X :=
  World.ownsRow.kept h (grown_of_below hb Option.none) (by cases v.ownBlock <;> simp)
theorem OwnB.alloc {B : Nat} {W : World} {v : Value} {X : List Int} (h : OwnB B W v X) (o : Obj) : OwnB B (W.alloc o) v X := h.keep ((Below.refl _ _).alloc (Nat.le_refl _) o)
theorem take_snocI {X : List Int} {i : Nat} (h : i < X.length) : X.take (i + 1) = X.take i ++ [X.getD i 0] := by
  rw [List.take_add_one, List.getD, List.getElem?_eq_getElem h]
  rfl
theorem Az.cons {a : Option Addr} {b o : Nat} {X : List Int} (h : Az a b o X) (hx : 0 < X.length) : a = some ⟨b, o, none⟩ := by
  rcases h with e | e
  · rw [e] at hx; simp at hx
  · exact e
/-- Of two lists, are the first i the same? -/
theorem take_same {X Z : List Int} {i : Nat} (h1 : i < X.length) (h2 : i < Z.length) (h : X.take i = Z.take i) (e : X.getD i 0 = Z.getD i 0) : X.take (i + 1) = Z.take (i + 1) := by
  rw [take_snocI h1, take_snocI h2, h, e]
end Go.Proofs.YtllfmlgnemkklaaDoor

import Derived.WalkKit
import Derived.Deep.RegionHeld
import Derived.Test.YtllfmlgnemkklaaDoorLeaf
import Derived.LoopN
import Derived.BigRegion
import Derived.Test.YtllfmlgnemkklaaDoorAdd
import Derived.Deep.RegionWith
import Derived.Test.YtllfmlgnemkklaaDoorHold
import Derived.Deep.RegionHeld3
import Derived.Test.YtllfmlgnemkklaaDoorOut
import Derived.Test.YtllfmlgnemkklaaDoorShl
import Derived.Test.YtllfmlgnemkklaaDoorShelf
import Derived.Lib.ItoaNum
import Derived.Test.YtllfmlgnemkklaaDoorCmp
import Derived.BigQuiet
import Derived.Below
import Derived.Test.YtllfmlgnemkklaaDoorMulNum
import Derived.Test.YtllfmlgnemkklaaDoorRowB
import Derived.Deep.LoopGhost
import Derived.Test.YtllfmlgnemkklaaDoorRoomy
import Derived.Maps.AppendAt
import Derived.Lib.AppendZeros
import Derived.StillTail
import Derived.Lib.QuietBelow
import Derived.Laws.OwnMore
/- Layer 1: bytes as numbers, lists of one's own (as in layer 11). -/
namespace Go.Proofs.YtllfmlgnemkklaaDoor
open Go.RowKit Go.Sort

/-- Bytes from a cell on. -/
def Bz (W : World) (b o : Nat) (X : List Int) : Prop := ∀ i, i < X.length → W.cell? ⟨b, o + i, none⟩ = some (.int .u8 (X.getD i 0))
/-- Where a slice of these bytes points: an empty one anywhere, or nowhere. -/
def Az (a : Option Addr) (b o : Nat) (X : List Int) : Prop := X = [] ∨ a = some ⟨b, o, none⟩
/-- Bytes. -/
def Bys (X : List Int) : Prop := ∀ x ∈ X, 0 ≤ x ∧ x < 256
theorem Bz.keep {W W' : World} {b o : Nat} {X : List Int} (h : Bz W b o X) (hb : Below W.heap.size W W') : Bz W' b o X := fun i hi => cell_keep hb (h i hi)
/-- A slice of the call's own memory, of these bytes. -/
def OwnB (B : Nat) (W : World) (v : Value) (X : List Int) : Prop := W.ownsRow B 5 1 v X.length (X.map (Value.int .u8))
theorem OwnB.row {B : Nat} {W : World} {v : Value} {X : List Int} (h : OwnB B W v X) : W.ownsRow B 5 1 v X.length (X.map (Value.int .u8)) := h
theorem OwnB.nil (B : Nat) (W : World) : OwnB B W (.slice none 0 0) [] := ⟨rfl, .inl ⟨rfl, rfl⟩⟩
theorem grown_of_below {W W' : World} (h : Below W.heap.size W W') (row : Option Nat) : W.grownBy W' row := ⟨h.os, h.tape, h.output, h.size, fun k hk _ => h.block k hk⟩
theorem OwnB.keep {B : Nat} {W W' : World} {v : Value} {X : List Int} (h : OwnB B W v X) (hb : Below W.heap.size W W') : OwnB B W' v X :=
  World.ownsRow.kept h (grown_of_below hb Option.none) (by cases v.ownBlock <;> simp)
theorem OwnB.alloc {B : Nat} {W : World} {v : Value} {X : List Int} (h : OwnB B W v X) (o : Obj) : OwnB B (W.alloc o) v X := h.keep ((Below.refl _ _).alloc (Nat.le_refl _) o)
theorem OwnB.cell {B g n cap : Nat} {W : World} {X : List Int} (h : OwnB B W (.slice (some ⟨g, 0, none⟩) n cap) X) (hn : X.length = n) {i : Nat} (hi : i < n) : W.cell? ⟨g, i, none⟩ = some (.int .u8 (X.getD i 0)) := by
  subst hn
  rw [World.ownsRow.cellAt h i (by omega), List.getElem?_map, List.getElem?_eq_getElem hi, List.getD, List.getElem?_eq_getElem hi]
  rfl
/-- Where such a slice lies. -/
theorem OwnB.lies {B : Nat} {W : World} {v : Value} {X : List Int} (h : OwnB B W v X) : ∃ a g c, v = .slice a X.length c ∧ X.length ≤ c ∧ Az a g 0 X ∧ Bz W g 0 X ∧ (∀ k, v.ownBlock = some k → k = g ∧ B ≤ k ∧ k < W.heap.size) ∧ (X ≠ [] → v.ownBlock = some g) ∧ (a = none → c = 0) := by
  rcases h.2 with ⟨rfl, h0⟩ | ⟨g, cap, cur, rfl, hb, hg, hle, _⟩
  · have e : X = [] := List.length_eq_zero_iff.1 h0
    subst e
    exact ⟨_, 0, 0, rfl, Nat.le_refl _, .inl rfl, fun i hi => absurd hi (Nat.not_lt_zero _), (fun k hk => by cases hk), fun h => absurd rfl h, fun _ => rfl⟩
  · refine ⟨_, g, cap, rfl, hle, .inr rfl, fun i hi => by rw [Nat.zero_add]; exact OwnB.cell h rfl hi, fun k hk => ?_, fun _ => rfl, fun e => by cases e⟩
    have e : g = k := Option.some.inj hk
    subst e
    exact ⟨rfl, hb, (Array.getElem?_eq_some_iff.1 hg).1⟩
theorem take_snocI {X : List Int} {i : Nat} (h : i < X.length) : X.take (i + 1) = X.take i ++ [X.getD i 0] := by
  rw [List.take_add_one, List.getD, List.getElem?_eq_getElem h]
  rfl
theorem Az.cons {a : Option Addr} {b o : Nat} {X : List Int} (h : Az a b o X) (hx : 0 < X.length) : a = some ⟨b, o, none⟩ := by
  rcases h with e | e
  · rw [e] at hx; simp at hx
  · exact e
end Go.Proofs.YtllfmlgnemkklaaDoor

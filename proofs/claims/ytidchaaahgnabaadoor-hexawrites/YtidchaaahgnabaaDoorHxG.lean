import Derived.Test.YtidchaaahgnabaaDoorHxD
import Derived.Laws.OwnMore
namespace Go.Proofs.YtidchaaahgnabaaDoor
open Go.RowKit Go.Sort

theorem info_byteH : (Tryd.prog.info? 5).map (fun i => (i.zero, i.size, i.bytes)) = some (some (.int .u8 0), 1, 1) := by kernel_rfl
/-- A slice of the call's own memory, of these bytes. -/
def OwnB (B : Nat) (W : World) (v : Value) (X : List Int) : Prop := W.ownsRow B 5 1 v X.length (X.map (Value.int .u8))
theorem OwnB.row {B : Nat} {W : World} {v : Value} {X : List Int} (h : OwnB B W v X) : W.ownsRow B 5 1 v X.length (X.map (Value.int .u8)) := h
theorem OwnB.nil (B : Nat) (W : World) : OwnB B W (.slice none 0 0) [] := ⟨rfl, .inl ⟨rfl, rfl⟩⟩
theorem grown_of_below {W W' : World} (h : Below W.heap.size W W') (row : Option Nat) : W.grownBy W' row := ⟨h.os, h.tape, h.output, h.size, fun k hk _ => h.block k hk⟩
theorem OwnB.keep {B : Nat} {W W' : World} {v : Value} {X : List Int} (h : OwnB B W v X) (hb : Below W.heap.size W W') : OwnB B W' v X :=
  World.ownsRow.kept h (grown_of_below hb Option.none) (by cases v.ownBlock <;> simp)
theorem OwnB.cell {B g n cap : Nat} {W : World} {X : List Int} (h : OwnB B W (.slice (some ⟨g, 0, none⟩) n cap) X) (hn : X.length = n) {i : Nat} (hi : i < n) : W.cell? ⟨g, i, none⟩ = some (.int .u8 (X.getD i 0)) := by
  subst hn
  rw [World.ownsRow.cellAt h i (by omega), List.getElem?_map, List.getElem?_eq_getElem hi, List.getD, List.getElem?_eq_getElem hi]
  rfl
theorem OwnB.free {B g n cap : Nat} {W : World} {X : List Int} (h : OwnB B W (.slice (some ⟨g, 0, none⟩) n cap) X) (hn : X.length = n) (i : Nat) : W.frozen? ⟨g, i, none⟩ = false := by
  subst hn
  exact World.ownsRow.frozenAt h i
theorem OwnB.set {B g n cap : Nat} {W : World} {X : List Int} (h : OwnB B W (.slice (some ⟨g, 0, none⟩) n cap) X) (hn : X.length = n) (i : Nat) (u : Int) : OwnB B (W.setCell ⟨g, i, none⟩ (.int .u8 u)) (.slice (some ⟨g, 0, none⟩) n cap) (X.set i u) ∧ W.grownBy (W.setCell ⟨g, i, none⟩ (.int .u8 u)) (some g) := by
  subst hn
  have := World.ownsRow.stored h i (.int .u8 u)
  refine ⟨?_, this.2⟩
  rw [OwnB, List.length_set, List.map_set]
  exact this.1
/-- Bytes of pairs of digits. -/
def pk (t : ByteArray) (n : Nat) : List Int := (List.range n).map fun i => 16 * dv (bt t (2 * i)) + dv (bt t (2 * i + 1))
theorem pk_len (t : ByteArray) (n : Nat) : (pk t n).length = n := by simp [pk]
/-- The first i are written. -/
def part (P X : List Int) (i : Nat) : List Int := P.take i ++ X.drop i
end Go.Proofs.YtidchaaahgnabaaDoor

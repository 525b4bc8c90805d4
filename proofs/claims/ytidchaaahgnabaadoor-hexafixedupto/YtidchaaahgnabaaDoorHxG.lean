import Derived.Test.YtidchaaahgnabaaDoorHxE
import Derived.Laws.OwnMore
namespace Go.Proofs.YtidchaaahgnabaaDoor
open Go.RowKit Go.Sort

theorem info_byteH : (Tryd.prog.info? 5).map (fun i => (i.zero, i.size, i.bytes)) = some (some (.int .u8 0), 1, 1) := by kernel_rfl
/-- A slice of the call's own memory, of these bytes. -/
def OwnB (B : Nat) (W : World) (v : Value) (X : List Int) : Prop := W.ownsRow B 5 1 v X.length (X.map (Value.int .u8))
theorem OwnB.row {B : Nat} {W : World} {v : Value} {X : List Int} (h : OwnB B W v X) : W.ownsRow B 5 1 v X.length (X.map (Value.int .u8)) := h
theorem OwnB.nil (B : Nat) (W : World) : OwnB B W (.slice none 0 0) [] := ⟨rfl, .inl ⟨rfl, rfl⟩⟩
theorem grown_of_below {W W' : World} (h : Below W.heap.size W W') (row : Option Nat) : W.grownBy W' row := ⟨h.os, h.tape, h.output, h.size, fun k hk _ => h.block k hk⟩
theorem OwnB.keep {B : Nat} {W W' : World} {v : Value} {X : List Int} (h : OwnB B W v X) (hb : Below W.heap.size W W') : OwnB B W' v X :=
  World.ownsRow.kept h (grown_of_below hb Option.none) (by cases v.ownBlock <;> simp)
theorem OwnB.cell {B g n cap : Nat} {W : World} {X : List Int} (h : OwnB B W (.slice (some ⟨g, 0, none⟩) n cap) X) (hn : X.length = n) {i : Nat} (hi : i < n) : W.cell? ⟨g, i, none⟩ = some (.int .u8 (X.getD i 0)) := by
  subst hn
  rw [World.ownsRow.cellAt h i (by omega), List.getElem?_map, List.getElem?_eq_getElem hi, List.getD, List.getElem?_eq_getElem hi]
  rfl
theorem OwnB.free {B g n cap : Nat} {W : World} {X : List Int} (h : OwnB B W (.slice (some ⟨g, 0, none⟩) n cap) X) (hn : X.length = n) (i : Nat) : W.frozen? ⟨g, i, none⟩ = false := by
  subst hn
  exact World.ownsRow.frozenAt h i
theorem OwnB.set {B g n cap : Nat} {W : World} {X : List Int} (h : OwnB B W (.slice (some ⟨g, 0, none⟩) n cap) X) (hn : X.length = n) (i : Nat) (u : Int) : OwnB B (W.setCell ⟨g, i, none⟩ (.int .u8 u)) (.slice (some ⟨g, 0, none⟩) n cap) (X.set i u) ∧ W.grownBy (W.setCell ⟨g, i, none⟩ (.int .u8 u)) (some g) := by
  subst hn
  have := World.ownsRow.stored h i (.int .u8 u)
  refine ⟨?_, this.2⟩
  rw [OwnB, List.length_set, List.map_set]
  exact this.1
/-- Bytes of pairs of digits. -/
def pk (t : ByteArray) (n : Nat) : List Int := (List.range n).map fun i => 16 * dv (bt t (2 * i)) + dv (bt t (2 * i + 1))
theorem pk_len (t : ByteArray) (n : Nat) : (pk t n).length = n := by simp [pk]
theorem pk_snoc (t : ByteArray) (n : Nat) : pk t (n + 1) = pk t n ++ [16 * dv (bt t (2 * n)) + dv (bt t (2 * n + 1))] := by simp [pk, List.range_succ]
/-- The first i are written. -/
def part (P X : List Int) (i : Nat) : List Int := P.take i ++ X.drop i
theorem part_len {P X : List Int} {i : Nat} (h : P.length = X.length) : (part P X i).length = X.length := by
  unfold part; rw [List.length_append, List.length_take, List.length_drop]; omega
theorem part_set {P X : List Int} {i : Nat} (h : P.length = X.length) (hi : i < X.length) : (part P X i).set i (P.getD i 0) = part P X (i + 1) := by
  unfold part
  refine List.ext_getElem? fun j => ?_
  have hp : (P.take i).length = i := by rw [List.length_take]; omega
  have hp' : (P.take (i + 1)).length = i + 1 := by rw [List.length_take]; omega
  by_cases hj : j = i
  · subst hj
    rw [List.getElem?_set_self (by rw [List.length_append, hp, List.length_drop]; omega), List.getElem?_append_left (by omega), List.getElem?_take, if_pos (by omega), List.getElem?_eq_getElem (by omega), List.getD, List.getElem?_eq_getElem (by omega)]
    rfl
  · rw [List.getElem?_set_ne (by omega)]
    by_cases hl : j < i
    · rw [List.getElem?_append_left (by omega), List.getElem?_append_left (by omega), List.getElem?_take, if_pos hl, List.getElem?_take, if_pos (by omega)]
    · rw [List.getElem?_append_right (by omega), List.getElem?_append_right (by omega), hp, hp', List.getElem?_drop, List.getElem?_drop]
      congr 1
      omega
theorem part_zero (P X : List Int) : part P X 0 = X := by simp [part]
theorem part_all {P X : List Int} (h : P.length = X.length) : part P X X.length = P := by
  unfold part
  rw [List.drop_length, List.append_nil, ← h, List.take_length]
theorem nib {x y : Int} (x0 : 0 ≤ x) (x1 : x ≤ 15) (y0 : 0 ≤ y) (y1 : y ≤ 15) : bits .or .u8 (x * 16) y = 16 * x + y := by
  have hx : x = 0 ∨ x = 1 ∨ x = 2 ∨ x = 3 ∨ x = 4 ∨ x = 5 ∨ x = 6 ∨ x = 7 ∨ x = 8 ∨ x = 9 ∨ x = 10 ∨ x = 11 ∨ x = 12 ∨ x = 13 ∨ x = 14 ∨ x = 15 := by omega
  have hy : y = 0 ∨ y = 1 ∨ y = 2 ∨ y = 3 ∨ y = 4 ∨ y = 5 ∨ y = 6 ∨ y = 7 ∨ y = 8 ∨ y = 9 ∨ y = 10 ∨ y = 11 ∨ y = 12 ∨ y = 13 ∨ y = 14 ∨ y = 15 := by omega
  rcases hx with rfl | rfl | rfl | rfl | rfl | rfl | rfl | rfl | rfl | rfl | rfl | rfl | rfl | rfl | rfl | rfl <;> rcases hy with rfl | rfl | rfl | rfl | rfl | rfl | rfl | rfl | rfl | rfl | rfl | rfl | rfl | rfl | rfl | rfl <;> decide +kernel

end Go.Proofs.YtidchaaahgnabaaDoor

import Derived.Test.YtahekhamhdfkdaaStrict
import Derived.Test.YtahekhamhdfkdaaRowB
import Derived.Deep.LoopGhost
import Derived.Test.YtahekhamhdfkdaaRoomy
import Derived.Test.YtahekhamhdfkdaaGet
import Derived.Test.YtahekhamhdfkdaaLen
import Derived.Maps.AppendAt
import Derived.Lib.AppendZeros
import Derived.StillTail
import Derived.Lib.QuietBelow
import Derived.Laws.OwnMore
/- Layer 1: bytes as numbers, lists of one's own (as in layer 11). -/
namespace Go.Proofs.Ytahekhamhdfkdaa
open Go.RowKit Go.Sort

/-- Bytes from a cell on. -/
def Bz (W : World) (b o : Nat) (X : List Int) : Prop := ∀ i, i < X.length → W.cell? ⟨b, o + i, none⟩ = some (.int .u8 (X.getD i 0))
/-- Where a slice of these bytes points: an empty one anywhere, or nowhere. -/
def Az (a : Option Addr) (b o : Nat) (X : List Int) : Prop := X = [] ∨ a = some ⟨b, o, none⟩
/-- Bytes. -/
def Bys (X : List Int) : Prop := ∀ x ∈ X, 0 ≤ x ∧ x < 256
theorem Bys.at {X : List Int} (h : Bys X) (i : Nat) : 0 ≤ X.getD i 0 ∧ X.getD i 0 < 256 := by
  by_cases hi : i < X.length
  · rw [List.getD, List.getElem?_eq_getElem hi]
    exact h _ (List.getElem_mem hi)
  · rw [List.getD, List.getElem?_eq_none (by omega)]
    exact ⟨by decide, by decide⟩
theorem Bys.drop {X : List Int} (h : Bys X) (n : Nat) : Bys (X.drop n) := fun x hx => h x (List.mem_of_mem_drop hx)
theorem Bys.app {X Z : List Int} (h : Bys X) (k : Bys Z) : Bys (X ++ Z) := fun x hx => by
  rcases List.mem_append.1 hx with e | e
  · exact h x e
  · exact k x e
theorem Bz.keep {W W' : World} {b o : Nat} {X : List Int} (h : Bz W b o X) (hb : Below W.heap.size W W') : Bz W' b o X := fun i hi => cell_keep hb (h i hi)
theorem Bz.drop {W : World} {b o n : Nat} {X : List Int} (h : Bz W b o X) : Bz W b (o + n) (X.drop n) := fun i hi => by
  rw [List.length_drop] at hi
  have := h (n + i) (by omega)
  rw [show o + n + i = o + (n + i) by omega, this]
  simp [List.getD, List.getElem?_drop]
theorem Bz.take {W : World} {b o n : Nat} {X : List Int} (h : Bz W b o X) : Bz W b o (X.take n) := fun i hi => by
  rw [List.length_take] at hi
  have := h i (by omega)
  rw [this]
  simp [List.getD, show i < n by omega]
theorem Bz.same {W W' : World} {b o : Nat} {X : List Int} (h : Bz W b o X) (e : W'.heap[b]? = W.heap[b]?) : Bz W' b o X := fun i hi => by rw [World.cell?_of_block (w := W) (a := ⟨b, o + i, none⟩) e]; exact h i hi
theorem Bz.front {W : World} {b o : Nat} {X Z : List Int} (h : Bz W b o (X ++ Z)) : Bz W b o X := fun i hi => by
  have := h i (by rw [List.length_append]; omega)
  rw [this, List.getD, List.getElem?_append_left hi, ← List.getD]
theorem Bz.grown {W W' : World} {b o : Nat} {X : List Int} {row : Option Nat} (h : Bz W b o X) (hg : W.grownBy W' row) (hn : X ≠ [] → row ≠ some b) : Bz W' b o X := fun i hi => by
  have c := h i hi
  have hb := hg.block b (World.block_lt_of_cell? W _ c) (fun e => hn (fun e => by rw [e] at hi; simp at hi) e.symm)
  rw [World.cell?_of_block (w := W) (a := ⟨b, o + i, none⟩) hb]; exact c
/-- A slice of the call's own memory, of these bytes. -/
def OwnB (B : Nat) (W : World) (v : Value) (X : List Int) : Prop := W.ownsRow B 5 1 v X.length (X.map (Value.int .u8))
theorem OwnB.row {B : Nat} {W : World} {v : Value} {X : List Int} (h : OwnB B W v X) : W.ownsRow B 5 1 v X.length (X.map (Value.int .u8)) := h
theorem OwnB.nil (B : Nat) (W : World) : OwnB B W (.slice none 0 0) [] := ⟨rfl, .inl ⟨rfl, rfl⟩⟩
theorem grown_of_below {W W' : World} (h : Below W.heap.size W W') (row : Option Nat) : W.grownBy W' row := ⟨h.os, h.tape, h.output, h.size, fun k hk _ => h.block k hk⟩
theorem OwnB.keep {B : Nat} {W W' : World} {v : Value} {X : List Int} (h : OwnB B W v X) (hb : Below W.heap.size W W') : OwnB B W' v X :=
  World.ownsRow.kept h (grown_of_below hb Option.none) (by cases v.ownBlock <;> simp)
theorem OwnB.alloc {B : Nat} {W : World} {v : Value} {X : List Int} (h : OwnB B W v X) (o : Obj) : OwnB B (W.alloc o) v X := h.keep ((Below.refl _ _).alloc (Nat.le_refl _) o)
theorem OwnB.base {B B' : Nat} {W : World} {v : Value} {X : List Int} (h : OwnB B W v X) (hB : B' ≤ B) : OwnB B' W v X := by
  refine ⟨h.1, ?_⟩
  rcases h.2 with h | ⟨g, cap, cur, rfl, hb, r⟩
  · exact .inl h
  · exact .inr ⟨g, cap, cur, rfl, by omega, r⟩
theorem OwnB.kept {B : Nat} {W W' : World} {v : Value} {X : List Int} {row : Option Nat} (h : OwnB B W v X) (hg : W.grownBy W' row) (hn : ∀ k, v.ownBlock = some k → row ≠ some k) : OwnB B W' v X :=
  World.ownsRow.kept h hg (by
    cases hd : v.ownBlock with
    | none => exact .inl rfl
    | some k => exact .inr fun e => hn k hd e.symm)
theorem OwnB.cell {B g n cap : Nat} {W : World} {X : List Int} (h : OwnB B W (.slice (some ⟨g, 0, none⟩) n cap) X) (hn : X.length = n) {i : Nat} (hi : i < n) : W.cell? ⟨g, i, none⟩ = some (.int .u8 (X.getD i 0)) := by
  subst hn
  rw [World.ownsRow.cellAt h i (by omega), List.getElem?_map, List.getElem?_eq_getElem hi, List.getD, List.getElem?_eq_getElem hi]
  rfl
theorem OwnB.free {B g n cap : Nat} {W : World} {X : List Int} (h : OwnB B W (.slice (some ⟨g, 0, none⟩) n cap) X) (hn : X.length = n) (i : Nat) : W.frozen? ⟨g, i, none⟩ = false := by
  subst hn
  exact World.ownsRow.frozenAt h i
theorem OwnB.set {B g n cap : Nat} {W : World} {X : List Int} (h : OwnB B W (.slice (some ⟨g, 0, none⟩) n cap) X) (hn : X.length = n) (i : Nat) (u : Int) : OwnB B (W.setCell ⟨g, i, none⟩ (.int .u8 u)) (.slice (some ⟨g, 0, none⟩) n cap) (X.set i u) ∧ W.grownBy (W.setCell ⟨g, i, none⟩ (.int .u8 u)) (some g) := by
  subst hn
  have := World.ownsRow.stored h i (.int .u8 u)
  refine ⟨?_, this.2⟩
  rw [OwnB, List.length_set, List.map_set]
  exact this.1
/-- Where such a slice lies. -/
theorem OwnB.lies {B : Nat} {W : World} {v : Value} {X : List Int} (h : OwnB B W v X) : ∃ a g c, v = .slice a X.length c ∧ X.length ≤ c ∧ Az a g 0 X ∧ Bz W g 0 X ∧ (∀ k, v.ownBlock = some k → k = g ∧ B ≤ k ∧ k < W.heap.size) ∧ (X ≠ [] → v.ownBlock = some g) ∧ (a = none → c = 0) := by
  rcases h.2 with ⟨rfl, h0⟩ | ⟨g, cap, cur, rfl, hb, hg, hle, _⟩
  · have e : X = [] := List.length_eq_zero_iff.1 h0
    subst e
    exact ⟨_, 0, 0, rfl, Nat.le_refl _, .inl rfl, fun i hi => absurd hi (Nat.not_lt_zero _), (fun k hk => by cases hk), fun h => absurd rfl h, fun _ => rfl⟩
  · refine ⟨_, g, cap, rfl, hle, .inr rfl, fun i hi => by rw [Nat.zero_add]; exact OwnB.cell h rfl hi, fun k hk => ?_, fun _ => rfl, fun e => by cases e⟩
    have e : g = k := Option.some.inj hk
    subst e
    exact ⟨rfl, hb, (Array.getElem?_eq_some_iff.1 hg).1⟩
theorem OwnB.lt {B : Nat} {W : World} {v : Value} {X : List Int} (h : OwnB B W v X) (k : Nat) (hk : v.ownBlock = some k) : B ≤ k ∧ k < W.heap.size := by
  obtain ⟨_, _, _, _, _, _, _, h5, _⟩ := h.lies
  exact (h5 k hk).2
theorem take_snocI {X : List Int} {i : Nat} (h : i < X.length) : X.take (i + 1) = X.take i ++ [X.getD i 0] := by
  rw [List.take_add_one, List.getD, List.getElem?_eq_getElem h]
  rfl
theorem Az.cons {a : Option Addr} {b o : Nat} {X : List Int} (h : Az a b o X) (hx : 0 < X.length) : a = some ⟨b, o, none⟩ := by
  rcases h with e | e
  · rw [e] at hx; simp at hx
  · exact e
/-- Of two lists, are the first i the same? -/
theorem take_same {X Z : List Int} {i : Nat} (h1 : i < X.length) (h2 : i < Z.length) (h : X.take i = Z.take i) (e : X.getD i 0 = Z.getD i 0) : X.take (i + 1) = Z.take (i + 1) := by
  rw [take_snocI h1, take_snocI h2, h, e]
end Go.Proofs.Ytahekhamhdfkdaa

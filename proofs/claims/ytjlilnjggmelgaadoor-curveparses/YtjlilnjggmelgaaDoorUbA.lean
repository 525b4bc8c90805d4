import Derived.Test.YtjlilnjggmelgaaDoorStrict
import Derived.Test.YtjlilnjggmelgaaDoorRowB
import Derived.Deep.LoopGhost
import Derived.Test.YtjlilnjggmelgaaDoorRoomy
import Derived.Test.YtjlilnjggmelgaaDoorGet
import Derived.Test.YtjlilnjggmelgaaDoorLen
import Derived.Maps.AppendAt
import Derived.Lib.AppendZeros
import Derived.StillTail
import Derived.Lib.QuietBelow
import Derived.Laws.OwnMore
/- Layer 1: bytes as numbers, lists of one's own (as in layer 11). -/
namespace Go.Proofs.YtjlilnjggmelgaaDoor
open Go.RowKit Go.Sort

/-- Bytes from a cell on. -/
def Bz (W : World) (b o : Nat) (X : List Int) : Prop := ∀ i, i < X.length → W.cell? ⟨b, o + i, none⟩ = some (.int .u8 (X.getD i 0))
/-- Where a slice of these bytes points: an empty one anywhere, or nowhere. -/
def Az (a : Option Addr) (b o : Nat) (X : List Int) : Prop := X = [] ∨ a = some ⟨b, o, none⟩
/-- Bytes. -/
def Bys (X : List Int) : Prop := ∀ x ∈ X, 0 ≤ x ∧ x < 256
theorem Bys.at {X : List Int} (h : Bys X) (i : Nat) : 0 ≤ X.getD i 0 ∧ X.getD i 0 < 256 := by
  by_cases hi : i < X.length
  · rw [List.getD, List.getElem?_eq_getElem hi]
    exact h _ (List.getElem_mem hi)
  · rw [List.getD, List.getElem?_eq_none (by omega)]
    exact ⟨by decide, by decide⟩
theorem Bys.drop {X : List Int} (h : Bys X) (n : Nat) : Bys (X.drop n) := fun x hx => h x (List.mem_of_mem_drop hx)
theorem Bz.keep {W W' : World} {b o : Nat} {X : List Int} (h : Bz W b o X) (hb : Below W.heap.size W W') : Bz W' b o X := fun i hi => cell_keep hb (h i hi)
theorem Bz.drop {W : World} {b o n : Nat} {X : List Int} (h : Bz W b o X) : Bz W b (o + n) (X.drop n) := fun i hi => by
  rw [List.length_drop] at hi
  have := h (n + i) (by omega)
  rw [show o + n + i = o + (n + i) by omega, this]
  simp [List.getD, List.getElem?_drop]
theorem Bz.take {W : World} {b o n : Nat} {X : List Int} (h : Bz W b o X) : Bz W b o (X.take n) := fun i hi => by
  rw [List.length_take] at hi
  have := h i (by omega)
  rw [this]
  simp [List.getD, show i < n by omega]
theorem Bz.same {W W' : World} {b o : Nat} {X : List Int} (h : Bz W b o X) (e : W'.heap[b]? = W.heap[b]?) : Bz W' b o X := fun i hi => by rw [World.cell?_of_block (w := W) (a := ⟨b, o + i, none⟩) e]; exact h i hi
theorem Bz.front {W : World} {b o : Nat} {X Z : List Int} (h : Bz W b o (X ++ Z)) : Bz W b o X := fun i hi => by
  have := h i (by rw [List.length_append]; omega)
  rw [this, List.getD, List.getElem?_append_left hi, ← List.getD]
theorem Bz.grown {W W' : World} {b o : Nat} {X : List Int} {row : Option Nat} (h : Bz W b o X) (hg : W.grownBy W' row) (hn : X ≠ [] → row ≠ some b) : Bz W' b o X := fun i hi => by
  have c := h i hi
  have hb := hg.block b (World.block_lt_of_cell? W _ c) (fun e => hn (fun e => by rw [e] at hi; simp at hi) e.symm)
  rw [World.cell?_of_block (w := W) (a := ⟨b, o + i, none⟩) hb]; exact c
/-- A slice of the call's own memory, of these bytes. -/
def OwnB (B : Nat) (W : World) (v : Value) (X : List Int) : Prop := W.ownsRow B 5 1 v X.length (X.map (Value.int .u8))
theorem OwnB.row {B : Nat} {W : World} {v : Value} {X : List Int} (h : OwnB B W v X) : W.ownsRow B 5 1 v X.length (X.map (Value.int .u8)) := h
theorem OwnB.nil (B : Nat) (W : World) : OwnB B W (.slice none 0 0) [] := ⟨rfl, .inl ⟨rfl, rfl⟩⟩
theorem grown_of_below {W W' : World} (h : Below W.heap.size W W') (row : Option Nat) : W.grownBy W' row := ⟨h.os, h.tape, h.output, h.size, fun k hk _ => h.block k hk⟩
theorem OwnB.keep {B : Nat} {W W' : World} {v : Value} {X : List Int} (h : OwnB B W v X) (hb : Below W.heap.size W W') : OwnB B W' v X :=
  World.ownsRow.kept h (grown_of_below hb Option.none) (by cases v.ownBlock <;> simp)
theorem OwnB.alloc {B : Nat} {W : World} {v : Value} {X : List Int} (h : OwnB B W v X) (o : Obj) : OwnB B (W.alloc o) v X := h.keep ((Below.refl _ _).alloc (Nat.le_refl _) o)
theorem OwnB.base {B B' : Nat} {W : World} {v : Value} {X : List Int} (h : OwnB B W v X) (hB : B' ≤ B) : OwnB B' W v X := by
  refine ⟨h.1, ?_⟩
  rcases h.2 with h | ⟨g, cap, cur, rfl, hb, r⟩
  · exact .inl h
  · exact .inr ⟨g, cap, cur, rfl, by omega, r⟩
theorem OwnB.kept {B : Nat} {W W' : World} {v : Value} {X : List Int} {row : Option Nat} (h : OwnB B W v X) (hg : W.grownBy W' row) (hn : ∀ k, v.ownBlock = some k → row ≠ some k) : OwnB B W' v X :=
  World.ownsRow.kept h hg (by
    cases hd : v.ownBlock with
    | none => exact .inl rfl
    | some k => exact .inr fun e => hn k hd e.symm)
theorem OwnB.cell {B g n cap : Nat} {W : World} {X : List Int} (h : OwnB B W (.slice (some ⟨g, 0, none⟩) n cap) X) (hn : X.length = n) {i : Nat} (hi : i < n) : W.cell? ⟨g, i, none⟩ = some (.int .u8 (X.getD i 0)) := by
  subst hn
  rw [World.ownsRow.cellAt h i (by omega), List.getElem?_map, List.getElem?_eq_getElem hi, List.getD, List.getElem?_eq_getElem hi]
  rfl
theorem OwnB.free {B g n cap : Nat} {W : World} {X : List Int} (h : OwnB B W (.slice (some ⟨g, 0, none⟩) n cap) X) (hn : X.length = n) (i : Nat) : W.frozen? ⟨g, i, none⟩ = false := by
  subst hn
  exact World.ownsRow.frozenAt h i
theorem OwnB.set {B g n cap : Nat} {W : World} {X : List Int} (h : OwnB B W (.slice (some ⟨g, 0, none⟩) n cap) X) (hn : X.length = n) (i : Nat) (u : Int) : OwnB B (W.setCell ⟨g, i, none⟩ (.int .u8 u)) (.slice (some ⟨g, 0, none⟩) n cap) (X.set i u) ∧ W.grownBy (W.setCell ⟨g, i, none⟩ (.int .u8 u)) (some g) := by
  subst hn
  have := World.ownsRow.stored h i (.int .u8 u)
  refine ⟨?_, this.2⟩
  rw [OwnB, List.length_set, List.map_set]
  exact this.1
/-- Where such a slice lies. -/
theorem OwnB.lies {B : Nat} {W : World} {v : Value} {X : List Int} (h : OwnB B W v X) : ∃ a g c, v = .slice a X.length c ∧ X.length ≤ c ∧ Az a g 0 X ∧ Bz W g 0 X ∧ (∀ k, v.ownBlock = some k → k = g ∧ B ≤ k ∧ k < W.heap.size) ∧ (X ≠ [] → v.ownBlock = some g) ∧ (a = none → c = 0) := by
  rcases h.2 with ⟨rfl, h0⟩ | ⟨g, cap, cur, rfl, hb, hg, hle, _⟩
  · have e : X = [] := List.length_eq_zero_iff.1 h0
    subst e
    exact ⟨_, 0, 0, rfl, Nat.le_refl _, .inl rfl, fun i hi => absurd hi (Nat.not_lt_zero _), (fun k hk => by cases hk), fun h => absurd rfl h, fun _ => rfl⟩
  · refine ⟨_, g, cap, rfl, hle, .inr rfl, fun i hi => by rw [Nat.zero_add]; exact OwnB.cell h rfl hi, fun k hk => ?_, fun _ => rfl, fun e => by cases e⟩
    have e : g = k := Option.some.inj hk
    subst e
    exact ⟨rfl, hb, (Array.getElem?_eq_some_iff.1 hg).1⟩
theorem OwnB.lt {B : Nat} {W : World} {v : Value} {X : List Int} (h : OwnB B W v X) (k : Nat) (hk : v.ownBlock = some k) : B ≤ k ∧ k < W.heap.size := by
  obtain ⟨_, _, _, _, _, _, _, h5, _⟩ := h.lies
  exact (h5 k hk).2
theorem take_snocI {X : List Int} {i : Nat} (h : i < X.length) : X.take (i + 1) = X.take i ++ [X.getD i 0] := by
  rw [List.take_add_one, List.getD, List.getElem?_eq_getElem h]
  rfl
theorem Az.cons {a : Option Addr} {b o : Nat} {X : List Int} (h : Az a b o X) (hx : 0 < X.length) : a = some ⟨b, o, none⟩ := by
  rcases h with e | e
  · rw [e] at hx; simp at hx
  · exact e
end Go.Proofs.YtjlilnjggmelgaaDoor

/- Layer 1: the document's Bytes. -/
namespace Go.Proofs.YtjlilnjggmelgaaDoor
open Go.RowKit

end Go.Proofs.YtjlilnjggmelgaaDoor

/- Layer 1: slices.Clone, Bytes. -/
namespace Go.Proofs.YtjlilnjggmelgaaDoor
open Go.RowKit Go.Sort

end Go.Proofs.YtjlilnjggmelgaaDoor

/- Layer 1: Get of the document and roomy, of any list. -/
namespace Go.Proofs.YtjlilnjggmelgaaDoor
open Go.RowKit Go.Sort

set_option maxHeartbeats 4000000 in
theorem rget_any {A : List Int} {a : Option Addr} {bb ob cb : Nat} (hZ : Az a bb ob A) (hA : Byts A) (hl : A.length ≤ 32) (w : World) (ha : ∀ i, i < A.length → w.cell? ⟨bb, ob + i, none⟩ = some (.int .u8 (A.getD i 0))) :
    Calls Tryd.prog 12 #[.slice a A.length cb] w fun e w' => e = .returned (.tuple #[.agg #[.int .u64 (l0 (sufN A A.length)), .int .u64 (l1 (sufN A A.length)), .int .u64 (l2 (sufN A A.length)), .int .u64 (l3 (sufN A A.length))], .int .i64 0]) ∧ Below w.heap.size w w' := by
  have hl' : (A.length : Int) ≤ 32 := by omega
  have HZ : Hid (Az a bb ob A) := hZ
  clear hZ
  have hb0 := build_zero
  go_enter Tryd.func12, Tryd.ntmps12
  go_wp2_with fail
  refine wp_world (fun W => Below w.heap.size w W ∧ Blank W w.heap.size ∧ Row W (w.heap.size + 1) [l0 0, l1 0, l2 0, l3 0] ∧ Loose W (w.heap.size + 1) 4) ⟨?_, (Blank.new rfl).alloc _, ?_, ?_⟩ ?_
  · repeat (first | with_reducible exact Below.refl _ _ | with_reducible refine Below.alloc ?_ (by first | omega | (simp; done) | (simp; omega)) _)
  · obtain ⟨z0, z1, z2, z3⟩ := zero_limbs
    rw [z0, z1, z2, z3]
    exact (Blank.new (by simp)).1
  · exact (Blank.new (by simp)).2
  rintro W ⟨B, hR, hX, lX⟩
  have c1 : w.heap.size + 1 ≠ w.heap.size := by omega
  have o1 : w.heap.size ≤ w.heap.size + 1 := by omega
  generalize w.heap.size + 1 = bx at *
  have HA : Hid (Byts A ∧ ∀ i, i < A.length → w.cell? ⟨bb, ob + i, none⟩ = some (.int .u8 (A.getD i 0))) := ⟨hA, ha⟩
  clear hA ha
  go_loopg [5] A.length (fun k iv wr => ∃ i : Nat, k = A.length - i ∧ i ≤ A.length ∧ iv = .int .i64 i ∧ Below w.heap.size w wr ∧ Blank wr w.heap.size ∧ Row wr bx [l0 (gpreN A i), l1 (gpreN A i), l2 (gpreN A i), l3 (gpreN A i)] ∧ Loose wr bx 4)
  case atStart => exact ⟨0, rfl, Nat.zero_le _, rfl, B, hR, hX, lX⟩
  case round =>
    clear B hR hX lX
    obtain ⟨i, hk, hi, rfl, B, hR, hX, lX⟩ := hrel
    have HK : Hid (gk = A.length - i) := hk
    clear hk
    by_cases h8 : i = A.length
    · subst h8
      rw [pre_all] at hX
      have gX := hX.all4; have gR := hR.1.all4; have fR := hR.2.all4
      go_wp2
      simp [bodyPost, results, Tryd.results12, go_sem, gR]
      exact below_set4 B (Nat.le_refl _) _ _ _ _
    · have hi' : (i : Int) < A.length := by omega
      have hi2 : (i : Int) < 32 := by omega
      obtain rfl := HZ.out.cons (by omega)
      have lt : bb < w.heap.size := World.block_lt_of_cell? w _ (HA.out.2 0 (by omega))
      obtain ⟨K, hK⟩ : ∃ K : Nat, A.length - 1 - i = K := ⟨_, rfl⟩
      have eK : (A.length : Int) - 1 - (i : Int) = (K : Int) := by omega
      have K1 : (K : Int) < 32 := by omega
      have e1 : ((K : Int) / 8).toNat = K / 8 := by omega
      have gy : wr.cell? ⟨bb, ob + i, none⟩ = some (.int .u8 (A.getD i 0)) := by rw [B.cell (p := ⟨bb, ob + i, none⟩) lt]; exact HA.out.2 _ (by omega)
      have gx := hX (K / 8) (by simp; omega)
      have fx := lX (K / 8) (by omega)
      obtain ⟨b0, b1⟩ := HA.out.1 i
      obtain ⟨nX, t, ht⟩ := gpreN_bound HA.out.1 hl hi
      obtain ⟨y0, z0, z1, ev⟩ := limb_top (k := K) (by omega) nX (by rw [ht, show A.length - i = K + 1 by omega]) b0 b1
      have EV : Hid ([l0 (gpreN A (i + 1)), l1 (gpreN A (i + 1)), l2 (gpreN A (i + 1)), l3 (gpreN A (i + 1))] = [l0 (gpreN A i), l1 (gpreN A i), l2 (gpreN A i), l3 (gpreN A i)].set (K / 8) ([l0 (gpreN A i), l1 (gpreN A i), l2 (gpreN A i), l3 (gpreN A i)].getD (K / 8) 0 + A.getD i 0 * 2 ^ (8 * (K % 8)))) := by rw [gpreN, hK]; exact ev
      clear ev ht nX
      generalize hy : [l0 (gpreN A i), l1 (gpreN A i), l2 (gpreN A i), l3 (gpreN A i)].getD (K / 8) 0 = y at *
      generalize hv : A.getD i 0 = v at *
      clear hy hv
      have wz : IntKind.u64.wrap (v * 2 ^ (8 * (K % 8))) = v * 2 ^ (8 * (K % 8)) := by rw [IntKind.wrap_u64]; omega
      have wy : IntKind.u64.wrap (y + v * 2 ^ (8 * (K % 8))) = y + v * 2 ^ (8 * (K % 8)) := by rw [IntKind.wrap_u64]; omega
      go_wp2
      go_region
      go_wp2
      go_roundg (A.length - (i + 1))
      case measure => have := HK.out; omega
      case rel =>
        refine ⟨i + 1, rfl, by omega, by go_num, B.drew.setCell o1 _, hR.drew.set c1 _, ?_, lX.drew.set _ _⟩
        rw [EV.out]
        exact Row.set hX.drew (K / 8) (by simp; omega) _

end Go.Proofs.YtjlilnjggmelgaaDoor

/- Layer 1: Get, Strict of any list; '==' of 32 bytes. -/
namespace Go.Proofs.YtjlilnjggmelgaaDoor
open Go.RowKit Go.Sort

theorem Bts.bz {W : World} {b : Nat} {l : List Int} (h : Bts W b l) : Bz W b 0 l := fun i hi => by rw [Nat.zero_add]; exact h.1 i hi
end Go.Proofs.YtjlilnjggmelgaaDoor

/- Bytes there and back: plain numbers; Get and Strict of any slice. -/
namespace Go.Proofs.YtjlilnjggmelgaaDoor
open Go.RowKit Go.Sort

theorem p256 (k : Nat) : (1 : Int) ≤ 256 ^ k := by
  induction k with
  | zero => decide
  | succ k ih => rw [Int.pow_succ]; omega
theorem drop_bytsU {l : List Int} (h : Byts l) (k : Nat) : Byts (l.drop k) := fun i => by
  have := h (k + i)
  simpa [List.getD, List.getElem?_drop] using this
theorem suf_numU {X : List Int} (hX : Byts X) (hl : X.length ≤ 32) : Num (sufN X X.length) := by
  obtain ⟨a, b⟩ := sufN_bound hX X.length
  refine ⟨a, Int.lt_of_lt_of_le b ?_⟩
  have e : (256 : Int) ^ 32 = 115792089237316195423570985008687907853269984665640564039457584007913129639936 := by decide +kernel
  rw [← e]
  obtain ⟨k, hk⟩ : ∃ k, 32 = X.length + k := ⟨32 - X.length, by omega⟩
  rw [hk, Int.pow_add]
  have p := p256 X.length
  have q := p256 k
  have : (256 : Int) ^ X.length * 1 ≤ 256 ^ X.length * 256 ^ k := Int.mul_le_mul_of_nonneg_left q (by omega)
  omega
end Go.Proofs.YtjlilnjggmelgaaDoor

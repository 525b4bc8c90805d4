import Derived.Test.YtahekhamhdfkdaaStrict
import Derived.Test.YtahekhamhdfkdaaRowB
import Derived.Deep.LoopGhost
import Derived.Test.YtahekhamhdfkdaaRoomy
import Derived.Test.YtahekhamhdfkdaaGet
import Derived.Test.YtahekhamhdfkdaaLen
import Derived.Maps.AppendAt
import Derived.Lib.AppendZeros
import Derived.StillTail
import Derived.Lib.QuietBelow
import Derived.Laws.OwnMore
import Derived.Test.YtahekhamhdfkdaaShiftNum
/- Layer 1: bytes as numbers, lists of one's own (as in layer 11). -/
namespace Go.Proofs.Ytahekhamhdfkdaa
open Go.RowKit Go.Sort

/-- Bytes from a cell on. -/
def Bz (W : World) (b o : Nat) (X : List Int) : Prop := ∀ i, i < X.length → W.cell? ⟨b, o + i, none⟩ = some (.int .u8 (X.getD i 0))
/-- Where a slice of these bytes points: an empty one anywhere, or nowhere. -/
def Az (a : Option Addr) (b o : Nat) (X : List Int) : Prop := X = [] ∨ a = some ⟨b, o, none⟩
/-- Bytes. -/
def Bys (X : List Int) : Prop := ∀ x ∈ X, 0 ≤ x ∧ x < 256
theorem Bys.at {X : List Int} (h : Bys X) (i : Nat) : 0 ≤ X.getD i 0 ∧ X.getD i 0 < 256 := by
  by_cases hi : i < X.length
  · rw [List.getD, List.getElem?_eq_getElem hi]
    exact h _ (List.getElem_mem hi)
  · rw [List.getD, List.getElem?_eq_none (by omega)]
    exact ⟨by decide, by decide⟩
theorem Bys.drop {X : List Int} (h : Bys X) (n : Nat) : Bys (X.drop n) := fun x hx => h x (List.mem_of_mem_drop hx)
theorem Bys.app {X Z : List Int} (h : Bys X) (k : Bys Z) : Bys (X ++ Z) := fun x hx => by
  rcases List.mem_append.1 hx with e | e
  · exact h x e
  · exact k x e
theorem Bz.keep {W W' : World} {b o : Nat} {X : List Int} (h : Bz W b o X) (hb : Below W.heap.size W W') : Bz W' b o X := fun i hi => cell_keep hb (h i hi)
theorem Bz.drop {W : World} {b o n : Nat} {X : List Int} (h : Bz W b o X) : Bz W b (o + n) (X.drop n) := fun i hi => by
  rw [List.length_drop] at hi
  have := h (n + i) (by omega)
  rw [show o + n + i = o + (n + i) by omega, this]
  simp [List.getD, List.getElem?_drop]
theorem Bz.take {W : World} {b o n : Nat} {X : List Int} (h : Bz W b o X) : Bz W b o (X.take n) := fun i hi => by
  rw [List.length_take] at hi
  have := h i (by omega)
  rw [this]
  simp [List.getD, show i < n by omega]
theorem Bz.same {W W' : World} {b o : Nat} {X : List Int} (h : Bz W b o X) (e : W'.heap[b]? = W.heap[b]?) : Bz W' b o X := fun i hi => by rw [World.cell?_of_block (w := W) (a := ⟨b, o + i, none⟩) e]; exact h i hi
theorem Bz.front {W : World} {b o : Nat} {X Z : List Int} (h : Bz W b o (X ++ Z)) : Bz W b o X := fun i hi => by
  have := h i (by rw [List.length_append]; omega)
  rw [this, List.getD, List.getElem?_append_left hi, ← List.getD]
theorem Bz.grown {W W' : World} {b o : Nat} {X : List Int} {row : Option Nat} (h : Bz W b o X) (hg : W.grownBy W' row) (hn : X ≠ [] → row ≠ some b) : Bz W' b o X := fun i hi => by
  have c := h i hi
  have hb := hg.block b (World.block_lt_of_cell? W _ c) (fun e => hn (fun e => by rw [e] at hi; simp at hi) e.symm)
  rw [World.cell?_of_block (w := W) (a := ⟨b, o + i, none⟩) hb]; exact c
/-- A slice of the call's own memory, of these bytes. -/
def OwnB (B : Nat) (W : World) (v : Value) (X : List Int) : Prop := W.ownsRow B 5 1 v X.length (X.map (Value.int .u8))
theorem OwnB.row {B : Nat} {W : World} {v : Value} {X : List Int} (h : OwnB B W v X) : W.ownsRow B 5 1 v X.length (X.map (Value.int .u8)) := h
theorem OwnB.nil (B : Nat) (W : World) : OwnB B W (.slice none 0 0) [] := ⟨rfl, .inl ⟨rfl, rfl⟩⟩
theorem grown_of_below {W W' : World} (h : Below W.heap.size W W') (row : Option Nat) : W.grownBy W' row := ⟨h.os, h.tape, h.output, h.size, fun k hk _ => h.block k hk⟩
theorem OwnB.keep {B : Nat} {W W' : World} {v : Value} {X : List Int} (h : OwnB B W v X) (hb : Below W.heap.size W W') : OwnB B W' v X :=
  World.ownsRow.kept h (grown_of_below hb Option.none) (by cases v.ownBlock <;> simp)
theorem OwnB.alloc {B : Nat} {W : World} {v : Value} {X : List Int} (h : OwnB B W v X) (o : Obj) : OwnB B (W.alloc o) v X := h.keep ((Below.refl _ _).alloc (Nat.le_refl _) o)
theorem OwnB.base {B B' : Nat} {W : World} {v : Value} {X : List Int} (h : OwnB B W v X) (hB : B' ≤ B) : OwnB B' W v X := by
  refine ⟨h.1, ?_⟩
  rcases h.2 with h | ⟨g, cap, cur, rfl, hb, r⟩
  · exact .inl h
  · exact .inr ⟨g, cap, cur, rfl, by omega, r⟩
theorem OwnB.kept {B : Nat} {W W' : World} {v : Value} {X : List Int} {row : Option Nat} (h : OwnB B W v X) (hg : W.grownBy W' row) (hn : ∀ k, v.ownBlock = some k → row ≠ some k) : OwnB B W' v X :=
  World.ownsRow.kept h hg (by
    cases hd : v.ownBlock with
    | none => exact .inl rfl
    | some k => exact .inr fun e => hn k hd e.symm)
theorem OwnB.cell {B g n cap : Nat} {W : World} {X : List Int} (h : OwnB B W (.slice (some ⟨g, 0, none⟩) n cap) X) (hn : X.length = n) {i : Nat} (hi : i < n) : W.cell? ⟨g, i, none⟩ = some (.int .u8 (X.getD i 0)) := by
  subst hn
  rw [World.ownsRow.cellAt h i (by omega), List.getElem?_map, List.getElem?_eq_getElem hi, List.getD, List.getElem?_eq_getElem hi]
  rfl
theorem OwnB.free {B g n cap : Nat} {W : World} {X : List Int} (h : OwnB B W (.slice (some ⟨g, 0, none⟩) n cap) X) (hn : X.length = n) (i : Nat) : W.frozen? ⟨g, i, none⟩ = false := by
  subst hn
  exact World.ownsRow.frozenAt h i
theorem OwnB.set {B g n cap : Nat} {W : World} {X : List Int} (h : OwnB B W (.slice (some ⟨g, 0, none⟩) n cap) X) (hn : X.length = n) (i : Nat) (u : Int) : OwnB B (W.setCell ⟨g, i, none⟩ (.int .u8 u)) (.slice (some ⟨g, 0, none⟩) n cap) (X.set i u) ∧ W.grownBy (W.setCell ⟨g, i, none⟩ (.int .u8 u)) (some g) := by
  subst hn
  have := World.ownsRow.stored h i (.int .u8 u)
  refine ⟨?_, this.2⟩
  rw [OwnB, List.length_set, List.map_set]
  exact this.1
/-- Where such a slice lies. -/
theorem OwnB.lies {B : Nat} {W : World} {v : Value} {X : List Int} (h : OwnB B W v X) : ∃ a g c, v = .slice a X.length c ∧ X.length ≤ c ∧ Az a g 0 X ∧ Bz W g 0 X ∧ (∀ k, v.ownBlock = some k → k = g ∧ B ≤ k ∧ k < W.heap.size) ∧ (X ≠ [] → v.ownBlock = some g) ∧ (a = none → c = 0) := by
  rcases h.2 with ⟨rfl, h0⟩ | ⟨g, cap, cur, rfl, hb, hg, hle, _⟩
  · have e : X = [] := List.length_eq_zero_iff.1 h0
    subst e
    exact ⟨_, 0, 0, rfl, Nat.le_refl _, .inl rfl, fun i hi => absurd hi (Nat.not_lt_zero _), (fun k hk => by cases hk), fun h => absurd rfl h, fun _ => rfl⟩
  · refine ⟨_, g, cap, rfl, hle, .inr rfl, fun i hi => by rw [Nat.zero_add]; exact OwnB.cell h rfl hi, fun k hk => ?_, fun _ => rfl, fun e => by cases e⟩
    have e : g = k := Option.some.inj hk
    subst e
    exact ⟨rfl, hb, (Array.getElem?_eq_some_iff.1 hg).1⟩
theorem OwnB.lt {B : Nat} {W : World} {v : Value} {X : List Int} (h : OwnB B W v X) (k : Nat) (hk : v.ownBlock = some k) : B ≤ k ∧ k < W.heap.size := by
  obtain ⟨_, _, _, _, _, _, _, h5, _⟩ := h.lies
  exact (h5 k hk).2
theorem take_snocI {X : List Int} {i : Nat} (h : i < X.length) : X.take (i + 1) = X.take i ++ [X.getD i 0] := by
  rw [List.take_add_one, List.getD, List.getElem?_eq_getElem h]
  rfl
theorem Az.cons {a : Option Addr} {b o : Nat} {X : List Int} (h : Az a b o X) (hx : 0 < X.length) : a = some ⟨b, o, none⟩ := by
  rcases h with e | e
  · rw [e] at hx; simp at hx
  · exact e
/-- Of two lists, are the first i the same? -/
theorem take_same {X Z : List Int} {i : Nat} (h1 : i < X.length) (h2 : i < Z.length) (h : X.take i = Z.take i) (e : X.getD i 0 = Z.getD i 0) : X.take (i + 1) = Z.take (i + 1) := by
  rw [take_snocI h1, take_snocI h2, h, e]
end Go.Proofs.Ytahekhamhdfkdaa

/- Layer 1: the document's Bytes. -/
namespace Go.Proofs.Ytahekhamhdfkdaa
open Go.RowKit

end Go.Proofs.Ytahekhamhdfkdaa

/- Layer 1: slices.Clone, Bytes. -/
namespace Go.Proofs.Ytahekhamhdfkdaa
open Go.RowKit Go.Sort

theorem heap_newU (W : World) (o : Obj) : (W.alloc o).heap[W.heap.size]? = some o := by
  show (W.heap.push o)[W.heap.size]? = some o
  simp
theorem src_bz {W : World} {b o : Nat} {X : List Int} (h : Bz W b o X) (j : Nat) (u : Value) (hu : (X.map (Value.int .u8))[j]? = some u) : W.cell? ((⟨b, o, none⟩ : Addr).add j) = some u := by
  rw [List.getElem?_map] at hu
  obtain ⟨x, hx, rfl⟩ := Option.map_eq_some_iff.1 hu
  have hj : j < X.length := (List.getElem?_eq_some_iff.1 hx).1
  rw [Addr.add_mid, h j hj]
  simp [List.getD, hx]
theorem own_mt (B : Nat) (W : World) (hB : B ≤ W.heap.size) : OwnB B (W.alloc (.cells #[] 5)) (.slice (some ⟨W.heap.size, 0, none⟩) 0 0) [] :=
  ⟨rfl, .inr ⟨W.heap.size, 0, _, rfl, hB, heap_newU _ _, Nat.le_refl _, by unfold maxLen; omega, rfl, rfl⟩⟩
theorem sl_some (w : World) (a : Addr) (n c : Nat) : (binOp .eql 22 (.slice (some a) n c) (.slice none 0 0)).run Try.prog w = .ok (.bool false) w := by kernel_rfl
end Go.Proofs.Ytahekhamhdfkdaa

/- Layer 7: isBare, readLength (RlHd on u256's base). -/
namespace Go.Proofs.Ytahekhamhdfkdaa
open Go.RowKit

def bareB (A : List Int) : Bool := decide (A.length = 1) && decide (A.getD 0 0 < 128)
set_option maxRecDepth 100000 in
theorem bare_any {A : List Int} {ao : Option Addr} {b o c : Nat} (ha : Az ao b o A) (w : World) (h : Bz w b o A) :
    Calls Try.prog 49 #[.slice ao A.length c] w fun e w' => e = .returned (.bool (bareB A)) ∧ w' = w := by
  unfold bareB
  by_cases h1 : A.length = 1
  · have ea : ao = some ⟨b, o, none⟩ := by
      rcases ha with rfl | e
      · simp at h1
      · exact e
    subst ea
    have g := h 0 (by omega)
    rw [Nat.add_zero] at g
    have e1 : decide (A.length = 1) = true := decide_eq_true h1
    rw [e1]
    generalize A.getD 0 0 = x at *
    rw [h1]
    clear h1 e1 ha h
    go_enter Try.func49, Try.ntmps49
    go_wp2
    go_ret
    exact ⟨by simp, rfl⟩
  · have e1 : decide (A.length = 1) = false := decide_eq_false h1
    have h2 : ¬ ((A.length : Int) = 1) := by omega
    rw [e1]
    generalize A.length = n at *
    clear h1 e1 ha h
    go_enter Try.func49, Try.ntmps49
    go_wp2
    go_ret
    exact ⟨by simp, rfl⟩
/-- The number of the first k bytes, the highest first. -/
def lenQ (A : List Int) : Nat → Int
  | 0 => 0
  | k + 1 => lenQ A k * 256 + A.getD k 0
theorem lenQ_bound {A : List Int} (hA : Byts A) : ∀ k, 0 ≤ lenQ A k ∧ lenQ A k < 256 ^ k
  | 0 => by simp [lenQ]
  | k + 1 => by
    obtain ⟨a, b⟩ := lenQ_bound hA k
    obtain ⟨c, d⟩ := hA k
    unfold lenQ
    rw [Int.pow_succ]
    omega

theorem rl_end {A : List Int} {ao : Option Addr} {c n : Nat} (hn : A.length < n) (w : World) :
    Calls Try.prog 48 #[.slice ao A.length c, .int .i64 n] w fun e w' => e = .returned (.tuple #[.int .u64 0, .int .i64 70]) ∧ w' = w := by
  have h2 : (A.length : Int) < (n : Int) := by omega
  generalize A.length = m at *
  clear hn
  go_enter Try.func48, Try.ntmps48
  go_wp2
  simp [bodyPost, results, Try.results48, go_sem]
theorem or8 {l x : Int} (p0 : 0 ≤ l) (p1 : l < 72057594037927936) (x0 : 0 ≤ x) (x1 : x < 256) : bits .or .u64 (l * 256) x = l * 256 + x := by
  obtain ⟨l, rfl⟩ := Int.eq_ofNat_of_zero_le p0
  obtain ⟨x, rfl⟩ := Int.eq_ofNat_of_zero_le x0
  have := or_sum 8 l x (by omega) (by omega) (by omega)
  rw [show ((l : Int) * 256) = ((2 ^ 8 * l : Nat) : Int) by omega, this]
  omega
theorem lenQ_seven {A : List Int} (hA : Byts A) {i : Nat} (hi : i ≤ 7) : lenQ A i < 72057594037927936 := by
  have h := (lenQ_bound hA i).2
  have : i = 0 ∨ i = 1 ∨ i = 2 ∨ i = 3 ∨ i = 4 ∨ i = 5 ∨ i = 6 ∨ i = 7 := by omega
  rcases this with rfl | rfl | rfl | rfl | rfl | rfl | rfl | rfl <;> omega
set_option maxHeartbeats 2000000 in
theorem rl_any {A : List Int} {b o c n : Nat} (hA : Byts A) (n0 : 1 ≤ n) (n8 : n ≤ 8) (hn : n ≤ A.length) (hc : A.length ≤ c) (w : World) (h : Bz w b o A) :
    Calls Try.prog 48 #[.slice (some ⟨b, o, none⟩) A.length c, .int .i64 n] w fun e w' => e = .returned (.tuple #[.int .u64 (if A.getD 0 0 = 0 ∨ lenQ A n ≤ 55 then 0 else lenQ A n), .int .i64 (if A.getD 0 0 = 0 ∨ lenQ A n ≤ 55 then 72 else 0)]) ∧ w' = w := by
  have h2 : ¬ ((A.length : Int) < (n : Int)) := by omega
  have h3 : (n : Int) ≤ (c : Int) := by omega
  have h4 : (0 : Int) < (A.length : Int) := by omega
  have n8' : (n : Int) ≤ 8 := by omega
  have HB : Hid (Bz w b o A ∧ n ≤ A.length ∧ Byts A ∧ n ≤ 8) := ⟨h, hn, hA, n8⟩
  have g0 := h 0 (by omega)
  rw [Nat.add_zero] at g0
  obtain ⟨m, em⟩ : ∃ m, m = A.length := ⟨_, rfl⟩
  rw [← em] at h2 h4 ⊢
  clear h hA em hc hn n0 n8
  obtain ⟨z, ez⟩ : ∃ z, z = A.getD 0 0 := ⟨_, rfl⟩
  rw [← ez] at g0 ⊢
  clear ez
  obtain ⟨L, eL⟩ : ∃ L, L = lenQ A n := ⟨_, rfl⟩
  rw [← eL]
  have HL : Hid (lenQ A n = L) := eL.symm
  clear eL
  have three : (z = 0 ∧ (z = 0 ∨ L ≤ 55)) ∨ (z ≠ 0 ∧ L ≤ 55 ∧ (z = 0 ∨ L ≤ 55)) ∨ (z ≠ 0 ∧ ¬ L ≤ 55 ∧ ¬ (z = 0 ∨ L ≤ 55)) := by omega
  rcases three with ⟨c1, c3⟩ | ⟨c1, c2, c3⟩ | ⟨c1, c2, c3⟩
  all_goals first | rw [if_pos c3, if_pos c3] | rw [if_neg c3, if_neg c3]
  all_goals clear c3
  all_goals (first | (have cb1 : (z == 0) = true := by simpa using c1) | (have cb1 : (z == 0) = false := by simpa using c1))
  all_goals (first | (have cb2 : decide (L ≤ 55) = true := decide_eq_true c2) | (have cb2 : decide (L ≤ 55) = false := decide_eq_false c2) | skip)
  all_goals (
   go_enter Try.func48, Try.ntmps48
   go_wp2_with fail
   go_loopg [6, 8, 17] n (fun k lv bv iv wr => ∃ i : Nat, k = n - i ∧ i ≤ n ∧ iv = .int .i64 (i : Int) ∧ lv = .int .u64 (lenQ A i) ∧ w = wr)
   case atStart => exact ⟨0, rfl, Nat.zero_le _, rfl, rfl, rfl⟩
   case round =>
    obtain ⟨i, hk, hi, rfl, rfl, rfl⟩ := hrel
    by_cases h8 : i = n
    · subst h8
      rw [HL.out]
      go_wp2
      simp [bodyPost, results, Try.results48, go_sem]
    · have hlt : (i : Int) < (n : Int) := by omega
      have g := HB.out.1 i (by have := HB.out.2.1; omega)
      have p0 := (lenQ_bound HB.out.2.2.1 i).1
      have p1 := lenQ_seven HB.out.2.2.1 (i := i) (by have := HB.out.2.2.2; omega)
      obtain ⟨x0, x1⟩ := HB.out.2.2.1 i
      have EL : Hid (lenQ A (i + 1) = lenQ A i * 256 + A.getD i 0) := rfl
      generalize lenQ A i = l at *
      generalize A.getD i 0 = x at *
      have ob := or8 p0 p1 x0 x1
      have HK : Hid (gk = n - i) := hk
      clear hk c1 cb1
      (try clear cb2)
      (try clear c2)
      go_wp2_with fail
      go_roundg (n - (i + 1))
      case measure => have := HK.out; omega
      case rel => exact ⟨i + 1, rfl, by omega, rfl, by rw [EL.out], rfl⟩)
end Go.Proofs.Ytahekhamhdfkdaa

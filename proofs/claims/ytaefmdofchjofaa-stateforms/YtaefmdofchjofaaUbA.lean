import Derived.Test.YtaefmdofchjofaaStrict
import Derived.Test.YtaefmdofchjofaaRowB
import Derived.Deep.LoopGhost
import Derived.Test.YtaefmdofchjofaaRoomy
import Derived.Test.YtaefmdofchjofaaGet
import Derived.Test.YtaefmdofchjofaaLen
import Derived.Maps.AppendAt
import Derived.Lib.AppendZeros
import Derived.StillTail
import Derived.Lib.QuietBelow
import Derived.Laws.OwnMore
/- Layer 1: bytes as numbers, lists of one's own (as in layer 11). -/
namespace Go.Proofs.Ytaefmdofchjofaa
open Go.RowKit Go.Sort

/-- Bytes from a cell on. -/
def Bz (W : World) (b o : Nat) (X : List Int) : Prop := ∀ i, i < X.length → W.cell? ⟨b, o + i, none⟩ = some (.int .u8 (X.getD i 0))
/-- Where a slice of these bytes points: an empty one anywhere, or nowhere. -/
def Az (a : Option Addr) (b o : Nat) (X : List Int) : Prop := X = [] ∨ a = some ⟨b, o, none⟩
/-- Bytes. -/
def Bys (X : List Int) : Prop := ∀ x ∈ X, 0 ≤ x ∧ x < 256
theorem Bys.at {X : List Int} (h : Bys X) (i : Nat) : 0 ≤ X.getD i 0 ∧ X.getD i 0 < 256 := by
  by_cases hi : i < X.length
  · rw [List.getD, List.getElem?_eq_getElem hi]
    exact h _ (List.getElem_mem hi)
  · rw [List.getD, List.getElem?_eq_none (by omega)]
    exact ⟨by decide, by decide⟩
theorem Bz.keep {W W' : World} {b o : Nat} {X : List Int} (h : Bz W b o X) (hb : Below W.heap.size W W') : Bz W' b o X := fun i hi => cell_keep hb (h i hi)
theorem Bz.drop {W : World} {b o n : Nat} {X : List Int} (h : Bz W b o X) : Bz W b (o + n) (X.drop n) := fun i hi => by
  rw [List.length_drop] at hi
  have := h (n + i) (by omega)
  rw [show o + n + i = o + (n + i) by omega, this]
  simp [List.getD, List.getElem?_drop]
theorem Bz.take {W : World} {b o n : Nat} {X : List Int} (h : Bz W b o X) : Bz W b o (X.take n) := fun i hi => by
  rw [List.length_take] at hi
  have := h i (by omega)
  rw [this]
  simp [List.getD, show i < n by omega]
theorem Bz.front {W : World} {b o : Nat} {X Z : List Int} (h : Bz W b o (X ++ Z)) : Bz W b o X := fun i hi => by
  have := h i (by rw [List.length_append]; omega)
  rw [this, List.getD, List.getElem?_append_left hi, ← List.getD]
theorem Bz.grown {W W' : World} {b o : Nat} {X : List Int} {row : Option Nat} (h : Bz W b o X) (hg : W.grownBy W' row) (hn : X ≠ [] → row ≠ some b) : Bz W' b o X := fun i hi => by
  have c := h i hi
  have hb := hg.block b (World.block_lt_of_cell? W _ c) (fun e => hn (fun e => by rw [e] at hi; simp at hi) e.symm)
  rw [World.cell?_of_block (w := W) (a := ⟨b, o + i, none⟩) hb]; exact c
/-- A slice of the call's own memory, of these bytes. -/
def OwnB (B : Nat) (W : World) (v : Value) (X : List Int) : Prop := W.ownsRow B 5 1 v X.length (X.map (Value.int .u8))
theorem OwnB.row {B : Nat} {W : World} {v : Value} {X : List Int} (h : OwnB B W v X) : W.ownsRow B 5 1 v X.length (X.map (Value.int .u8)) := h
theorem OwnB.nil (B : Nat) (W : World) : OwnB B W (.slice none 0 0) [] := ⟨rfl, .inl ⟨rfl, rfl⟩⟩
theorem grown_of_below {W W' : World} (h : Below W.heap.size W W') (row : Option Nat) : W.grownBy W' row := ⟨h.os, h.tape, h.output, h.size, fun k hk _ => h.block k hk⟩
theorem OwnB.keep {B : Nat} {W W' : World} {v : Value} {X : List Int} (h : OwnB B W v X) (hb : Below W.heap.size W W') : OwnB B W' v X :=
  World.ownsRow.kept h (grown_of_below hb Option.none) (by cases v.ownBlock <;> simp)
theorem OwnB.alloc {B : Nat} {W : World} {v : Value} {X : List Int} (h : OwnB B W v X) (o : Obj) : OwnB B (W.alloc o) v X := h.keep ((Below.refl _ _).alloc (Nat.le_refl _) o)
theorem OwnB.base {B B' : Nat} {W : World} {v : Value} {X : List Int} (h : OwnB B W v X) (hB : B' ≤ B) : OwnB B' W v X := by
  refine ⟨h.1, ?_⟩
  rcases h.2 with h | ⟨g, cap, cur, rfl, hb, r⟩
  · exact .inl h
  · exact .inr ⟨g, cap, cur, rfl, by omega, r⟩
theorem OwnB.kept {B : Nat} {W W' : World} {v : Value} {X : List Int} {row : Option Nat} (h : OwnB B W v X) (hg : W.grownBy W' row) (hn : ∀ k, v.ownBlock = some k → row ≠ some k) : OwnB B W' v X :=
  World.ownsRow.kept h hg (by
    cases hd : v.ownBlock with
    | none => exact .inl rfl
    | some k => exact .inr fun e => hn k hd e.symm)
theorem OwnB.cell {B g n cap : Nat} {W : World} {X : List Int} (h : OwnB B W (.slice (some ⟨g, 0, none⟩) n cap) X) (hn : X.length = n) {i : Nat} (hi : i < n) : W.cell? ⟨g, i, none⟩ = some (.int .u8 (X.getD i 0)) := by
  subst hn
  rw [World.ownsRow.cellAt h i (by omega), List.getElem?_map, List.getElem?_eq_getElem hi, List.getD, List.getElem?_eq_getElem hi]
  rfl
theorem OwnB.free {B g n cap : Nat} {W : World} {X : List Int} (h : OwnB B W (.slice (some ⟨g, 0, none⟩) n cap) X) (hn : X.length = n) (i : Nat) : W.frozen? ⟨g, i, none⟩ = false := by
  subst hn
  exact World.ownsRow.frozenAt h i
theorem OwnB.set {B g n cap : Nat} {W : World} {X : List Int} (h : OwnB B W (.slice (some ⟨g, 0, none⟩) n cap) X) (hn : X.length = n) (i : Nat) (u : Int) : OwnB B (W.setCell ⟨g, i, none⟩ (.int .u8 u)) (.slice (some ⟨g, 0, none⟩) n cap) (X.set i u) ∧ W.grownBy (W.setCell ⟨g, i, none⟩ (.int .u8 u)) (some g) := by
  subst hn
  have := World.ownsRow.stored h i (.int .u8 u)
  refine ⟨?_, this.2⟩
  rw [OwnB, List.length_set, List.map_set]
  exact this.1
/-- Where such a slice lies. -/
theorem OwnB.lies {B : Nat} {W : World} {v : Value} {X : List Int} (h : OwnB B W v X) : ∃ a g c, v = .slice a X.length c ∧ X.length ≤ c ∧ Az a g 0 X ∧ Bz W g 0 X ∧ (∀ k, v.ownBlock = some k → k = g ∧ B ≤ k ∧ k < W.heap.size) ∧ (X ≠ [] → v.ownBlock = some g) ∧ (a = none → c = 0) := by
  rcases h.2 with ⟨rfl, h0⟩ | ⟨g, cap, cur, rfl, hb, hg, hle, _⟩
  · have e : X = [] := List.length_eq_zero_iff.1 h0
    subst e
    exact ⟨_, 0, 0, rfl, Nat.le_refl _, .inl rfl, fun i hi => absurd hi (Nat.not_lt_zero _), (fun k hk => by cases hk), fun h => absurd rfl h, fun _ => rfl⟩
  · refine ⟨_, g, cap, rfl, hle, .inr rfl, fun i hi => by rw [Nat.zero_add]; exact OwnB.cell h rfl hi, fun k hk => ?_, fun _ => rfl, fun e => by cases e⟩
    have e : g = k := Option.some.inj hk
    subst e
    exact ⟨rfl, hb, (Array.getElem?_eq_some_iff.1 hg).1⟩
theorem OwnB.lt {B : Nat} {W : World} {v : Value} {X : List Int} (h : OwnB B W v X) (k : Nat) (hk : v.ownBlock = some k) : B ≤ k ∧ k < W.heap.size := by
  obtain ⟨_, _, _, _, _, _, _, h5, _⟩ := h.lies
  exact (h5 k hk).2
/-- Under way: what was written so far stands ahead of what was there. -/
def partw (P X : List Int) (i : Nat) : List Int := P.take i ++ X.drop i
theorem partw_len {P X : List Int} {i : Nat} (h : P.length = X.length) : (partw P X i).length = X.length := by
  unfold partw; rw [List.length_append, List.length_take, List.length_drop]; omega
theorem partw_set {P X : List Int} {i : Nat} (h : P.length = X.length) (hi : i < X.length) : (partw P X i).set i (P.getD i 0) = partw P X (i + 1) := by
  unfold partw
  refine List.ext_getElem? fun j => ?_
  have hp : (P.take i).length = i := by rw [List.length_take]; omega
  have hp' : (P.take (i + 1)).length = i + 1 := by rw [List.length_take]; omega
  by_cases hj : j = i
  · subst hj
    rw [List.getElem?_set_self (by rw [List.length_append, hp, List.length_drop]; omega), List.getElem?_append_left (by omega), List.getElem?_take, if_pos (by omega), List.getElem?_eq_getElem (by omega), List.getD, List.getElem?_eq_getElem (by omega)]
    rfl
  · rw [List.getElem?_set_ne (by omega)]
    by_cases hl : j < i
    · rw [List.getElem?_append_left (by omega), List.getElem?_append_left (by omega), List.getElem?_take, if_pos hl, List.getElem?_take, if_pos (by omega)]
    · rw [List.getElem?_append_right (by omega), List.getElem?_append_right (by omega), hp, hp', List.getElem?_drop, List.getElem?_drop]
      congr 1
      omega
theorem partw_zero (P X : List Int) : partw P X 0 = X := by simp [partw]
theorem partw_all {P X : List Int} (h : P.length = X.length) : partw P X X.length = P := by
  unfold partw
  rw [List.drop_length, List.append_nil, ← h, List.take_length]
theorem take_snocI {X : List Int} {i : Nat} (h : i < X.length) : X.take (i + 1) = X.take i ++ [X.getD i 0] := by
  rw [List.take_add_one, List.getD, List.getElem?_eq_getElem h]
  rfl
theorem Az.cons {a : Option Addr} {b o : Nat} {X : List Int} (h : Az a b o X) (hx : 0 < X.length) : a = some ⟨b, o, none⟩ := by
  rcases h with e | e
  · rw [e] at hx; simp at hx
  · exact e
/-- Of two lists, are the first i the same? -/
theorem take_same {X Z : List Int} {i : Nat} (h1 : i < X.length) (h2 : i < Z.length) (h : X.take i = Z.take i) (e : X.getD i 0 = Z.getD i 0) : X.take (i + 1) = Z.take (i + 1) := by
  rw [take_snocI h1, take_snocI h2, h, e]
end Go.Proofs.Ytaefmdofchjofaa

/- Layer 1: the document's Bytes. -/
namespace Go.Proofs.Ytaefmdofchjofaa
open Go.RowKit

/-- A list of bytes without the zeros ahead. -/
def stripL : List Int → List Int
  | [] => []
  | x :: xs => if x = 0 then stripL xs else x :: xs
theorem strip_snoc : ∀ (l : List Int) (x : Int), stripL (l ++ [x]) = if stripL l = [] ∧ x = 0 then [] else stripL l ++ [x]
  | [], x => by by_cases h : x = 0 <;> simp [stripL, h]
  | y :: l, x => by
    by_cases h : y = 0
    · simp only [List.cons_append, stripL, if_pos h]; exact strip_snoc l x
    · simp [stripL, h]
theorem strip_len : ∀ (l : List Int) {k : Nat}, l.length ≤ k → (stripL l).length ≤ k
  | [], k, _ => by simp [stripL]
  | x :: xs, k, h => by
    by_cases e : x = 0
    · simp only [stripL, if_pos e]; exact strip_len xs (by simp at h; omega)
    · simp only [stripL, if_neg e]; exact h
theorem utake_snoc {l : List Int} {i : Nat} (h : i < l.length) : l.take (i + 1) = l.take i ++ [l.getD i 0] := by
  rw [List.take_add_one]
  simp [List.getD, List.getElem?_eq_getElem h]

theorem bts_setCells {W : World} {b : Nat} {l : List Int} (ht : W.there b 0 (l.map (Value.int .u8)).length) : Bts (W.setCells b 0 (l.map (Value.int .u8))) b l := by
  have h1 := World.rangeAt_setCells_same W b 0 (l.map (Value.int .u8)) ht
  refine ⟨fun i hi => ?_, fun i hi => ?_⟩
  · have := h1 i (.int .u8 (l.getD i 0)) (by simp [List.getD, List.getElem?_eq_getElem hi])
    rw [Nat.zero_add] at this
    exact this
  · have := (ht i (by simpa using hi)).2
    rw [Nat.zero_add] at this
    rw [World.frozen?_setCells]
    exact this

set_option maxHeartbeats 2000000 in
theorem rbytes_any {n : Int} (w : World) :
    Calls Try.prog 39 #[.agg #[.int .u64 (l0 n), .int .u64 (l1 n), .int .u64 (l2 n), .int .u64 (l3 n)]] w fun e w' => ∃ v, e = .returned v ∧ OwnB w.heap.size w' v (stripL (putL n)) ∧ Below w.heap.size w w' := by
  have PU : Hid (∀ w, Calls Try.prog 56 #[.agg #[.int .u64 (l0 n), .int .u64 (l1 n), .int .u64 (l2 n), .int .u64 (l3 n)]] w fun e w' => e = .returned (.agg ((putL n).map (Value.int .u8)).toArray) ∧ Below w.heap.size w w') := fun w => rput_any w
  have sz : ((putL n).map (Value.int .u8)).toArray.size = 32 := by simp [putL_len]
  have oc := one_cells (putL n)
  obtain ⟨i0, hi, hz0, hz1, hz2⟩ := info_parts info_byte
  go_enter Try.func39, Try.ntmps39
  go_wp2_with fail
  refine calls_world (fun W => Below w.heap.size w W) ?_ ?_
  · repeat (first | with_reducible exact Below.refl _ _ | with_reducible refine Below.alloc ?_ (by first | omega | (simp; done) | (simp; omega)) _)
  rintro W B
  refine (PU.out _).mono ?_
  rintro e w1 ⟨rfl, hb⟩
  replace B := B.trans (hb.mono B.size)
  clear hb W PU
  have hz : Bts (w1.alloc (.cells #[.int .u8 0, .int .u8 0, .int .u8 0, .int .u8 0, .int .u8 0, .int .u8 0, .int .u8 0, .int .u8 0, .int .u8 0, .int .u8 0, .int .u8 0, .int .u8 0, .int .u8 0, .int .u8 0, .int .u8 0, .int .u8 0, .int .u8 0, .int .u8 0, .int .u8 0, .int .u8 0, .int .u8 0, .int .u8 0, .int .u8 0, .int .u8 0, .int .u8 0, .int .u8 0, .int .u8 0, .int .u8 0, .int .u8 0, .int .u8 0, .int .u8 0, .int .u8 0] 25)) w1.heap.size (List.replicate 32 0) := Bts.new (List.replicate 32 0) _ rfl
  have tr := hz.there (k := ((putL n).map (Value.int .u8)).toArray.size) (by rw [sz]; rfl)
  go_wp2_with (refine wpList_store_mid rfl 25 _ _ rfl w1.heap.size 0 _ rfl rfl tr (by rw [sz]; kernel_rfl) oc ?_)
  refine wp_world (fun W => Below w.heap.size w W ∧ Bts W w1.heap.size (putL n)) ⟨below_setCells B.size _ 0 _ (B.alloc B.size _), bts_setCells (by simpa using tr)⟩ ?_
  clear tr hz oc
  have lA : w.heap.size ≤ w1.heap.size := B.size
  clear B
  rintro W ⟨B, hA⟩
  generalize w1.heap.size = bA at *
  go_loopg [4, 5] 32 (fun k bv iv wr => ∃ i : Nat, k = 32 - i ∧ i ≤ 32 ∧ iv = .int .i64 i ∧ OwnB w.heap.size wr bv (stripL ((putL n).take i)) ∧ bv.ownBlock ≠ some bA ∧ Bts wr bA (putL n) ∧ Below w.heap.size w wr)
  case atStart => exact ⟨0, rfl, by decide, rfl, OwnB.nil _ _, by simp [Value.ownBlock], hA, B⟩
  case round =>
    clear B hA
    obtain ⟨i, hk, hi9, rfl, hown, hne, hA, B⟩ := hrel
    have HK : Hid (gk = 32 - i) := hk
    clear hk
    by_cases h8 : i = 32
    · subst h8
      rw [List.take_of_length_le (by rw [putL_len]; exact Nat.le_refl _)] at hown
      go_wp2
      go_ret
      exact ⟨_, rfl, hown, B⟩
    · have hi' : (i : Int) < 32 := by omega
      have gx := hA.1 i (by rw [putL_len]; omega)
      have st := strip_snoc ((putL n).take i) ((putL n).getD i 0)
      rw [← utake_snoc (by rw [putL_len]; omega)] at st
      have lS : (stripL ((putL n).take i)).length ≤ 32 := strip_len _ (by rw [List.length_take, putL_len]; omega)
      have HA : Hid (Bts wr bA (putL n)) := hA
      clear hA
      generalize hx : (putL n).getD i 0 = x at *
      clear hx
      obtain ⟨a4, g4, c4, rfl, _, _, _, _, _, _⟩ := hown.lies
      have HO : Hid (OwnB w.heap.size wr (.slice a4 (stripL ((putL n).take i)).length c4) (stripL ((putL n).take i)) ∧ (Value.slice a4 (stripL ((putL n).take i)).length c4).ownBlock ≠ some bA ∧ Below w.heap.size w wr ∧ bA < wr.heap.size) := ⟨hown, hne, B, HA.out.1.lt (by rw [putL_len]; decide)⟩
      clear hown hne B
      by_cases c : stripL ((putL n).take i) = [] ∧ x = 0
      · rw [if_pos c] at st
        obtain ⟨c1, rfl⟩ := c
        rw [c1] at HO
        have HS : Hid (stripL ((putL n).take (i + 1)) = []) := st
        rw [c1, List.length_nil]
        clear st c1 lS
        go_wp2
        go_roundg (32 - (i + 1))
        case measure => have := HK.out; omega
        case rel => exact ⟨i + 1, rfl, by omega, by go_num, by rw [HS.out]; exact HO.out.1, HO.out.2.1, HA.out, HO.out.2.2.1⟩
      · rw [if_neg c] at st
        have HS : Hid (stripL ((putL n).take (i + 1)) = stripL ((putL n).take i) ++ [x]) := st
        have HC : Hid (¬ (stripL ((putL n).take i) = [] ∧ x = 0)) := c
        clear st c
        generalize stripL ((putL n).take i) = S at *
        have HL : Hid (S.length ≤ 32) := lS
        clear lS
        obtain ⟨m, em⟩ : ∃ m, m = S.length := ⟨_, rfl⟩
        rw [← em] at HO ⊢
        have EM : Hid (S.length = m) := em.symm
        clear em
        by_cases hm : m = 0
        · have x0 : x ≠ 0 := fun e => HC.out ⟨List.eq_nil_of_length_eq_zero (by rw [EM.out]; exact hm), e⟩
          have x1 : (x != 0) = true := by simp [x0]
          have x2 : ¬ x = 0 := x0
          subst hm
          clear x0
          go_wp2_with ((at_builtin; go_loud (refine wpList_append_own_at _ rfl _ _ 29 rfl w.heap.size 5 i0 (.int .u8 0) 1 1 Try.underlying29 hi hz0 hz1 hz2 rfl (by decide) _ S.length _ rfl (HO.out.1.alloc _).row ⟨wr.heap.size, 0, none⟩ 1 1 [.int .u8 x] rfl rfl (cell_one_new _ _ _) (fun u hu => by simp at hu; subst hu; rfl) (by unfold maxLen; have := HL.out; omega) (by have := HL.out; omega) (by have := HO.out.2.2.1.size; simp; omega) ?_); intro v' w3 hown' hgrow3 hnil3 hblk))
          have N3 : Hid (OwnB w.heap.size w3 v' (stripL ((putL n).take (i + 1))) ∧ v'.ownBlock ≠ some bA ∧ Bts w3 bA (putL n) ∧ Below w.heap.size w w3) := by
            have nb : ∀ e, (Value.slice a4 0 c4).ownBlock = some e → e ≠ bA := fun e he h => HO.out.2.1 (by rw [← h]; exact he)
            refine ⟨?_, ?_, ?_, ?_⟩
            · rw [HS.out, OwnB, List.length_append, List.map_append]; exact hown'
            · rcases hblk with e | e
              · rw [e]; exact HO.out.2.1
              · rw [e]; intro h; have := Option.some.inj h; have := HO.out.2.2.2; simp at *; omega
            · have h1 := HA.out.alloc (by rw [putL_len]; decide) (.cells #[.int .u8 x] 5)
              have eb := hgrow3.block bA (by have := HO.out.2.2.2; simp; omega) (fun h => HO.out.2.1 h.symm)
              exact ⟨fun j hj => by rw [World.cell?_of_block (w := wr.alloc (.cells #[.int .u8 x] 5)) (a := ⟨bA, j, none⟩) eb]; exact h1.1 j hj, fun j hj => by rw [World.frozen?_of_block (w := wr.alloc (.cells #[.int .u8 x] 5)) (a := ⟨bA, j, none⟩) eb]; exact h1.2 j hj⟩
            · exact (HO.out.2.2.1.alloc HO.out.2.2.1.size _).grown hgrow3 (by have := HO.out.2.2.1.size; simp; omega) (fun k hk => (HO.out.1.lt k hk).1)
          clear hown' hgrow3 hnil3 hblk
          go_roundg (32 - (i + 1))
          case measure => have := HK.out; omega
          case rel => exact ⟨i + 1, rfl, by omega, by go_num, N3.out⟩
        · have hm' : 0 < m := by omega
          have hm2 : (0 : Int) < (m : Int) := by omega
          clear hm
          go_wp2_with ((at_builtin; go_loud (refine wpList_append_own_at _ rfl _ _ 29 rfl w.heap.size 5 i0 (.int .u8 0) 1 1 Try.underlying29 hi hz0 hz1 hz2 rfl (by decide) _ S.length _ rfl (HO.out.1.alloc _).row ⟨wr.heap.size, 0, none⟩ 1 1 [.int .u8 x] rfl rfl (cell_one_new _ _ _) (fun u hu => by simp at hu; subst hu; rfl) (by unfold maxLen; have := HL.out; omega) (by have := HL.out; omega) (by have := HO.out.2.2.1.size; simp; omega) ?_); intro v' w3 hown' hgrow3 hnil3 hblk))
          have N3 : Hid (OwnB w.heap.size w3 v' (stripL ((putL n).take (i + 1))) ∧ v'.ownBlock ≠ some bA ∧ Bts w3 bA (putL n) ∧ Below w.heap.size w w3) := by
            have nb : ∀ e, (Value.slice a4 m c4).ownBlock = some e → e ≠ bA := fun e he h => HO.out.2.1 (by rw [← h]; exact he)
            refine ⟨?_, ?_, ?_, ?_⟩
            · rw [HS.out, OwnB, List.length_append, List.map_append]; exact hown'
            · rcases hblk with e | e
              · rw [e]; exact HO.out.2.1
              · rw [e]; intro h; have := Option.some.inj h; have := HO.out.2.2.2; simp at *; omega
            · have h1 := HA.out.alloc (by rw [putL_len]; decide) (.cells #[.int .u8 x] 5)
              have eb := hgrow3.block bA (by have := HO.out.2.2.2; simp; omega) (fun h => HO.out.2.1 h.symm)
              exact ⟨fun j hj => by rw [World.cell?_of_block (w := wr.alloc (.cells #[.int .u8 x] 5)) (a := ⟨bA, j, none⟩) eb]; exact h1.1 j hj, fun j hj => by rw [World.frozen?_of_block (w := wr.alloc (.cells #[.int .u8 x] 5)) (a := ⟨bA, j, none⟩) eb]; exact h1.2 j hj⟩
            · exact (HO.out.2.2.1.alloc HO.out.2.2.1.size _).grown hgrow3 (by have := HO.out.2.2.1.size; simp; omega) (fun k hk => (HO.out.1.lt k hk).1)
          clear hown' hgrow3 hnil3 hblk
          go_roundg (32 - (i + 1))
          case measure => have := HK.out; omega
          case rel => exact ⟨i + 1, rfl, by omega, by go_num, N3.out⟩

end Go.Proofs.Ytaefmdofchjofaa

import Derived.Test.YtiebnlahhmngcaaGreatDoorShiftNum
import Derived.Test.YtiebnlahhmngcaaGreatDoorMul2
import Derived.Test.YtiebnlahhmngcaaGreatDoorReduce
import Derived.Test.YtiebnlahhmngcaaGreatDoorHold
import Derived.Test.YtiebnlahhmngcaaGreatDoorLen
import Derived.Test.YtiebnlahhmngcaaGreatDoorAdd
import Derived.Test.YtiebnlahhmngcaaGreatDoorRowB
import Derived.Deep.LoopGhost
import Derived.Test.YtiebnlahhmngcaaGreatDoorRoomy
import Derived.Test.YtiebnlahhmngcaaGreatDoorPut
import Derived.Maps.AppendAt
import Derived.Lib.AppendZeros
import Derived.StillTail
import Derived.Lib.QuietBelow
import Derived.Laws.OwnMore
import Derived.BigQuiet
import Derived.Deep.RegionHeld
/- Layer 1: bytes as numbers, lists of one's own (as in layer 11). -/
namespace Go.Proofs.YtiebnlahhmngcaaGreatDoor
open Go.RowKit Go.Sort

/-- Bytes from a cell on. -/
def Bz (W : World) (b o : Nat) (X : List Int) : Prop := ∀ i, i < X.length → W.cell? ⟨b, o + i, none⟩ = some (.int .u8 (X.getD i 0))
/-- Where a slice of these bytes points: an empty one anywhere, or nowhere. -/
def Az (a : Option Addr) (b o : Nat) (X : List Int) : Prop := X = [] ∨ a = some ⟨b, o, none⟩
/-- Bytes. -/
def Bys (X : List Int) : Prop := ∀ x ∈ X, 0 ≤ x ∧ x < 256
theorem Bys.app {X Z : List Int} (h : Bys X) (k : Bys Z) : Bys (X ++ Z) := fun x hx => by
  rcases List.mem_append.1 hx with e | e
  · exact h x e
  · exact k x e
theorem Bz.keep {W W' : World} {b o : Nat} {X : List Int} (h : Bz W b o X) (hb : Below W.heap.size W W') : Bz W' b o X := fun i hi => cell_keep hb (h i hi)
theorem Bz.grown {W W' : World} {b o : Nat} {X : List Int} {row : Option Nat} (h : Bz W b o X) (hg : W.grownBy W' row) (hn : X ≠ [] → row ≠ some b) : Bz W' b o X := fun i hi => by
  have c := h i hi
  have hb := hg.block b (World.block_lt_of_cell? W _ c) (fun e => hn (fun e => by rw [e] at hi; simp at hi) e.symm)
  rw [World.cell?_of_block (w := W) (a := ⟨b, o + i, none⟩) hb]; exact c
/-- A slice of the call's own memory, of these bytes. -/
def OwnB (B : Nat) (W : World) (v : Value) (X : List Int) : Prop := W.ownsRow B 5 1 v X.length (X.map (Value.int .u8))
theorem OwnB.row {B : Nat} {W : World} {v : Value} {X : List Int} (h : OwnB B W v X) : W.ownsRow B 5 1 v X.length (X.map (Value.int .u8)) := h
theorem OwnB.nil (B : Nat) (W : World) : OwnB B W (.slice none 0 0) [] := ⟨rfl, .inl ⟨rfl, rfl⟩⟩
theorem grown_of_below {W W' : World} (h : Below W.heap.size W W') (row : Option Nat) : W.grownBy W' row := ⟨h.os, h.tape, h.output, h.size, fun k hk _ => h.block k hk⟩
theorem OwnB.keep {B : Nat} {W W' : World} {v : Value} {X : List Int} (h : OwnB B W v X) (hb : Below W.heap.size W W') : OwnB B W' v X :=
  World.ownsRow.kept h (grown_of_below hb Option.none) (by cases v.ownBlock <;> simp)
theorem OwnB.alloc {B : Nat} {W : World} {v : Value} {X : List Int} (h : OwnB B W v X) (o : Obj) : OwnB B (W.alloc o) v X := h.keep ((Below.refl _ _).alloc (Nat.le_refl _) o)
theorem OwnB.base {B B' : Nat} {W : World} {v : Value} {X : List Int} (h : OwnB B W v X) (hB : B' ≤ B) : OwnB B' W v X := by
  refine ⟨h.1, ?_⟩
  rcases h.2 with h | ⟨g, cap, cur, rfl, hb, r⟩
  · exact .inl h
  · exact .inr ⟨g, cap, cur, rfl, by omega, r⟩
theorem OwnB.cell {B g n cap : Nat} {W : World} {X : List Int} (h : OwnB B W (.slice (some ⟨g, 0, none⟩) n cap) X) (hn : X.length = n) {i : Nat} (hi : i < n) : W.cell? ⟨g, i, none⟩ = some (.int .u8 (X.getD i 0)) := by
  subst hn
  rw [World.ownsRow.cellAt h i (by omega), List.getElem?_map, List.getElem?_eq_getElem hi, List.getD, List.getElem?_eq_getElem hi]
  rfl
/-- Where such a slice lies. -/
theorem OwnB.lies {B : Nat} {W : World} {v : Value} {X : List Int} (h : OwnB B W v X) : ∃ a g c, v = .slice a X.length c ∧ X.length ≤ c ∧ Az a g 0 X ∧ Bz W g 0 X ∧ (∀ k, v.ownBlock = some k → k = g ∧ B ≤ k ∧ k < W.heap.size) ∧ (X ≠ [] → v.ownBlock = some g) ∧ (a = none → c = 0) := by
  rcases h.2 with ⟨rfl, h0⟩ | ⟨g, cap, cur, rfl, hb, hg, hle, _⟩
  · have e : X = [] := List.length_eq_zero_iff.1 h0
    subst e
    exact ⟨_, 0, 0, rfl, Nat.le_refl _, .inl rfl, fun i hi => absurd hi (Nat.not_lt_zero _), (fun k hk => by cases hk), fun h => absurd rfl h, fun _ => rfl⟩
  · refine ⟨_, g, cap, rfl, hle, .inr rfl, fun i hi => by rw [Nat.zero_add]; exact OwnB.cell h rfl hi, fun k hk => ?_, fun _ => rfl, fun e => by cases e⟩
    have e : g = k := Option.some.inj hk
    subst e
    exact ⟨rfl, hb, (Array.getElem?_eq_some_iff.1 hg).1⟩
theorem OwnB.lt {B : Nat} {W : World} {v : Value} {X : List Int} (h : OwnB B W v X) (k : Nat) (hk : v.ownBlock = some k) : B ≤ k ∧ k < W.heap.size := by
  obtain ⟨_, _, _, _, _, _, _, h5, _⟩ := h.lies
  exact (h5 k hk).2
theorem take_snocI {X : List Int} {i : Nat} (h : i < X.length) : X.take (i + 1) = X.take i ++ [X.getD i 0] := by
  rw [List.take_add_one, List.getD, List.getElem?_eq_getElem h]
  rfl
theorem Az.cons {a : Option Addr} {b o : Nat} {X : List Int} (h : Az a b o X) (hx : 0 < X.length) : a = some ⟨b, o, none⟩ := by
  rcases h with e | e
  · rw [e] at hx; simp at hx
  · exact e
end Go.Proofs.YtiebnlahhmngcaaGreatDoor

/- Layer 1: the document's Bytes. -/
namespace Go.Proofs.YtiebnlahhmngcaaGreatDoor
open Go.RowKit

/-- A list of bytes without the zeros ahead. -/
def stripL : List Int → List Int
  | [] => []
  | x :: xs => if x = 0 then stripL xs else x :: xs
theorem strip_len : ∀ (l : List Int) {k : Nat}, l.length ≤ k → (stripL l).length ≤ k
  | [], k, _ => by simp [stripL]
  | x :: xs, k, h => by
    by_cases e : x = 0
    · simp only [stripL, if_pos e]; exact strip_len xs (by simp at h; omega)
    · simp only [stripL, if_neg e]; exact h
theorem bts_setCells {W : World} {b : Nat} {l : List Int} (ht : W.there b 0 (l.map (Value.int .u8)).length) : Bts (W.setCells b 0 (l.map (Value.int .u8))) b l := by
  have h1 := World.rangeAt_setCells_same W b 0 (l.map (Value.int .u8)) ht
  refine ⟨fun i hi => ?_, fun i hi => ?_⟩
  · have := h1 i (.int .u8 (l.getD i 0)) (by simp [List.getD, List.getElem?_eq_getElem hi])
    rw [Nat.zero_add] at this
    exact this
  · have := (ht i (by simpa using hi)).2
    rw [Nat.zero_add] at this
    rw [World.frozen?_setCells]
    exact this

end Go.Proofs.YtiebnlahhmngcaaGreatDoor

/- Layer 1: slices.Clone, Bytes. -/
namespace Go.Proofs.YtiebnlahhmngcaaGreatDoor
open Go.RowKit Go.Sort

theorem strip_zeros : ∀ (k : Nat) (l : List Int), (∀ t, t < k → l.getD t 0 = 0) → (k < l.length → l.getD k 0 ≠ 0) → k ≤ l.length → stripL l = l.drop k
  | 0, [], _, _, _ => rfl
  | 0, x :: l, _, h, _ => by
    have := h (by simp)
    simp [stripL] at this ⊢
    simp [this]
  | k + 1, [], _, _, h => by simp at h
  | k + 1, x :: l, h0, h1, hk => by
    have e : x = 0 := by simpa using h0 0 (by omega)
    rw [stripL, if_pos e, List.drop_succ_cons]
    exact strip_zeros k l (fun t ht => by simpa using h0 (t + 1) (by omega)) (fun h => by simpa using h1 (by simpa using h)) (by simpa using hk)
/-- How many bytes a number takes. -/
def sizN (n : Int) : Nat := ((lenN n + 7) / 8).toNat
theorem pow256 (k : Nat) : (256 : Int) ^ k = 2 ^ (8 * k) := by rw [show (256 : Int) = 2 ^ 8 by decide, ← Int.pow_mul]
theorem len_bounds {n : Int} (h0 : 0 < n) : ∃ k : Nat, lenN n = (k : Int) + 1 ∧ (2 : Int) ^ k ≤ n ∧ n < 2 ^ (k + 1) := by
  refine ⟨Nat.log2 n.toNat, by rw [lenN, if_neg (by omega)], ?_, ?_⟩
  · have h := Nat.log2_self_le (n := n.toNat) (by omega)
    have : ((2 ^ Nat.log2 n.toNat : Nat) : Int) ≤ (n.toNat : Int) := by exact_mod_cast h
    rw [Int.toNat_of_nonneg (by omega)] at this
    exact_mod_cast this
  · have h := Nat.lt_log2_self (n := n.toNat)
    have : (n.toNat : Int) < ((2 ^ (Nat.log2 n.toNat + 1) : Nat) : Int) := by exact_mod_cast h
    rw [Int.toNat_of_nonneg (by omega)] at this
    exact_mod_cast this
theorem pow_mono {a b : Nat} (h : a ≤ b) : (2 : Int) ^ a ≤ 2 ^ b := by
  have : (2 : Nat) ^ a ≤ 2 ^ b := Nat.pow_le_pow_right (by decide) h
  exact_mod_cast this
theorem siz_facts {n : Int} (hn : Num n) (h0 : 0 < n) : 0 < sizN n ∧ sizN n ≤ 32 ∧ ((sizN n : Nat) : Int) = (lenN n + 7) / 8 ∧ 256 ^ (sizN n - 1) ≤ n ∧ n < 256 ^ sizN n := by
  obtain ⟨k, e, h1, h2⟩ := len_bounds h0
  have hk : k < 256 := by
    have h3 : n < 2 ^ 256 := by have := hn.2; simpa using this
    have h4 : (2 : Int) ^ k < 2 ^ 256 := by omega
    have h5 : (2 : Nat) ^ k < 2 ^ 256 := by exact_mod_cast h4
    exact (Nat.pow_lt_pow_iff_right (by decide)).1 h5
  have es : sizN n = (k + 8) / 8 := by rw [sizN, e]; omega
  refine ⟨by omega, by omega, by rw [es, e]; omega, ?_, ?_⟩
  · rw [pow256]; exact Int.le_trans (pow_mono (by omega)) h1
  · rw [pow256]; exact Int.lt_of_lt_of_le h2 (pow_mono (by omega))
theorem strip_put {n : Int} (hn : Num n) (h0 : 0 < n) : stripL (putL n) = (putL n).drop (32 - sizN n) := by
  obtain ⟨a, b, _, c, d⟩ := siz_facts hn h0
  refine strip_zeros _ _ (fun t ht => ?_) (fun h => ?_) (by rw [putL_len]; omega)
  · rw [putL_getD n (by omega), Int.ediv_eq_zero_of_lt (by omega) ?_]
    · rfl
    · refine Int.lt_of_lt_of_le d ?_
      rw [pow256, pow256]; exact pow_mono (by omega)
  · rw [putL_getD n (by omega), show 31 - (32 - sizN n) = sizN n - 1 by omega]
    obtain ⟨m, em⟩ : ∃ m, sizN n = m + 1 := ⟨sizN n - 1, by omega⟩
    rw [em] at c d ⊢
    rw [Nat.add_sub_cancel] at c ⊢
    have hp : (0 : Int) < 256 ^ m := by rw [pow256]; exact Int.pow_pos (by decide)
    have q1 : 1 ≤ n / 256 ^ m := Int.le_ediv_of_mul_le hp (by omega)
    have q2 : n / 256 ^ m < 256 := Int.ediv_lt_of_lt_mul hp (by rw [Int.pow_succ] at d; rw [Int.mul_comm]; exact d)
    omega
theorem strip_rep : ∀ k : Nat, stripL (List.replicate k 0) = []
  | 0 => rfl
  | k + 1 => by rw [List.replicate_succ, stripL, if_pos rfl]; exact strip_rep k
theorem strip_zero : stripL (putL 0) = [] := by
  have e : putL 0 = List.replicate 32 0 := by
    refine extB (by simp [putL_len]) fun t ht => ?_
    rw [putL_len] at ht
    have r : ∀ t, (List.replicate 32 (0 : Int)).getD t 0 = 0 := fun t => by
      rw [List.getD, List.getElem?_replicate]
      split <;> rfl
    rw [putL_getD 0 ht, r, Int.zero_ediv]
    rfl
  rw [e]; exact strip_rep 32
theorem heap_newU (W : World) (o : Obj) : (W.alloc o).heap[W.heap.size]? = some o := by
  show (W.heap.push o)[W.heap.size]? = some o
  simp
theorem src_bz {W : World} {b o : Nat} {X : List Int} (h : Bz W b o X) (j : Nat) (u : Value) (hu : (X.map (Value.int .u8))[j]? = some u) : W.cell? ((⟨b, o, none⟩ : Addr).add j) = some u := by
  rw [List.getElem?_map] at hu
  obtain ⟨x, hx, rfl⟩ := Option.map_eq_some_iff.1 hu
  have hj : j < X.length := (List.getElem?_eq_some_iff.1 hx).1
  rw [Addr.add_mid, h j hj]
  simp [List.getD, hx]
theorem wpList_worldU {P : Program} {ops : Array Oper} {Q : Exit → Act → World → Prop} {l : List Oper} {a : Act} {w : World} (S : World → Prop) (h : S w) (k : ∀ W, S W → wpList P ops Q l a W) : wpList P ops Q l a w := k w h
theorem own_mt (B : Nat) (W : World) (hB : B ≤ W.heap.size) : OwnB B (W.alloc (.cells #[] 5)) (.slice (some ⟨W.heap.size, 0, none⟩) 0 0) [] :=
  ⟨rfl, .inr ⟨W.heap.size, 0, _, rfl, hB, heap_newU _ _, Nat.le_refl _, by unfold maxLen; omega, rfl, rfl⟩⟩
theorem sl_some (w : World) (a : Addr) (n c : Nat) : (binOp .eql 29 (.slice (some a) n c) (.slice none 0 0)).run Tryz.prog w = .ok (.bool false) w := by kernel_rfl
set_option maxRecDepth 100000 in
set_option maxHeartbeats 4000000 in
theorem clone_any {b o c : Nat} {X : List Int} (hl : X.length < 140737488355000) (w : World) (hz : Bz w b o X) :
    Calls Tryz.prog 36 #[.slice (some ⟨b, o, none⟩) X.length c] w fun e w' => ∃ v, e = .returned v ∧ OwnB w.heap.size w' v X ∧ Below w.heap.size w w' := by
  obtain ⟨i0, hi, hz0, hz1, hz2⟩ := info_parts info_byte
  have sl := sl_some
  have HA : Hid (X.length < 140737488355000 ∧ Bz w b o X) := ⟨hl, hz⟩
  obtain ⟨n, en⟩ : ∃ n, n = X.length := ⟨_, rfl⟩
  rw [← en]
  have EN : Hid (X.length = n) := en.symm
  clear en hl hz
  go_enter Tryz.func36, Tryz.ntmps36
  go_wp2_with (at_builtin; go_loud (refine wpList_append_own_at _ rfl _ _ 29 rfl w.heap.size 5 i0 (.int .u8 0) 1 1 Tryz.underlying29 hi hz0 hz1 hz2 rfl (by decide) _ 0 [] rfl (own_mt _ _ (Nat.le_refl _)).row ⟨b, o, none⟩ n c (X.map (Value.int .u8)) rfl (by rw [List.length_map, EN.out, Nat.mul_one]) (fun j u hu => src_bz (HA.out.2.keep ((Below.refl _ _).alloc (Nat.le_refl _) _)) j u hu) (fun u hu => by obtain ⟨y, _, rfl⟩ := List.mem_map.1 hu; rfl) (by unfold maxLen; have := HA.out.1; have := EN.out; omega) (by have := HA.out.1; have := EN.out; omega) (by simp) ?_); intro v' w3 hown' hgrow3 hnil3 hblk)
  go_ret
  refine ⟨_, rfl, ?_, ((Below.refl _ _).alloc (Nat.le_refl _) _).grown hgrow3 (by simp) (fun k hk => by have e : w.heap.size = k := Option.some.inj hk; omega)⟩
  rw [OwnB, EN.out]
  simpa using hown'
theorem slice_arr {b p : Nat} (hp : p < 32) (w : World) : (Instr.sliceAt 27 (.pointer (some ⟨b, 0, none⟩)) (some (.int .i64 (p : Int))) none none).run Tryz.prog w = .ok (.slice (some ⟨b, p, none⟩) (32 - p) (32 - p)) w := by
  have tu := Tryz.underlying27
  have tz := Tryz.sizeOf5
  have hb : (Instr.sliceBounds false 32 32 (some (.int .i64 (p : Int))) none none).run Tryz.prog w = .ok (p, 32, 32) w := by
    have h1 : (p : Int) ≤ 32 := by omega
    simp [Instr.sliceBounds, go_sem, h1]
  have hz : (sizeOf 5).run Tryz.prog w = .ok 1 w := by simp [go_sem, tz]
  simp only [Instr.sliceAt, Instr.sureAddr, Sem.run_bind, Sem.run_pure, Result.andThen_ok, run_underlying tu, hb, hz]
  rw [if_neg (by omega)]
  simp [Addr.add]
  (try omega)
theorem slice_end {b : Nat} (w : World) : (Instr.sliceAt 27 (.pointer (some ⟨b, 0, none⟩)) (some (.int .i64 32)) none none).run Tryz.prog w = .ok (.slice (some ⟨b, 0, none⟩) 0 0) w := by
  have tu := Tryz.underlying27
  have tz := Tryz.sizeOf5
  have hb : (Instr.sliceBounds false 32 32 (some (.int .i64 32)) none none).run Tryz.prog w = .ok (32, 32, 32) w := by
    simp [Instr.sliceBounds, go_sem]
  have hz : (sizeOf 5).run Tryz.prog w = .ok 1 w := by simp [go_sem, tz]
  simp only [Instr.sliceAt, Instr.sureAddr, Sem.run_bind, Sem.run_pure, Result.andThen_ok, run_underlying tu, hb, hz]
  rfl
set_option maxRecDepth 100000 in
set_option maxHeartbeats 4000000 in
theorem bytes_pos {n : Int} (hn : Num n) (h0 : 0 < n) (w : World) :
    Calls Tryz.prog 22 #[.agg #[.int .u64 (l0 n), .int .u64 (l1 n), .int .u64 (l2 n), .int .u64 (l3 n)]] w fun e w' => ∃ v, e = .returned v ∧ OwnB w.heap.size w' v (stripL (putL n)) ∧ Below w.heap.size w w' := by
  rw [strip_put hn h0]
  obtain ⟨s0, s1, s2, _, _⟩ := siz_facts hn h0
  have PU : Hid (∀ w, Calls Tryz.prog 30 #[.agg #[.int .u64 (l0 n), .int .u64 (l1 n), .int .u64 (l2 n), .int .u64 (l3 n)]] w fun e w' => e = .returned (.agg ((putL n).map (Value.int .u8)).toArray) ∧ Below w.heap.size w w') := fun w => put_any w
  have LE : Hid (∀ w, Calls Tryz.prog 35 #[.agg #[.int .u64 (l0 n), .int .u64 (l1 n), .int .u64 (l2 n), .int .u64 (l3 n)]] w fun e w' => e = .returned (.int .i64 (lenN n)) ∧ Below w.heap.size w w') := fun w => len_any hn w
  have sz : ((putL n).map (Value.int .u8)).toArray.size = 32 := by simp [putL_len]
  have oc := one_cells (putL n)
  have LD : Hid (((putL n).drop (32 - sizN n)).length = sizN n) := by show _ = _; rw [List.length_drop, putL_len]; omega
  generalize sizN n = s at *
  generalize lenN n = ln at *
  have ln0 : 0 ≤ ln ∧ ln ≤ 256 := by omega
  go_enter Tryz.func22, Tryz.ntmps22
  go_wp2_with fail
  refine calls_world (fun W => Below w.heap.size w W ∧ Hold W w.heap.size n) ⟨(Below.refl _ _).alloc (Nat.le_refl _) _, Hold.new w n _⟩ ?_
  rintro W ⟨B, hX⟩
  refine (PU.out _).mono ?_
  rintro e w1 ⟨rfl, hb⟩
  have S1 : Hid (Below w.heap.size w w1 ∧ Hold w1 w.heap.size n) := ⟨B.trans (hb.mono B.size), hX.keep hb⟩
  clear hb B hX PU W
  have hz : Bts (w1.alloc (.cells #[.int .u8 0, .int .u8 0, .int .u8 0, .int .u8 0, .int .u8 0, .int .u8 0, .int .u8 0, .int .u8 0, .int .u8 0, .int .u8 0, .int .u8 0, .int .u8 0, .int .u8 0, .int .u8 0, .int .u8 0, .int .u8 0, .int .u8 0, .int .u8 0, .int .u8 0, .int .u8 0, .int .u8 0, .int .u8 0, .int .u8 0, .int .u8 0, .int .u8 0, .int .u8 0, .int .u8 0, .int .u8 0, .int .u8 0, .int .u8 0, .int .u8 0, .int .u8 0] 27)) w1.heap.size (List.replicate 32 0) := Bts.new (List.replicate 32 0) _ rfl
  have tr := hz.there (k := ((putL n).map (Value.int .u8)).toArray.size) (by rw [sz]; rfl)
  have T1 : Hid (∀ v, Below w.heap.size w ((w1.alloc v).setCells w1.heap.size 0 ((putL n).map (Value.int .u8))) ∧ Hold ((w1.alloc v).setCells w1.heap.size 0 ((putL n).map (Value.int .u8))) w.heap.size n) := fun v => ⟨below_setCells S1.out.1.size _ 0 _ (S1.out.1.alloc S1.out.1.size _), S1.out.2.keep (below_setCells (Nat.le_refl _) _ 0 _ ((Below.refl _ _).alloc (Nat.le_refl _) _))⟩
  go_wp2_with (go_loud (refine wpList_store_mid rfl 27 _ _ rfl w1.heap.size 0 _ rfl rfl tr (by rw [sz]; kernel_rfl) oc ?_); refine wpList_worldU (fun W => (Below w.heap.size w W ∧ Hold W w.heap.size n) ∧ Bts W w1.heap.size (putL n)) ⟨T1.out _, bts_setCells (by simpa using tr)⟩ ?_; intro W hW; obtain ⟨⟨B, hX0, hX1, hX2, hX3⟩, hB⟩ := hW; have S2 : Hid (Below w.heap.size w W ∧ Bts W w1.heap.size (putL n)) := ⟨B, hB⟩; (clear B hB))
  clear T1 tr hz S1
  refine (LE.out _).mono ?_
  rintro e w2 ⟨rfl, hb⟩
  have S3 : Hid (Below w.heap.size w w2 ∧ Bts w2 w1.heap.size (putL n)) := ⟨S2.out.1.trans (hb.mono S2.out.1.size), S2.out.2.keep (by rw [putL_len]; decide) hb⟩
  clear hb S2 LE hX0 hX1 hX2 hX3 oc sz
  generalize w1.heap.size = bA at *
  have q8 : (ln + 7) / 8 = (s : Int) := s2.symm
  obtain ⟨k, ek⟩ : ∃ k : Nat, k = 32 - s := ⟨_, rfl⟩
  have e32 : (32 : Int) - (s : Int) = (k : Int) := by omega
  have hk : k < 32 := by omega
  have hk' : (k : Int) < 32 := by omega
  have hk3 : ¬ k = 32 := by omega
  have EK : Hid (32 - k = s ∧ 32 - s = k) := ⟨by omega, by omega⟩
  clear s2 s0 s1 ek ln0
  have sl := slice_arr (b := bA) hk
  go_wp2_with fail
  have bz : Bz w2 bA k ((putL n).drop (32 - s)) := fun i hi => by
    rw [LD.out] at hi
    have := S3.out.2.1 (k + i) (by rw [putL_len]; have := EK.out; omega)
    rw [this, EK.out.2]
    simp [List.getD, List.getElem?_drop]
  have hc := clone_any (c := 32 - k) (by rw [LD.out]; have := EK.out; omega) w2 bz
  rw [LD.out] at hc
  rw [EK.out.1] at hc ⊢
  with_reducible refine hc.mono ?_
  rintro e w3 ⟨v, rfl, O, hb⟩
  have S4 : Hid (OwnB w2.heap.size w3 v ((putL n).drop (32 - s)) ∧ Below w.heap.size w w3) := ⟨O, S3.out.1.trans (hb.mono S3.out.1.size)⟩
  have l2 : w.heap.size ≤ w2.heap.size := S3.out.1.size
  clear hc hb O bz S3
  go_wp2
  go_ret
  exact ⟨_, rfl, S4.out.1.base l2, S4.out.2⟩
set_option maxRecDepth 100000 in
set_option maxHeartbeats 4000000 in
theorem bytes_zero (w : World) :
    Calls Tryz.prog 22 #[.agg #[.int .u64 (l0 0), .int .u64 (l1 0), .int .u64 (l2 0), .int .u64 (l3 0)]] w fun e w' => ∃ v, e = .returned v ∧ OwnB w.heap.size w' v (stripL (putL 0)) ∧ Below w.heap.size w w' := by
  rw [strip_zero]
  obtain ⟨n, hn0⟩ : ∃ n : Int, n = 0 := ⟨_, rfl⟩
  rw [← hn0]
  have PU : Hid (∀ w, Calls Tryz.prog 30 #[.agg #[.int .u64 (l0 n), .int .u64 (l1 n), .int .u64 (l2 n), .int .u64 (l3 n)]] w fun e w' => e = .returned (.agg ((putL n).map (Value.int .u8)).toArray) ∧ Below w.heap.size w w') := fun w => put_any w
  have LE : Hid (∀ w, Calls Tryz.prog 35 #[.agg #[.int .u64 (l0 n), .int .u64 (l1 n), .int .u64 (l2 n), .int .u64 (l3 n)]] w fun e w' => e = .returned (.int .i64 0) ∧ Below w.heap.size w w') := fun w => by
    have h := len_any (n := n) (by rw [hn0]; exact ⟨by decide, by decide⟩) w
    rw [lenN, if_pos hn0] at h
    exact h
  have sz : ((putL n).map (Value.int .u8)).toArray.size = 32 := by simp [putL_len]
  have oc := one_cells (putL n)
  clear hn0
  go_enter Tryz.func22, Tryz.ntmps22
  go_wp2_with fail
  refine calls_world (fun W => Below w.heap.size w W ∧ Hold W w.heap.size n) ⟨(Below.refl _ _).alloc (Nat.le_refl _) _, Hold.new w n _⟩ ?_
  rintro W ⟨B, hX⟩
  refine (PU.out _).mono ?_
  rintro e w1 ⟨rfl, hb⟩
  have S1 : Hid (Below w.heap.size w w1 ∧ Hold w1 w.heap.size n) := ⟨B.trans (hb.mono B.size), hX.keep hb⟩
  clear hb B hX PU W
  have hz : Bts (w1.alloc (.cells #[.int .u8 0, .int .u8 0, .int .u8 0, .int .u8 0, .int .u8 0, .int .u8 0, .int .u8 0, .int .u8 0, .int .u8 0, .int .u8 0, .int .u8 0, .int .u8 0, .int .u8 0, .int .u8 0, .int .u8 0, .int .u8 0, .int .u8 0, .int .u8 0, .int .u8 0, .int .u8 0, .int .u8 0, .int .u8 0, .int .u8 0, .int .u8 0, .int .u8 0, .int .u8 0, .int .u8 0, .int .u8 0, .int .u8 0, .int .u8 0, .int .u8 0, .int .u8 0] 27)) w1.heap.size (List.replicate 32 0) := Bts.new (List.replicate 32 0) _ rfl
  have tr := hz.there (k := ((putL n).map (Value.int .u8)).toArray.size) (by rw [sz]; rfl)
  have T1 : Hid (∀ v, Below w.heap.size w ((w1.alloc v).setCells w1.heap.size 0 ((putL n).map (Value.int .u8))) ∧ Hold ((w1.alloc v).setCells w1.heap.size 0 ((putL n).map (Value.int .u8))) w.heap.size n) := fun v => ⟨below_setCells S1.out.1.size _ 0 _ (S1.out.1.alloc S1.out.1.size _), S1.out.2.keep (below_setCells (Nat.le_refl _) _ 0 _ ((Below.refl _ _).alloc (Nat.le_refl _) _))⟩
  go_wp2_with (go_loud (refine wpList_store_mid rfl 27 _ _ rfl w1.heap.size 0 _ rfl rfl tr (by rw [sz]; kernel_rfl) oc ?_); refine wpList_worldU (fun W => (Below w.heap.size w W ∧ Hold W w.heap.size n) ∧ Bts W w1.heap.size (putL n)) ⟨T1.out _, bts_setCells (by simpa using tr)⟩ ?_; intro W hW; obtain ⟨⟨B, hX0, hX1, hX2, hX3⟩, hB⟩ := hW; have S2 : Hid (Below w.heap.size w W ∧ Bts W w1.heap.size (putL n)) := ⟨B, hB⟩; (clear B hB))
  clear T1 tr hz S1
  refine (LE.out _).mono ?_
  rintro e w2 ⟨rfl, hb⟩
  have S3 : Hid (Below w.heap.size w w2 ∧ Bts w2 w1.heap.size (putL n)) := ⟨S2.out.1.trans (hb.mono S2.out.1.size), S2.out.2.keep (by rw [putL_len]; decide) hb⟩
  clear hb S2 LE hX0 hX1 hX2 hX3 oc sz
  generalize w1.heap.size = bA at *
  have sl := slice_end (b := bA)
  go_wp2_with fail
  have bz : Bz w2 bA 0 ([] : List Int) := fun i hi => absurd hi (Nat.not_lt_zero _)
  have hc := clone_any (X := []) (c := 0) (by simp) w2 bz
  rw [List.length_nil] at hc
  with_reducible refine hc.mono ?_
  rintro e w3 ⟨v, rfl, O, hb⟩
  have S4 : Hid (OwnB w2.heap.size w3 v [] ∧ Below w.heap.size w w3) := ⟨O, S3.out.1.trans (hb.mono S3.out.1.size)⟩
  have l2 : w.heap.size ≤ w2.heap.size := S3.out.1.size
  clear hc hb O bz S3
  go_wp2
  go_ret
  exact ⟨_, rfl, S4.out.1.base l2, S4.out.2⟩
theorem bytes_any {n : Int} (hn : Num n) (w : World) :
    Calls Tryz.prog 22 #[.agg #[.int .u64 (l0 n), .int .u64 (l1 n), .int .u64 (l2 n), .int .u64 (l3 n)]] w fun e w' => ∃ v, e = .returned v ∧ OwnB w.heap.size w' v (stripL (putL n)) ∧ Below w.heap.size w w' := by
  by_cases h : n = 0
  · rw [h]; exact bytes_zero w
  · exact bytes_pos hn (by have := hn.1; omega) w
end Go.Proofs.YtiebnlahhmngcaaGreatDoor

/- Layer 7: isBare, readLength (RlHd on u256's base). -/
namespace Go.Proofs.YtiebnlahhmngcaaGreatDoor
open Go.RowKit

def bareB (A : List Int) : Bool := decide (A.length = 1) && decide (A.getD 0 0 < 128)
set_option maxRecDepth 100000 in
theorem bare_any {A : List Int} {ao : Option Addr} {b o c : Nat} (ha : Az ao b o A) (w : World) (h : Bz w b o A) :
    Calls Tryz.prog 55 #[.slice ao A.length c] w fun e w' => e = .returned (.bool (bareB A)) ∧ w' = w := by
  unfold bareB
  by_cases h1 : A.length = 1
  · have ea : ao = some ⟨b, o, none⟩ := by
      rcases ha with rfl | e
      · simp at h1
      · exact e
    subst ea
    have g := h 0 (by omega)
    rw [Nat.add_zero] at g
    have e1 : decide (A.length = 1) = true := decide_eq_true h1
    rw [e1]
    generalize A.getD 0 0 = x at *
    rw [h1]
    clear h1 e1 ha h
    go_enter Tryz.func55, Tryz.ntmps55
    go_wp2
    go_ret
    exact ⟨by simp, rfl⟩
  · have e1 : decide (A.length = 1) = false := decide_eq_false h1
    have h2 : ¬ ((A.length : Int) = 1) := by omega
    rw [e1]
    generalize A.length = n at *
    clear h1 e1 ha h
    go_enter Tryz.func55, Tryz.ntmps55
    go_wp2
    go_ret
    exact ⟨by simp, rfl⟩
end Go.Proofs.YtiebnlahhmngcaaGreatDoor

/- Layer 7: readHead (RlRd on u256's base). -/
namespace Go.Proofs.YtiebnlahhmngcaaGreatDoor
open Go.RowKit Go.Sort

theorem keepC {W w1 : World} {p : Addr} {v : Value} (hb : Below W.heap.size W w1) (h : W.cell? p = some v) : w1.cell? p = some v := by
  rw [hb.cell (p := p) (World.block_lt_of_cell? W _ h)]; exact h
/-- A head in a block. -/
def Hb (W : World) (b : Nat) (l : Bool) (s h : Int) : Prop := W.cell? ⟨b, 0, none⟩ = some (.bool l) ∧ W.cell? ⟨b, 1, none⟩ = some (.int .i64 s) ∧ W.cell? ⟨b, 2, none⟩ = some (.int .i64 h)
theorem Hb.keep {W w1 : World} {b : Nat} {l : Bool} {s h : Int} (x : Hb W b l s h) (hb : Below W.heap.size W w1) : Hb w1 b l s h := ⟨keepC hb x.1, keepC hb x.2.1, keepC hb x.2.2⟩
def Fr3 (W : World) (b : Nat) : Prop := W.frozen? ⟨b, 0, none⟩ = false ∧ W.frozen? ⟨b, 1, none⟩ = false ∧ W.frozen? ⟨b, 2, none⟩ = false
theorem Fr3.keep {W w1 : World} {b : Nat} (x : Fr3 W b) (hlt : b < W.heap.size) (hb : Below W.heap.size W w1) : Fr3 w1 b := ⟨by rw [hb.frozen (p := ⟨b, 0, none⟩) hlt]; exact x.1, by rw [hb.frozen (p := ⟨b, 1, none⟩) hlt]; exact x.2.1, by rw [hb.frozen (p := ⟨b, 2, none⟩) hlt]; exact x.2.2⟩
end Go.Proofs.YtiebnlahhmngcaaGreatDoor

/- Layer 7: readHead of long heads. -/
namespace Go.Proofs.YtiebnlahhmngcaaGreatDoor
open Go.RowKit Go.Sort

theorem Hb.new {W : World} {t : TypeId} {l : Bool} {s h : Int} : Hb (W.alloc (.cells #[.bool l, .int .i64 s, .int .i64 h] t)) W.heap.size l s h := ⟨by simp [go_sem], by simp [go_sem], by simp [go_sem]⟩
theorem Fr3.new {W : World} {t : TypeId} {l : Bool} {s h : Int} : Fr3 (W.alloc (.cells #[.bool l, .int .i64 s, .int .i64 h] t)) W.heap.size := ⟨by simp [go_sem], by simp [go_sem], by simp [go_sem]⟩
theorem Hb.size {W : World} {b : Nat} {l : Bool} {s h : Int} (x : Hb W b l s h) (y : Int) : Hb (W.setCell ⟨b, 1, none⟩ (.int .i64 y)) b l y h := ⟨by simp [go_sem, x.1], by simp [go_sem, x.2.1], by simp [go_sem, x.2.2]⟩
theorem Hb.held {W : World} {b : Nat} {l : Bool} {s h : Int} (x : Hb W b l s h) (y : Int) : Hb (W.setCell ⟨b, 2, none⟩ (.int .i64 y)) b l s y := ⟨by simp [go_sem, x.1], by simp [go_sem, x.2.1], by simp [go_sem, x.2.2]⟩
theorem Hb.other {W : World} {b b' i : Nat} {l : Bool} {s h : Int} (x : Hb W b l s h) (ne : b' ≠ b) (v : Value) : Hb (W.setCell ⟨b', i, none⟩ v) b l s h := by
  have hg := heap_setCell_other W ⟨b', i, none⟩ b v (fun e => ne e.symm)
  refine ⟨?_, ?_, ?_⟩
  · rw [← x.1]; simp only [World.cell?, hg]
  · rw [← x.2.1]; simp only [World.cell?, hg]
  · rw [← x.2.2]; simp only [World.cell?, hg]
theorem Fr3.set {W : World} {b : Nat} (x : Fr3 W b) (p : Addr) (v : Value) : Fr3 (W.setCell p v) b := ⟨by rw [World.frozen?_setCell]; exact x.1, by rw [World.frozen?_setCell]; exact x.2.1, by rw [World.frozen?_setCell]; exact x.2.2⟩
theorem Hb.lt {W : World} {b : Nat} {l : Bool} {s h : Int} (x : Hb W b l s h) : b < W.heap.size := World.block_lt_of_cell? W _ x.1
end Go.Proofs.YtiebnlahhmngcaaGreatDoor

/- Layer 7: bytes.Clone. -/
namespace Go.Proofs.YtiebnlahhmngcaaGreatDoor
open Go.RowKit Go.Sort
theorem sl_none (w : World) (n c : Nat) : (binOp .eql 29 (.slice none n c) (.slice none 0 0)).run Tryz.prog w = .ok (.bool true) w := by kernel_rfl
set_option maxRecDepth 100000 in
theorem bclone_nil (n c : Nat) (w : World) : Calls Tryz.prog 21 #[.slice none n c] w fun e w' => e = .returned (.slice none 0 0) ∧ w' = w := by
  have h := sl_none
  go_enter Tryz.func21, Tryz.ntmps21
  go_wp2
  simp [bodyPost, results, Tryz.results21, go_sem]
end Go.Proofs.YtiebnlahhmngcaaGreatDoor

/- Layer 1: Get, Strict of any list; '==' of 32 bytes. -/
namespace Go.Proofs.YtiebnlahhmngcaaGreatDoor
open Go.RowKit Go.Sort

def ge (X : List Int) : Int := if X.length ≤ 32 then 0 else 11
end Go.Proofs.YtiebnlahhmngcaaGreatDoor

/- Layer 7: Split of a head that is taken. -/
namespace Go.Proofs.YtiebnlahhmngcaaGreatDoor
open Go.RowKit Go.Sort
theorem wpAnyH_takeD {P : Program} {md : Region.Mode} {ops : Array Oper} {Q : Exit → Act → World → Prop} {S : World → Prop} {i : Nat} {oi : Oper} {v : Value} {fuel : Nat} {listed : Array Bool} {a : Act} {w : World} (d : Nat) (hi : ops[i]? = some oi) (hd : oi.dst = some d)
    (hs : Region.noSelect ops = true) (hf : Region.free md ops listed i = true) (hr : (Region.ready md ops listed).contains i = true)
    (hQ : ∀ c a w, Q (.panic c) (a.put oi.dst v) w → Q (.panic c) a w) (hy : YieldsIf P ops S oi v a) (hS : S w)
    (h : wpAnyH P md ops Q S fuel (listed.setIfInBounds i true) (a.put (some d) v) w) : wpAnyH P md ops Q S (fuel + 1) listed a w :=
  wpAnyH_take hi hs hf hr hQ hy hS (by rw [hd]; exact h)
end Go.Proofs.YtiebnlahhmngcaaGreatDoor

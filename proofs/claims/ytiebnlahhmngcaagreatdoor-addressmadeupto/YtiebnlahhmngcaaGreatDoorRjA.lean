import Derived.Test.YtiebnlahhmngcaaGreatDoorUbA
import Derived.Test.YtiebnlahhmngcaaGreatDoorShelf
import Derived.Deep.OwnRows
import Derived.Laws.CopyOwn
import Derived.Test.YtiebnlahhmngcaaGreatDoorQTail
import Derived.Laws.OwnMore
import Derived.Test.YtiebnlahhmngcaaGreatDoorHold
import Derived.Test.YtiebnlahhmngcaaGreatDoorRefNum
import Derived.Test.YtiebnlahhmngcaaGreatDoorAdd
import Derived.Deep.MidRow
import Derived.Lib.LazyBuf
import Derived.Test.YtiebnlahhmngcaaGreatDoorRoomy
import Derived.Test.YtiebnlahhmngcaaGreatDoorRowB
import Derived.Test.YtiebnlahhmngcaaGreatDoorShiftNum
import Derived.Test.YtiebnlahhmngcaaGreatDoorLen
import Derived.Test.YtiebnlahhmngcaaGreatDoorMul2
import Derived.Deep.LoopGhost
import Derived.Test.YtiebnlahhmngcaaGreatDoorMulNum
/- Layer 7: the head of a list, as both write it. -/
namespace Go.Proofs.YtiebnlahhmngcaaGreatDoor
open Go.RowKit Go.Sort

/-- A number's bytes, the highest first (of numbers below 2^24). -/
def beN (n : Nat) : List Int := if n < 256 then [(n : Int)] else if n < 65536 then [(n : Int) / 256, (n : Int) % 256] else [(n : Int) / 65536, (n : Int) / 256 % 256, (n : Int) % 256]
/-- A head. -/
def hdR (f : Int) (n : Nat) : List Int := if n ≤ 55 then [f + n] else (f + 55 + (beN n).length) :: beN n
theorem beN_len (n : Nat) : 1 ≤ (beN n).length ∧ (beN n).length ≤ 3 := by
  unfold beN
  split
  · exact ⟨Nat.le_refl 1, by show 1 ≤ 3; decide⟩
  · split
    · exact ⟨by show 1 ≤ 2; decide, by show 2 ≤ 3; decide⟩
    · exact ⟨by show 1 ≤ 3; decide, Nat.le_refl 3⟩
theorem hdR_len (f : Int) (n : Nat) : (hdR f n).length ≤ 4 := by
  unfold hdR
  have := beN_len n
  split
  · exact (by decide : 1 ≤ 4)
  · rw [List.length_cons]; omega
theorem bl_le {n k : Nat} (h : n < 2 ^ k) (hk : k ≤ 64) : Lib.bitLen n ≤ k := Lib.bitLen_le n k hk h
theorem bl_ge {n k : Nat} (h : 2 ^ k ≤ n) (hn : n < 2 ^ 64) : k < Lib.bitLen n := by
  have h0 : n ≠ 0 := by have := Nat.one_le_two_pow (n := k); omega
  have := (Lib.bitLenAux_bounds 64 n hn h0).2.2
  have e : n < 2 ^ Lib.bitLen n := this
  exact (Nat.pow_lt_pow_iff_right (by decide : 1 < 2)).1 (Nat.lt_of_le_of_lt h e)
theorem lsize {n : Nat} (h0 : 0 < n) (h1 : n < 16777216) : (Lib.bitLen n + 7) / 8 = (beN n).length := by
  unfold beN
  have a0 := bl_ge (k := 0) (n := n) (by rw [Nat.pow_zero]; exact h0) (by omega)
  by_cases k1 : n < 256
  · rw [if_pos k1]
    have a1 := bl_le (k := 8) (n := n) (by simpa using k1) (by decide)
    show _ = 1
    omega
  · rw [if_neg k1]
    have a1 := bl_ge (k := 8) (n := n) (by simp; omega) (by omega)
    by_cases k2 : n < 65536
    · rw [if_pos k2]
      have a2 := bl_le (k := 16) (n := n) (by simpa using k2) (by decide)
      show _ = 2
      omega
    · rw [if_neg k2]
      have a2 := bl_ge (k := 16) (n := n) (by simp; omega) (by omega)
      have a3 := bl_le (k := 24) (n := n) (by simpa using h1) (by decide)
      show _ = 3
      omega
theorem lengthSize_any {n : Nat} (h0 : 0 < n) (h1 : n < 16777216) (w : World) :
    Calls Tryz.prog 75 #[.int .i64 (n : Int)] w fun e w' => e = .returned (.int .i64 ((beN n).length : Int)) ∧ w' = w := by
  have c := Tryz.bits_Len (n : Int)
  have e := lsize h0 h1
  have hb := bl_le (k := 24) (n := n) (by simpa using h1) (by decide)
  have e2 : ((Lib.bitLen n : Int) + 7).tdiv 8 = ((beN n).length : Int) := by
    rw [Int.tdiv_eq_ediv_of_nonneg (by omega)]; omega
  have e3 : ((Lib.bitLen n : Int) + 7) / 8 = ((beN n).length : Int) := by omega
  have c2 : ∀ w, Calls Tryz.prog 88 #[.int .u64 (n : Int)] w fun e w' => e = .returned (.int .i64 (Lib.bitLen n : Int)) ∧ w' = w := fun w => by
    have := c w (by omega) (by omega)
    rwa [Int.toNat_natCast] at this
  have hn1 : (n : Int) < 16777216 := by omega
  have hb' : (Lib.bitLen n : Int) ≤ 24 := by omega
  clear e c hb
  generalize Lib.bitLen n = bl at *
  generalize (beN n).length = r at *
  go_enter Tryz.func75, Tryz.ntmps75
  go_wp2_with ((with_reducible refine (c2 _).mono ?_); rintro e1 w1 ⟨rfl, hw⟩; (rw [hw]); (clear hw w1))
  simp [bodyPost, results, Tryz.results75, go_sem]
  all_goals first | exact e3 | exact e2 | omega
theorem headSize_any {n : Nat} (h1 : n < 16777216) (w : World) :
    Calls Tryz.prog 53 #[.int .i64 (n : Int)] w fun e w' => e = .returned (.int .i64 ((hdR 192 n).length : Int)) ∧ w' = w := by
  by_cases k : n ≤ 55
  · have hk : (n : Int) ≤ 55 := by omega
    have e : (hdR 192 n).length = 1 := by unfold hdR; rw [if_pos k]; rfl
    rw [e]
    go_enter Tryz.func53, Tryz.ntmps53
    go_wp2
    simp [bodyPost, results, Tryz.results53, go_sem]
  · have hk : ¬ ((n : Int) ≤ 55) := by omega
    have c := lengthSize_any (n := n) (by omega) h1
    have e : (hdR 192 n).length = (beN n).length + 1 := by unfold hdR; rw [if_neg k]; rfl
    have hl := (beN_len n).2
    have hl' : ((beN n).length : Int) ≤ 3 := by omega
    rw [e]
    generalize (beN n).length = r at *
    clear e hl
    go_enter Tryz.func53, Tryz.ntmps53
    go_wp2_with ((with_reducible refine (c _).mono ?_); rintro e1 w1 ⟨rfl, hw⟩; (rw [hw]); (clear hw w1))
    simp [bodyPost, results, Tryz.results53, go_sem]
    omega
end Go.Proofs.YtiebnlahhmngcaaGreatDoor

/- Layer 7: withHead, the document's before. -/
namespace Go.Proofs.YtiebnlahhmngcaaGreatDoor
open Go.RowKit Go.Sort

/-- The bytes that the loop writes. -/
theorem be_at (n : Nat) : ((beN n).length = 1 ∧ (beN n).getD 0 0 = n ∧ n < 256) ∨ ((beN n).length = 2 ∧ (beN n).getD 0 0 = (n : Int) / 256 ∧ (beN n).getD 1 0 = (n : Int) % 256 ∧ n < 65536) ∨ ((beN n).length = 3 ∧ (beN n).getD 0 0 = (n : Int) / 65536 ∧ (beN n).getD 1 0 = (n : Int) / 256 % 256 ∧ (beN n).getD 2 0 = (n : Int) % 256) := by
  unfold beN
  by_cases k1 : n < 256
  · rw [if_pos k1]; exact .inl ⟨rfl, rfl, k1⟩
  · rw [if_neg k1]
    by_cases k2 : n < 65536
    · rw [if_pos k2]; exact .inr (.inl ⟨rfl, rfl, rfl, k2⟩)
    · rw [if_neg k2]; exact .inr (.inr ⟨rfl, rfl, rfl, rfl⟩)
end Go.Proofs.YtiebnlahhmngcaaGreatDoor

/- Layer 7: trees: an item in memory, its measures, its bytes. -/
namespace Go.Proofs.YtiebnlahhmngcaaGreatDoor
open Go.RowKit Go.Sort

/-- A tree: is it a list; its text; its items (odd ones too). -/
inductive Tr where
  | mk (l : Bool) (X : List Int) (ts : List Tr)
namespace Tr
def l : Tr → Bool | .mk l _ _ => l
def X : Tr → List Int | .mk _ X _ => X
def ts : Tr → List Tr | .mk _ _ ts => ts
end Tr
def zT : Tr := .mk false [] []
/-- By induction: of a tree, if of all of its items. -/
theorem Tr.ind {P : Tr → Prop} (h : ∀ l X ts, (∀ t ∈ ts, P t) → P (.mk l X ts)) : ∀ t, P t :=
  Tr.rec (motive_1 := P) (motive_2 := fun ts => ∀ t ∈ ts, P t) (fun l X ts ih => h l X ts ih) (fun _ ht => by cases ht)
    (fun t ts h1 h2 u hu => by
      rcases List.mem_cons.1 hu with rfl | hu
      · exact h1
      · exact h2 u hu)
mutual
/-- An item's two slices in memory. -/
def It (W : World) : Tr → Value → Value → Prop
  | .mk _ X ts, d, q => (∃ a b o c, d = .slice a X.length c ∧ (X.length ≤ c ∧ (a = none → c = 0)) ∧ Az a b o X ∧ Bz W b o X) ∧ ∃ a b o c, q = .slice a ts.length c ∧ (ts.length ≤ c ∧ (a = none → c = 0)) ∧ (ts = [] ∨ a = some ⟨b, o, none⟩) ∧ Its W b o ts
/-- Items in a row, three cells each. -/
def Its (W : World) (b : Nat) : Nat → List Tr → Prop
  | _, [] => True
  | o, t :: ts => (∃ d q, W.rangeAt b o [.bool t.l, d, q] ∧ It W t d q) ∧ Its W b (o + 3) ts
end
theorem rangeT_keep {W W' : World} {b o : Nat} {cs : List Value} (h : W.rangeAt b o cs) (hb : Below W.heap.size W W') : W'.rangeAt b o cs := fun j v hv => by
  rw [hb.cell (World.block_lt_of_cell? W _ (h j v hv))]; exact h j v hv
theorem Its.at {W : World} {b : Nat} : ∀ {o : Nat} {ts : List Tr} (_ : Its W b o ts) (i : Nat), i < ts.length → ∃ d q, W.rangeAt b (o + i * 3) [.bool (ts.getD i zT).l, d, q] ∧ It W (ts.getD i zT) d q
  | _, [], _, i, hi => absurd hi (Nat.not_lt_zero _)
  | o, t :: ts, h, 0, _ => by
    rw [Its] at h
    obtain ⟨d, q, h1, h2⟩ := h.1
    exact ⟨d, q, by simpa using h1, h2⟩
  | o, t :: ts, h, i + 1, hi => by
    rw [Its] at h
    obtain ⟨d, q, h1, h2⟩ := Its.at h.2 i (by simpa using hi)
    refine ⟨d, q, ?_, by simpa using h2⟩
    rw [show o + (i + 1) * 3 = o + 3 + i * 3 by omega]
    simpa using h1
theorem Its.of {W : World} {b : Nat} : ∀ {o : Nat} {ts : List Tr} (_ : ∀ i, i < ts.length → ∃ d q, W.rangeAt b (o + i * 3) [.bool (ts.getD i zT).l, d, q] ∧ It W (ts.getD i zT) d q), Its W b o ts
  | _, [], _ => by rw [Its]; trivial
  | o, t :: ts, h => by
    rw [Its]
    refine ⟨?_, Its.of fun i hi => ?_⟩
    · obtain ⟨d, q, h1, h2⟩ := h 0 (by simp)
      exact ⟨d, q, by simpa using h1, by simpa using h2⟩
    · obtain ⟨d, q, h1, h2⟩ := h (i + 1) (by simpa using hi)
      refine ⟨d, q, ?_, by simpa using h2⟩
      rw [show o + 3 + i * 3 = o + (i + 1) * 3 by omega]
      simpa using h1
theorem It.keep {W W' : World} (hb : Below W.heap.size W W') : ∀ (t : Tr) {d q : Value}, It W t d q → It W' t d q :=
  Tr.ind fun l X ts ih d q h => by
    rw [It] at h ⊢
    obtain ⟨⟨a, b, o, c, h1, h2, h3, h4⟩, a', b', o', c', k1, k2, k3, k4⟩ := h
    refine ⟨⟨a, b, o, c, h1, h2, h3, h4.keep hb⟩, a', b', o', c', k1, k2, k3, Its.of fun i hi => ?_⟩
    obtain ⟨d, q, e1, e2⟩ := k4.at i hi
    refine ⟨d, q, rangeT_keep e1 hb, ih _ ?_ e2⟩
    rw [List.getD, List.getElem?_eq_getElem hi]; exact List.getElem_mem hi
/-- Is the item itself odd? -/
def odd1 (l : Bool) (X : List Int) (ts : List Tr) : Bool := if l then decide (0 < X.length) else decide (0 < ts.length)
mutual
/-- Is it or one within it odd? -/
def oddT : Tr → Bool
  | .mk l X ts => odd1 l X ts || oddS ts
def oddS : List Tr → Bool
  | [] => false
  | t :: ts => oddT t || oddS ts
end
mutual
def dpT : Tr → Nat
  | .mk l _ ts => if l then dpS ts + 1 else 0
def dpS : List Tr → Nat
  | [] => 0
  | t :: ts => max (dpT t) (dpS ts)
end
/-- The bytes of a text. -/
def encX (X : List Int) : List Int := if bareB X then X else hdR 128 X.length ++ X
mutual
/-- The bytes of an item. -/
def encT : Tr → List Int
  | .mk l X ts => if l then hdR 192 (encS ts).length ++ encS ts else encX X
def encS : List Tr → List Int
  | [] => []
  | t :: ts => encT t ++ encS ts
end
mutual
/-- How many items and bytes there are. -/
def wtT : Tr → Nat
  | .mk _ X ts => 1 + X.length + wtS ts
def wtS : List Tr → Nat
  | [] => 0
  | t :: ts => wtT t + wtS ts
end
theorem oddS_snoc : ∀ (ts : List Tr) (t : Tr), oddS (ts ++ [t]) = (oddS ts || oddT t)
  | [], t => by simp [oddS]
  | u :: ts, t => by rw [List.cons_append, oddS, oddS, oddS_snoc ts t, Bool.or_assoc]
theorem dpS_snoc : ∀ (ts : List Tr) (t : Tr), dpS (ts ++ [t]) = max (dpS ts) (dpT t)
  | [], t => by simp [dpS]
  | u :: ts, t => by rw [List.cons_append, dpS, dpS, dpS_snoc ts t]; omega
theorem encS_app : ∀ (ts us : List Tr), encS (ts ++ us) = encS ts ++ encS us
  | [], _ => by simp [encS]
  | u :: ts, us => by rw [List.cons_append, encS, encS, encS_app ts us, List.append_assoc]
theorem wtS_app : ∀ (ts us : List Tr), wtS (ts ++ us) = wtS ts + wtS us
  | [], _ => by simp [wtS]
  | u :: ts, us => by rw [List.cons_append, wtS, wtS, wtS_app ts us]; omega
theorem take_snoc {ts : List Tr} {i : Nat} (h : i < ts.length) : ts.take (i + 1) = ts.take i ++ [ts.getD i zT] := by
  rw [List.take_add_one, List.getD, List.getElem?_eq_getElem h]; rfl
theorem getT_mem {ts : List Tr} {i : Nat} (h : i < ts.length) : ts.getD i zT ∈ ts := by
  rw [List.getD, List.getElem?_eq_getElem h]; exact List.getElem_mem h
theorem wt_item {ts : List Tr} {i : Nat} (h : i < ts.length) : wtS (ts.take i) + wtT (ts.getD i zT) ≤ wtS ts := by
  have e : ts.take (i + 1) ++ ts.drop (i + 1) = ts := List.take_append_drop _ _
  have := wtS_app (ts.take (i + 1)) (ts.drop (i + 1))
  rw [e, take_snoc h, wtS_app, wtS, wtS] at this
  omega
theorem encX_len (X : List Int) : (encX X).length ≤ 4 + X.length := by
  unfold encX
  split
  · omega
  · have := hdR_len 128 X.length
    rw [List.length_append]; omega
mutual
theorem encT_len : ∀ t : Tr, (encT t).length ≤ 4 * wtT t
  | .mk l X ts => by
    rw [encT, wtT]
    have h := encS_len ts
    have k := encX_len X
    split
    · have := hdR_len 192 (encS ts).length
      rw [List.length_append]; omega
    · omega
theorem encS_len : ∀ ts : List Tr, (encS ts).length ≤ 4 * wtS ts
  | [] => by rw [encS, wtS]; exact Nat.le_refl _
  | t :: ts => by
    rw [encS, wtS, List.length_append]
    have := encT_len t
    have := encS_len ts
    omega
end
mutual
theorem dpT_le : ∀ t : Tr, dpT t ≤ wtT t
  | .mk l X ts => by
    rw [dpT, wtT]
    have h := dpS_le ts
    split <;> omega
theorem dpS_le : ∀ ts : List Tr, dpS ts ≤ wtS ts
  | [] => by rw [dpS, wtS]; exact Nat.le_refl _
  | t :: ts => by
    rw [dpS, wtS]
    have := dpT_le t
    have := dpS_le ts
    omega
end
end Go.Proofs.YtiebnlahhmngcaaGreatDoor

/- Layer 7: measured, of any tree. -/
namespace Go.Proofs.YtiebnlahhmngcaaGreatDoor
open Go.RowKit Go.Sort

theorem hdR_same (f g : Int) (n : Nat) : (hdR f n).length = (hdR g n).length := by
  unfold hdR; split <;> rfl
/-- The value of an item. -/
def itV (t : Tr) (d q : Value) : Value := .agg #[.bool t.l, d, q]
set_option maxRecDepth 100000 in
theorem isOdd_any {l : Bool} {X : List Int} {ts : List Tr} {a1 a2 : Option Addr} {c1 c2 : Nat} (w : World) :
    Calls Tryz.prog 51 #[.agg #[.bool l, .slice a1 X.length c1, .slice a2 ts.length c2]] w fun e w' => e = .returned (.bool (odd1 l X ts)) ∧ Below w.heap.size w w' := by
  unfold odd1
  generalize X.length = n at *
  generalize ts.length = m at *
  cases l
  · go_enter Tryz.func51, Tryz.ntmps51
    go_wp2
    go_ret
    exact ⟨by simp, (Below.refl _ _).alloc (Nat.le_refl _) _⟩
  · go_enter Tryz.func51, Tryz.ntmps51
    go_wp2
    go_ret
    exact ⟨by simp, (Below.refl _ _).alloc (Nat.le_refl _) _⟩
set_option maxRecDepth 100000 in
theorem textSize_any {X : List Int} {a : Option Addr} {b o c : Nat} (hX : X.length < 16777216) (ha : Az a b o X) (w : World) (h : Bz w b o X) :
    Calls Tryz.prog 52 #[.slice a X.length c] w fun e w' => e = .returned (.int .i64 ((encX X).length : Int)) ∧ w' = w := by
  have c1 := bare_any (c := c) ha w h
  have c2 := headSize_any hX w
  have e1 : (encX X).length = if bareB X then 1 else (hdR 192 X.length).length + X.length := by
    unfold encX
    split
    · next hb =>
      unfold bareB at hb
      simp at hb
      exact hb.1
    · rw [List.length_append, hdR_same 128 192]
  have hl := hdR_len 192 X.length
  rw [e1]
  have HL : Hid (X.length < 16777216 ∧ (hdR 192 X.length).length ≤ 4) := ⟨hX, hl⟩
  clear ha h e1 hl hX
  generalize (hdR 192 X.length).length = r at *
  generalize bareB X = B at *
  generalize X.length = n at *
  cases B
  · go_enter Tryz.func52, Tryz.ntmps52
    go_wp2_with (first
      | ((with_reducible refine c1.mono ?_); rintro e1 w1 ⟨rfl, hw⟩; (rw [hw]); (clear hw w1))
      | ((with_reducible refine c2.mono ?_); rintro e1 w1 ⟨rfl, hw⟩; (rw [hw]); (clear hw w1)))
    simp [bodyPost, results, Tryz.results52, go_sem]
    have := HL.out
    unfold wrap64; omega
  · go_enter Tryz.func52, Tryz.ntmps52
    go_wp2_with (first
      | ((with_reducible refine c1.mono ?_); rintro e1 w1 ⟨rfl, hw⟩; (rw [hw]); (clear hw w1)))
    simp [bodyPost, results, Tryz.results52, go_sem]
/-- What measured answers. -/
def mV (t : Tr) : Value := if oddT t then .agg #[.bool true, .int .i64 0, .int .i64 0] else .agg #[.bool false, .int .i64 (dpT t), .int .i64 (encT t).length]
theorem len_wt : ∀ ts : List Tr, ts.length ≤ wtS ts
  | [] => Nat.zero_le _
  | .mk l X us :: ts => by
    have := len_wt ts
    rw [wtS, wtT, List.length_cons]; omega
/-- The part of measured for one item: its block holds the item, another the answer. -/
def Bx (W : World) (b : Nat) (l : Bool) (d q : Value) : Prop := W.cell? ⟨b, 0, none⟩ = some (.bool l) ∧ W.cell? ⟨b, 1, none⟩ = some d ∧ W.cell? ⟨b, 2, none⟩ = some q
theorem Bx.keep {W w1 : World} {b : Nat} {l : Bool} {d q : Value} (x : Bx W b l d q) (hb : Below W.heap.size W w1) : Bx w1 b l d q := ⟨keepC hb x.1, keepC hb x.2.1, keepC hb x.2.2⟩
set_option maxRecDepth 100000 in
set_option maxHeartbeats 4000000 in
theorem measured_odd {l : Bool} {X : List Int} {ts : List Tr} {a1 a2 : Option Addr} {c1 c2 : Nat} (h : odd1 l X ts = true) (w : World) :
    Calls Tryz.prog 31 #[.agg #[.bool l, .slice a1 X.length c1, .slice a2 ts.length c2]] w fun e w' => e = .returned (.agg #[.bool true, .int .i64 0, .int .i64 0]) ∧ Below w.heap.size w w' := by
  have C := fun w => isOdd_any (l := l) (X := X) (ts := ts) (a1 := a1) (a2 := a2) (c1 := c1) (c2 := c2) w
  rw [h] at C
  clear h
  generalize X.length = n at *
  generalize ts.length = m at *
  go_enter Tryz.func31, Tryz.ntmps31
  refine wp_seq_k fun K h => ?_
  have H : Hid _ := h
  clear h
  go_wp2_with fail
  refine H.out _ _ ?_
  clear H K
  refine wp_world (fun W => Below w.heap.size w W ∧ Bx W w.heap.size l (.slice a1 n c1) (.slice a2 m c2) ∧ Hb W (w.heap.size + 1) false 0 0 ∧ Fr3 W (w.heap.size + 1)) ⟨((Below.refl _ _).alloc (Nat.le_refl _) _).alloc (by simp) _, ⟨by simp [go_sem], by simp [go_sem], by simp [go_sem]⟩, ⟨by simp [go_sem], by simp [go_sem], by simp [go_sem]⟩, ⟨by simp [go_sem], by simp [go_sem], by simp [go_sem]⟩⟩ ?_
  rintro W ⟨B, hX, hR, hF⟩
  have hX' := hX
  obtain ⟨x0, x1, x2⟩ := hX'
  go_wp2_with ((with_reducible refine (C _).mono ?_); rintro e1 w1 ⟨rfl, hw⟩; (have B1 := B.trans (hw.mono B.size)); (obtain ⟨r0, r1, r2⟩ := hR.keep hw); (obtain ⟨z0, z1, z2⟩ := hF.keep hR.lt hw); (clear x0 x1 x2 hX))
  simp [bodyPost, results, Tryz.results31, go_sem, r0, r1, r2]
  exact ((B1.setCell (by show w.heap.size ≤ w.heap.size + 1; omega) _).setCell (by show w.heap.size ≤ w.heap.size + 1; omega) _).setCell (by show w.heap.size ≤ w.heap.size + 1; omega) _
set_option maxRecDepth 100000 in
set_option maxHeartbeats 4000000 in
theorem measured_text {X : List Int} {ts : List Tr} {a1 a2 : Option Addr} {b o c1 c2 : Nat} (h : odd1 false X ts = false) (hn : X.length < 16777216) (ha : Az a1 b o X) (w : World) (hb : Bz w b o X) :
    Calls Tryz.prog 31 #[.agg #[.bool false, .slice a1 X.length c1, .slice a2 ts.length c2]] w fun e w' => e = .returned (.agg #[.bool false, .int .i64 0, .int .i64 (encX X).length]) ∧ Below w.heap.size w w' := by
  have C := fun w => isOdd_any (l := false) (X := X) (ts := ts) (a1 := a1) (a2 := a2) (c1 := c1) (c2 := c2) w
  rw [h] at C
  have D : Hid (∀ W, Below w.heap.size w W → Calls Tryz.prog 52 #[.slice a1 X.length c1] W fun e w' => e = .returned (.int .i64 ((encX X).length : Int)) ∧ w' = W) := fun W B => textSize_any (c := c1) hn ha W (hb.keep B)
  clear h hn ha hb
  generalize (encX X).length = r at *
  generalize X.length = n at *
  generalize ts.length = m at *
  go_enter Tryz.func31, Tryz.ntmps31
  refine wp_seq_k fun K h => ?_
  have H : Hid _ := h
  clear h
  go_wp2_with fail
  refine H.out _ _ ?_
  clear H K
  refine wp_world (fun W => Below w.heap.size w W ∧ Bx W w.heap.size false (.slice a1 n c1) (.slice a2 m c2) ∧ Hb W (w.heap.size + 1) false 0 0 ∧ Fr3 W (w.heap.size + 1)) ⟨((Below.refl _ _).alloc (Nat.le_refl _) _).alloc (by simp) _, ⟨by simp [go_sem], by simp [go_sem], by simp [go_sem]⟩, ⟨by simp [go_sem], by simp [go_sem], by simp [go_sem]⟩, ⟨by simp [go_sem], by simp [go_sem], by simp [go_sem]⟩⟩ ?_
  rintro W ⟨B, hX, hR, hF⟩
  have hX' := hX
  obtain ⟨x0, x1, x2⟩ := hX'
  go_wp2_with (first
    | ((with_reducible refine (C _).mono ?_); rintro e1 w1 ⟨rfl, hw⟩; (have B1 := B.trans (hw.mono B.size)); (obtain ⟨r0, r1, r2⟩ := hR.keep hw); (obtain ⟨z0, z1, z2⟩ := hF.keep hR.lt hw); (replace x0 := keepC hw x0); (replace x1 := keepC hw x1); (clear x2 hX))
    | ((with_reducible refine (D.out _ B1).mono ?_); rintro e1 w2 ⟨rfl, rfl⟩))
  simp [bodyPost, results, Tryz.results31, go_sem, r0, r1, r2]
  exact ((B1.setCell (by show w.heap.size ≤ w.heap.size + 1; omega) _).setCell (by show w.heap.size ≤ w.heap.size + 1; omega) _).setCell (by show w.heap.size ≤ w.heap.size + 1; omega) _
end Go.Proofs.YtiebnlahhmngcaaGreatDoor

/- Layer 7: measured, of any tree. -/
namespace Go.Proofs.YtiebnlahhmngcaaGreatDoor
open Go.RowKit Go.Sort

theorem oddS_app : ∀ (ts us : List Tr), oddS (ts ++ us) = (oddS ts || oddS us)
  | [], us => by simp [oddS]
  | t :: ts, us => by rw [List.cons_append, oddS, oddS, oddS_app ts us, Bool.or_assoc]
theorem oddS_take {ts : List Tr} {k : Nat} (h : oddS (ts.take k) = true) : oddS ts = true := by
  have := oddS_app (ts.take k) (ts.drop k)
  rw [List.take_append_drop, h] at this
  simpa using this
theorem size_it : (Tryz.prog.info? 35).map (·.size) = some 3 := by kernel_rfl
set_option maxRecDepth 100000 in
set_option maxHeartbeats 8000000 in
theorem measured_list {X : List Int} {ts : List Tr} {a1 a2 : Option Addr} {b o c1 c2 : Nat} (h : odd1 true X ts = false) (hn : wtS ts < 4194304) (hc : ts.length ≤ c2) (ha : ts = [] ∨ a2 = some ⟨b, o, none⟩) (w : World) (hI : Its w b o ts)
    (ih : ∀ t ∈ ts, ∀ {d q : Value} (_ : wtT t < 4194304) (w : World) (_ : It w t d q), Calls Tryz.prog 31 #[itV t d q] w fun e w' => e = .returned (mV t) ∧ Below w.heap.size w w') :
    Calls Tryz.prog 31 #[.agg #[.bool true, .slice a1 X.length c1, .slice a2 ts.length c2]] w fun e w' => e = .returned (if oddS ts then .agg #[.bool true, .int .i64 0, .int .i64 0] else .agg #[.bool false, .int .i64 (dpS ts + 1 : Nat), .int .i64 ((hdR 192 (encS ts).length).length + (encS ts).length : Nat)]) ∧ Below w.heap.size w w' := by
  have C := fun w => isOdd_any (l := true) (X := X) (ts := ts) (a1 := a1) (a2 := a2) (c1 := c1) (c2 := c2) w
  rw [h] at C
  have HI : Hid (∀ W, Below w.heap.size w W → Its W b o ts) := fun W B => Its.of fun i hi => by
    obtain ⟨d, q, e1, e2⟩ := hI.at i hi
    exact ⟨d, q, rangeT_keep e1 B, It.keep B _ e2⟩
  have HN : Hid (wtS ts < 4194304 ∧ ts.length ≤ c2 ∧ (ts = [] ∨ a2 = some ⟨b, o, none⟩)) := ⟨hn, hc, ha⟩
  have IH : Hid (∀ t ∈ ts, ∀ {d q : Value} (_ : wtT t < 4194304) (w : World) (_ : It w t d q), Calls Tryz.prog 31 #[itV t d q] w fun e w' => e = .returned (mV t) ∧ Below w.heap.size w w') := ih
  have hl : (ts.length : Int) ≤ 4194304 := by have := len_wt ts; omega
  clear h hn ha hI ih hc
  obtain ⟨Z, hZ⟩ : ∃ Z : Value, (if oddS ts then .agg #[.bool true, .int .i64 0, .int .i64 0] else .agg #[.bool false, .int .i64 (dpS ts + 1 : Nat), .int .i64 ((hdR 192 (encS ts).length).length + (encS ts).length : Nat)]) = Z := ⟨_, rfl⟩
  rw [hZ]
  have HZ : Hid _ := hZ
  clear hZ
  generalize X.length = n at *
  go_enter Tryz.func31, Tryz.ntmps31
  refine wp_seq_k fun K h => ?_
  have H : Hid _ := h
  clear h
  go_wp2_with fail
  refine H.out _ _ ?_
  clear H K
  refine wp_world (fun W => Below w.heap.size w W ∧ Bx W w.heap.size true (.slice a1 n c1) (.slice a2 ts.length c2) ∧ Hb W (w.heap.size + 1) false 0 0 ∧ Fr3 W (w.heap.size + 1)) ⟨((Below.refl _ _).alloc (Nat.le_refl _) _).alloc (by simp) _, ⟨by simp [go_sem], by simp [go_sem], by simp [go_sem]⟩, ⟨by simp [go_sem], by simp [go_sem], by simp [go_sem]⟩, ⟨by simp [go_sem], by simp [go_sem], by simp [go_sem]⟩⟩ ?_
  rintro W ⟨B, hX, hR, hF⟩
  obtain ⟨x0, x1, x2⟩ := hX
  refine wp_seq_k fun K h => ?_
  have H : Hid _ := h
  clear h
  go_wp2_with ((with_reducible refine (C _).mono ?_); rintro e1 w1 ⟨rfl, hw⟩; (replace B := B.trans (hw.mono B.size)); (replace hF := hF.keep hR.lt hw); (replace hR := hR.keep hw); (replace x0 := keepC hw x0); (replace x2 := keepC hw x2); (clear x1))
  refine H.out _ _ ?_
  clear H K C hw
  refine wp_seq_k fun K h => ?_
  have H : Hid _ := h
  clear h
  go_wp2_with fail
  refine H.out _ _ ?_
  clear H K x0
  refine wp_seq_k fun K h => ?_
  have H : Hid _ := h
  clear h
  go_wp2_with fail
  refine H.out _ _ ?_
  clear H K
  refine wp_world (fun V => Below w.heap.size w V ∧ Hb V (w.heap.size + 1) false 0 0 ∧ Fr3 V (w.heap.size + 1) ∧ Hb V w1.heap.size false 0 0 ∧ Fr3 V w1.heap.size ∧ w.heap.size + 1 < w1.heap.size ∧ V.cell? ⟨w.heap.size, 2, none⟩ = some (.slice a2 ts.length c2)) ⟨B.alloc B.size _, hR.keep ((Below.refl _ _).alloc (Nat.le_refl _) _), hF.keep hR.lt ((Below.refl _ _).alloc (Nat.le_refl _) _), Hb.new, Fr3.new, hR.lt, keepC ((Below.refl _ _).alloc (Nat.le_refl _) _) x2⟩ ?_
  clear B hR hF x2
  generalize w1.heap.size = s
  clear w1 W
  rintro V ⟨B, hR, hF, hS, hG, hs, x2⟩
  have hs' : s ≠ w.heap.size + 1 := by omega
  go_wp2_with fail
  go_loopg [20] ts.length (fun k iv wr => ∃ i : Nat, k = ts.length - i ∧ i ≤ ts.length ∧ iv = .int .i64 (i : Int) ∧ oddS (ts.take i) = false ∧ Below w.heap.size w wr ∧ Hb wr (w.heap.size + 1) false 0 0 ∧ Fr3 wr (w.heap.size + 1) ∧ Hb wr s false (dpS (ts.take i)) (encS (ts.take i)).length ∧ Fr3 wr s)
  case atStart => exact ⟨0, rfl, Nat.zero_le _, rfl, by simp [oddS], B, hR, hF, by simpa [dpS, encS] using hS, hG⟩
  case round =>
    clear B hR hF hS hG x2 V
    obtain ⟨i, hk, hi, rfl, hO, B, hR, hF, hS, hG⟩ := hrel
    have HK : Hid (gk = ts.length - i ∧ i ≤ ts.length) := ⟨hk, hi⟩
    clear hk
    by_cases h8 : i = ts.length
    · subst h8
      rw [List.take_length] at hO hS
      have hE := encS_len ts
      have hD := dpS_le ts
      have h4 := hdR_len 192 (encS ts).length
      have HS : Hid (∀ w, Calls Tryz.prog 53 #[.int .i64 ((encS ts).length : Int)] w fun e w' => e = .returned (.int .i64 ((hdR 192 (encS ts).length).length : Int)) ∧ Below w.heap.size w w') := fun w => (headSize_any (by have := HN.out.1; omega) w).mono fun e w' h => ⟨h.1, by rw [h.2]; exact Below.refl _ _⟩
      have HB : Hid ((hdR 192 (encS ts).length).length ≤ 4 ∧ (encS ts).length < 16777216 ∧ dpS ts < 16777216) := ⟨h4, by have := HN.out.1; omega, by have := HN.out.1; omega⟩
      have EZ : Hid (Z = .agg #[.bool false, .int .i64 (dpS ts + 1 : Nat), .int .i64 ((hdR 192 (encS ts).length).length + (encS ts).length : Nat)]) := by
        have := HZ.out
        rw [hO] at this
        exact this.symm
      clear HZ HN IH HI HK hE hD h4 hi hl hO
      generalize (hdR 192 (encS ts).length).length = r at *
      generalize (encS ts).length = E at *
      generalize dpS ts = D at *
      generalize ts.length = m at *
      have gS1 := fun d os => (hS.keep (below_regrown wr d os)).2.1
      have gS2 := fun d os => (hS.keep (below_regrown wr d os)).2.2
      clear hG
      refine wp_seq_k fun K h => ?_
      have H : Hid _ := h
      clear h
      go_wp2_with fail
      refine H.out _ _ ?_
      clear H K
      go_wp2_with fail
      refine below_tail 10 (by kernel_rfl) (by kernel_rfl) ?_
      simp only [List.take_succ_cons, List.take_zero, List.drop_succ_cons, List.drop_zero]
      repeat
        first
          | go_big_quiet_skip
          | (go_big_quiet_want; go_big_quiet_op; go_big_quiet_on)
          | (go_big_quiet_want
             go_big_quiet_op
             apply Exists.intro
             refine ⟨fun p => ?_, ?_⟩
             · (go_at_call 53; with_reducible exact Calls.regrown_of (HS.out _))
             go_big_quiet_on)
      refine wpQuiet_nil ?_
      rintro w2 ⟨p, rfl⟩
      have hb := below_regrown wr p.d p.os
      generalize grow (redrawn wr p.d) p.os = w2 at *
      replace B := B.trans (hb.mono B.size)
      replace hF := hF.keep hR.lt hb
      replace hR := hR.keep hb
      clear hb gS1 gS2 hS
      obtain ⟨r0, r1, r2⟩ := hR
      obtain ⟨z0, z1, z2⟩ := hF
      go_wp2
      simp [bodyPost, results, Tryz.results31, go_sem, r0, r1, r2]
      have := HB.out
      refine ⟨?_, ((B.setCell (by show w.heap.size ≤ w.heap.size + 1; omega) _).setCell (by show w.heap.size ≤ w.heap.size + 1; omega) _).setCell (by show w.heap.size ≤ w.heap.size + 1; omega) _⟩
      rw [EZ.out]
      have e1 : wrap64 ((D : Int) + 1) = ((D + 1 : Nat) : Int) := by unfold wrap64; omega
      have e2 : wrap64 ((r : Int) + E) = ((r + E : Nat) : Int) := by unfold wrap64; omega
      rw [e1, e2]
    · have hlt : i < ts.length := by omega
      have hlt' : (i : Int) < (ts.length : Int) := by omega
      have ha : a2 = some ⟨b, o, none⟩ := by
        rcases HN.out.2.2 with e | e
        · rw [e] at hlt; exact absurd hlt (Nat.not_lt_zero _)
        · exact e
      subst ha
      obtain ⟨d, q, e1, e2⟩ := (HI.out wr B).at i hlt
      have hwt := wt_item hlt
      have e3 := take_snoc hlt
      have eo : oddS (ts.take (i + 1)) = oddT (ts.getD i zT) := by rw [e3, oddS_snoc, hO]; rfl
      have ed : dpS (ts.take (i + 1)) = max (dpS (ts.take i)) (dpT (ts.getD i zT)) := by rw [e3, dpS_snoc]
      have ee : (encS (ts.take (i + 1))).length = (encS (ts.take i)).length + (encT (ts.getD i zT)).length := by rw [e3, encS_app, List.length_append, encS, encS, List.append_nil]
      have hE := encS_len (ts.take i)
      have hE2 := encT_len (ts.getD i zT)
      have R1 : Hid (wr.rangeAt b (o + i * 3) [.bool (ts.getD i zT).l, d, q]) := e1
      have MC : Hid (∀ W, Below wr.heap.size wr W → Calls Tryz.prog 31 #[.agg #[.bool (ts.getD i zT).l, d, q]] W fun e w' => e = .returned (mV (ts.getD i zT)) ∧ Below W.heap.size W w') := fun W B => IH.out _ (getT_mem hlt) (by have := HN.out.1; omega) W (It.keep B _ e2)
      have dq : ∃ k1 k2 k3 k4 k5 k6, d = .slice k1 k2 k3 ∧ q = .slice k4 k5 k6 := by
        revert e2
        cases ts.getD i zT with
        | mk l' X' ts' =>
          intro e2
          rw [It] at e2
          obtain ⟨⟨k1, _, _, k3, h1, _⟩, k4, _, _, k6, h2, _⟩ := e2
          exact ⟨_, _, _, _, _, _, h1, h2⟩
      obtain ⟨k1, k2, k3, k4, k5, k6, rfl, rfl⟩ := dq
      unfold mV at MC
      have fw := fun (V : World) (BV : Below wr.heap.size wr V) => (⟨B.trans (BV.mono B.size), hR.keep BV, hF.keep hR.lt BV, hS.keep BV, hG.keep hS.lt BV⟩ : Below w.heap.size w V ∧ Hb V (w.heap.size + 1) false 0 0 ∧ Fr3 V (w.heap.size + 1) ∧ Hb V s false (dpS (ts.take i)) (encS (ts.take i)).length ∧ Fr3 V s)
      have FW : Hid _ := fw
      cases hod : oddT (ts.getD i zT) with
      | true =>
        rw [hod] at MC eo
        have MC' : Hid (∀ W, Below wr.heap.size wr W → Calls Tryz.prog 31 #[.agg #[.bool (ts.getD i zT).l, .slice k1 k2 k3, .slice k4 k5 k6]] W fun e w' => e = .returned (.agg #[.bool true, .int .i64 0, .int .i64 0]) ∧ Below W.heap.size W w') := MC
        clear MC
        have EZ : Hid (Z = .agg #[.bool true, .int .i64 0, .int .i64 0]) := by
          have := HZ.out
          have e : oddS ts = true := oddS_take eo
          rw [e] at this
          exact this.symm
        clear e1 e2 hwt e3 eo ed ee hE hE2 fw hod hS hR hF hG HZ IH HI hO
        generalize (ts.getD i zT).l = lt at *
        generalize (encS (ts.take i)).length = E at *
        generalize dpS (ts.take i) = D at *
        generalize ts.length = m at *
        refine wp_seq_k fun K h => ?_
        have H : Hid _ := h
        clear h
        go_wp2_with fail
        refine H.out _ _ ?_
        clear H K
        refine wp_seq_k fun K h => ?_
        have H : Hid _ := h
        clear h
        go_wp2_with fail
        refine H.out _ _ ?_
        clear H K
        refine wp_seq_k fun K h => ?_
        have H14 : Hid _ := h
        clear h
        refine wp_block ?_
        refine wp_seq_k fun K h => ?_
        have H : Hid _ := h
        clear h
        go_wp2_with (refine wpList_load_mid rfl _ _ rfl b (o + i * 3) rfl _ _ R1.out Tryz.underlying35 rfl size_it ?_)
        refine H.out _ _ ?_
        clear H K R1
        refine wp_world (fun V => Below wr.heap.size wr V ∧ Bx V wr.heap.size lt (.slice k1 k2 k3) (.slice k4 k5 k6)) ⟨(Below.refl _ _).alloc (Nat.le_refl _) _, ⟨by simp [go_sem], by simp [go_sem], by simp [go_sem]⟩⟩ ?_
        rintro V ⟨BV, x0, x1, x2⟩
        refine wp_seq_k fun K h => ?_
        have H : Hid _ := h
        clear h
        go_wp2_with ((with_reducible refine (MC'.out _ BV).mono ?_); rintro e1 w2 ⟨rfl, hw⟩)
        refine H.out _ _ ?_
        clear H K
        replace BV := BV.trans (hw.mono BV.size)
        clear hw x0 x1 x2
        refine wp_world (fun U => Below wr.heap.size wr U ∧ Hb U w2.heap.size true 0 0) ⟨BV.alloc BV.size _, Hb.new⟩ ?_
        clear BV
        generalize w2.heap.size = v
        clear V w2
        rintro V ⟨BV, hV⟩
        obtain ⟨B2, hR, hF, hS, hG⟩ := FW.out V BV
        obtain ⟨v0, v1, v2⟩ := hV
        obtain ⟨r0, r1, r2⟩ := hR
        obtain ⟨z0, z1, z2⟩ := hF
        clear v1 v2 hS hG H14
        go_wp2
        simp [bodyPost, results, Tryz.results31, go_sem, r0, r1, r2]
        exact ⟨EZ.out.symm, ((B2.setCell (by show w.heap.size ≤ w.heap.size + 1; omega) _).setCell (by show w.heap.size ≤ w.heap.size + 1; omega) _).setCell (by show w.heap.size ≤ w.heap.size + 1; omega) _⟩
      | false =>
        rw [hod] at MC eo
        have MC' : Hid (∀ W, Below wr.heap.size wr W → Calls Tryz.prog 31 #[.agg #[.bool (ts.getD i zT).l, .slice k1 k2 k3, .slice k4 k5 k6]] W fun e w' => e = .returned (.agg #[.bool false, .int .i64 (dpT (ts.getD i zT)), .int .i64 (encT (ts.getD i zT)).length]) ∧ Below W.heap.size W w') := MC
        clear MC
        have NX : Hid (oddS (ts.take (i + 1)) = false ∧ dpS (ts.take (i + 1)) = max (dpS (ts.take i)) (dpT (ts.getD i zT)) ∧ (encS (ts.take (i + 1))).length = (encS (ts.take i)).length + (encT (ts.getD i zT)).length ∧ (encS (ts.take i)).length + (encT (ts.getD i zT)).length < 16777216) := ⟨eo, ed, ee, by have := HN.out.1; omega⟩
        have HP : Hid (Below w.heap.size w wr) := B
        clear e1 e2 hwt e3 eo ed ee hE hE2 fw hod hS hR hF hG IH HI hO B
        generalize (ts.getD i zT).l = lt at *
        generalize (encS (ts.take i)).length = E at *
        generalize dpS (ts.take i) = D at *
        generalize (encT (ts.getD i zT)).length = E1 at *
        generalize dpT (ts.getD i zT) = D1 at *
        refine wp_seq_k fun K h => ?_
        have H : Hid _ := h
        clear h
        go_wp2_with fail
        refine H.out _ _ ?_
        clear H K
        refine wp_seq_k fun K h => ?_
        have H : Hid _ := h
        clear h
        go_wp2_with fail
        refine H.out _ _ ?_
        clear H K
        refine wp_seq_k fun K h => ?_
        have H14 : Hid _ := h
        clear h
        refine wp_block ?_
        refine wp_seq_k fun K h => ?_
        have H : Hid _ := h
        clear h
        go_wp2_with (refine wpList_load_mid rfl _ _ rfl b (o + i * 3) rfl _ _ R1.out Tryz.underlying35 rfl size_it ?_)
        refine H.out _ _ ?_
        clear H K R1
        refine wp_world (fun V => Below wr.heap.size wr V ∧ Bx V wr.heap.size lt (.slice k1 k2 k3) (.slice k4 k5 k6)) ⟨(Below.refl _ _).alloc (Nat.le_refl _) _, ⟨by simp [go_sem], by simp [go_sem], by simp [go_sem]⟩⟩ ?_
        rintro V ⟨BV, x0, x1, x2⟩
        refine wp_seq_k fun K h => ?_
        have H : Hid _ := h
        clear h
        go_wp2_with ((with_reducible refine (MC'.out _ BV).mono ?_); rintro e1 w2 ⟨rfl, hw⟩)
        refine H.out _ _ ?_
        clear H K
        replace BV := BV.trans (hw.mono BV.size)
        clear hw x0 x1 x2
        refine wp_world (fun U => Below wr.heap.size wr U ∧ Hb U w2.heap.size false D1 E1 ∧ wr.heap.size ≤ w2.heap.size) ⟨BV.alloc BV.size _, Hb.new, BV.size⟩ ?_
        clear BV
        generalize w2.heap.size = v
        clear V w2
        rintro V ⟨BV, hV, hv⟩
        obtain ⟨B2, hR, hF, hS, hG⟩ := FW.out V BV
        obtain ⟨v0, v1, v2⟩ := hV
        have hsw : w.heap.size ≤ s := by omega
        have hS' := hS
        have hG' := hG
        obtain ⟨s0, s1, s2⟩ := hS'
        obtain ⟨g0, g1, g2⟩ := hG'
        go_wp2_with fail
        refine H14.out _ _ ?_
        have eE : wrap64 ((E : Int) + E1) = ((E + E1 : Nat) : Int) := by have := NX.out.2.2.2; unfold wrap64; omega
        have eD : max (D : Int) (D1 : Int) = ((max D D1 : Nat) : Int) := by omega
        rw [eE, eD]
        refine wp_world (fun U => Below w.heap.size w U ∧ Hb U (w.heap.size + 1) false 0 0 ∧ Fr3 U (w.heap.size + 1) ∧ Hb U s false (max D D1 : Nat) (E + E1 : Nat) ∧ Fr3 U s) ⟨(B2.setCell hsw _).setCell hsw _, (hR.other hs' _).other hs' _, (hF.set _ _).set _ _, (hS.size _).held _, (hG.set _ _).set _ _⟩ ?_
        clear B2 hR hF hS hG s0 s1 s2 g0 g1 g2 eE eD H14 v0 v1 v2 hv BV
        rintro U ⟨B2, hR, hF, hS, hG⟩
        clear V
        go_wp2_with fail
        go_roundg (ts.length - (i + 1))
        case measure => have := HK.out.1; omega
        case rel => exact ⟨i + 1, rfl, hlt, by go_num, NX.out.1, B2, hR, hF, by rw [NX.out.2.1, NX.out.2.2.1]; exact hS, hG⟩
/-- The program's measured, of any tree. -/
theorem measured_any : ∀ (t : Tr) {d q : Value} (_ : wtT t < 4194304) (w : World) (_ : It w t d q),
    Calls Tryz.prog 31 #[itV t d q] w fun e w' => e = .returned (mV t) ∧ Below w.heap.size w w' := by
  refine Tr.ind fun l X ts ih d q hw w h => ?_
  rw [It] at h
  obtain ⟨⟨a, b, o, c, rfl, h2, h3, h4⟩, a', b', o', c', rfl, k2, k3, k4⟩ := h
  rw [wtT] at hw
  show Calls Tryz.prog 31 #[.agg #[.bool l, .slice a X.length c, .slice a' ts.length c']] w _
  unfold mV
  rw [oddT]
  cases ho : odd1 l X ts with
  | true => exact measured_odd ho w
  | false =>
    rw [Bool.false_or, dpT, encT]
    cases l with
    | true =>
      have := measured_list (a1 := a) (c1 := c) ho (by omega) k2.1 k3 w k4 ih
      refine this.mono fun e w' h => ⟨?_, h.2⟩
      rw [h.1, ← List.length_append]
      rfl
    | false =>
      have e : ts = [] := by
        unfold odd1 at ho
        simp at ho
        exact List.eq_nil_of_length_eq_zero (by simpa using ho)
      have := measured_text (a2 := a') (c1 := c) (c2 := c') ho (by omega) h3 w h4
      refine this.mono fun e' w' h => ⟨?_, h.2⟩
      rw [h.1, e, oddS]
      rfl
end Go.Proofs.YtiebnlahhmngcaaGreatDoor

/- Layer 7: Size, Check of the program. -/
namespace Go.Proofs.YtiebnlahhmngcaaGreatDoor
open Go.RowKit Go.Sort

/-- The error of a tree. -/
def errT (t : Tr) : Int := if oddT t then 78 else if 1024 < dpT t then 74 else 0
/-- Its size, where there is no error. -/
def sizT (t : Tr) : Int := if errT t = 0 then ((encT t).length : Int) else 0
set_option maxRecDepth 100000 in
set_option maxHeartbeats 4000000 in
theorem Size_any {t : Tr} {d q : Value} (hw : wtT t < 4194304) (w : World) (h : It w t d q) :
    Calls Tryz.prog 18 #[itV t d q] w fun e w' => e = .returned (.tuple #[.int .i64 (sizT t), .int .i64 (errT t)]) ∧ Below w.heap.size w w' := by
  have M : Hid (∀ W, Below w.heap.size w W → Calls Tryz.prog 31 #[.agg #[.bool t.l, d, q]] W fun e w' => e = .returned (mV t) ∧ Below W.heap.size W w') := fun W B => measured_any t hw W (It.keep B t h)
  have hE := encT_len t
  have b3 : decide ((16777216 : Int) < ((encT t).length : Int)) = false := decide_eq_false (by omega)
  have dq : ∃ k1 k2 k3 k4 k5 k6, d = .slice k1 k2 k3 ∧ q = .slice k4 k5 k6 := by
    revert h
    cases t with
    | mk l' X' ts' =>
      intro e2
      rw [It] at e2
      obtain ⟨⟨k1, _, _, k3, h1, _⟩, k4, _, _, k6, h2, _⟩ := e2
      exact ⟨_, _, _, _, _, _, h1, h2⟩
  obtain ⟨k1, k2, k3, k4, k5, k6, rfl, rfl⟩ := dq
  have MZ : mV t = if oddT t then .agg #[.bool true, .int .i64 0, .int .i64 0] else .agg #[.bool false, .int .i64 (dpT t), .int .i64 (encT t).length] := rfl
  unfold itV
  clear hE hw h
  by_cases ho : oddT t = true
  · have es : sizT t = 0 := by unfold sizT errT; rw [if_pos ho]; rfl
    have ee : errT t = 78 := by unfold errT; rw [if_pos ho]
    rw [if_pos ho] at MZ
    rw [MZ] at M
    rw [es, ee]
    generalize t.l = l at *
    clear b3 ho es ee MZ t
    go_enter Tryz.func18, Tryz.ntmps18
    go_wp2_with ((with_reducible refine (M.out _ ((Below.refl _ _).alloc (Nat.le_refl _) _)).mono ?_); rintro e1 w1 ⟨rfl, hw⟩; (have B1 : Below w.heap.size w w1 := ((Below.refl w.heap.size w).alloc (Nat.le_refl _) _).trans (hw.mono (by simp))); (clear hw))
    all_goals simp [bodyPost, results, Tryz.results18, go_sem]
    all_goals exact B1.alloc B1.size _
  · rw [if_neg ho] at MZ
    rw [MZ] at M
    clear MZ
    by_cases hd : 1024 < dpT t
    · have ee : errT t = 74 := by unfold errT; rw [if_neg ho, if_pos hd]
      have es : sizT t = 0 := by unfold sizT; rw [ee]; rfl
      have hd' : (1024 : Int) < (dpT t : Int) := by omega
      rw [es, ee]
      generalize t.l = l at *
      generalize dpT t = D at *
      generalize (encT t).length = E at *
      clear b3 ho es ee t hd
      go_enter Tryz.func18, Tryz.ntmps18
      go_wp2_with ((with_reducible refine (M.out _ ((Below.refl _ _).alloc (Nat.le_refl _) _)).mono ?_); rintro e1 w1 ⟨rfl, hw⟩; (have B1 : Below w.heap.size w w1 := ((Below.refl w.heap.size w).alloc (Nat.le_refl _) _).trans (hw.mono (by simp))); (clear hw))
      all_goals simp [bodyPost, results, Tryz.results18, go_sem]
      all_goals exact B1.alloc B1.size _
    · have ee : errT t = 0 := by unfold errT; rw [if_neg ho, if_neg hd]
      have es : sizT t = ((encT t).length : Int) := by unfold sizT; rw [ee]; rfl
      have hd' : decide ((1024 : Int) < (dpT t : Int)) = false := decide_eq_false (by omega)
      rw [es, ee]
      generalize t.l = l at *
      generalize dpT t = D at *
      generalize (encT t).length = E at *
      clear ho es ee t hd
      go_enter Tryz.func18, Tryz.ntmps18
      go_wp2_with ((with_reducible refine (M.out _ ((Below.refl _ _).alloc (Nat.le_refl _) _)).mono ?_); rintro e1 w1 ⟨rfl, hw⟩; (have B1 : Below w.heap.size w w1 := ((Below.refl w.heap.size w).alloc (Nat.le_refl _) _).trans (hw.mono (by simp))); (clear hw))
      all_goals simp [bodyPost, results, Tryz.results18, go_sem]
      all_goals exact B1.alloc B1.size _
end Go.Proofs.YtiebnlahhmngcaaGreatDoor

/- Layer 7: the document's Check, Size. -/
namespace Go.Proofs.YtiebnlahhmngcaaGreatDoor
open Go.RowKit Go.Sort

theorem It.slices {W : World} {t : Tr} {d q : Value} (h : It W t d q) : ∃ k1 k2 k3 k4 k5 k6, d = .slice k1 k2 k3 ∧ q = .slice k4 k5 k6 := by
  revert h
  cases t with
  | mk l' X' ts' =>
    intro e2
    rw [It] at e2
    obtain ⟨⟨k1, _, _, k3, h1, _⟩, k4, _, _, k6, h2, _⟩ := e2
    exact ⟨_, _, _, _, _, _, h1, h2⟩
end Go.Proofs.YtiebnlahhmngcaaGreatDoor

/- Layer 7: the document's put, Encode. -/
namespace Go.Proofs.YtiebnlahhmngcaaGreatDoor
open Go.RowKit Go.Sort

/-- What Encode answers. -/
def encZ (t : Tr) : List Int := if errT t = 0 then encT t else []
end Go.Proofs.YtiebnlahhmngcaaGreatDoor

/- Layer 7: trees in memory of one's own. -/
namespace Go.Proofs.YtiebnlahhmngcaaGreatDoor
open Go.RowKit Go.Sort

/-- Items' cells. -/
def itC : List Tr → List (Value × Value) → List Value
  | t :: ts, p :: ps => .bool t.l :: p.1 :: p.2 :: itC ts ps
  | _, _ => []
theorem itC_len : ∀ (ts : List Tr) (ps : List (Value × Value)), ps.length = ts.length → (itC ts ps).length = ts.length * 3
  | [], [], _ => rfl
  | [], _ :: _, h => by simp at h
  | _ :: _, [], h => by simp at h
  | t :: ts, p :: ps, h => by
    have := itC_len ts ps (by simpa using h)
    simp only [itC, List.length_cons, this]; omega
theorem itC_snoc : ∀ (ts : List Tr) (ps : List (Value × Value)) (t : Tr) (d q : Value), ps.length = ts.length → itC ts ps ++ [.bool t.l, d, q] = itC (ts ++ [t]) (ps ++ [(d, q)])
  | [], [], _, _, _, _ => rfl
  | [], _ :: _, _, _, _, h => by simp at h
  | _ :: _, [], _, _, _, h => by simp at h
  | u :: ts, p :: ps, t, d, q, h => by
    have := itC_snoc ts ps t d q (by simpa using h)
    simp only [itC, List.cons_append, this]
def zV : Value × Value := (.bool true, .bool true)
theorem itC_at : ∀ (ts : List Tr) (ps : List (Value × Value)), ps.length = ts.length → ∀ i, i < ts.length → (itC ts ps)[i * 3]? = some (.bool (ts.getD i zT).l) ∧ (itC ts ps)[i * 3 + 1]? = some (ps.getD i zV).1 ∧ (itC ts ps)[i * 3 + 2]? = some (ps.getD i zV).2
  | [], _, _, i, hi => absurd hi (Nat.not_lt_zero _)
  | _ :: _, [], h, _, _ => by simp at h
  | _ :: _, _ :: _, _, 0, _ => ⟨rfl, rfl, rfl⟩
  | t :: ts, p :: ps, h, i + 1, hi => by
    have ih := itC_at ts ps (by simpa using h) i (by simpa using hi)
    have e : ∀ d, (itC (t :: ts) (p :: ps))[(i + 1) * 3 + d]? = (itC ts ps)[i * 3 + d]? := fun d => by
      rw [show (i + 1) * 3 + d = i * 3 + d + 1 + 1 + 1 by omega]; rfl
    have e0 := e 0
    simp only [Nat.add_zero] at e0
    rw [e0, e 1, e 2]
    exact ih
/-- A row of cells that stays: its block is as it was. -/
theorem row_kept {W W' : World} {B : Nat} {e : TypeId} {size : Nat} {v : Value} {n : Nat} {xs : List Value} (h : W.ownsRow B e size v n xs) (hk : ∀ k, v.ownBlock = some k → k < W.heap.size → W'.heap[k]? = W.heap[k]?) : W'.ownsRow B e size v n xs := by
  refine ⟨h.1, ?_⟩
  rcases h.2 with h | ⟨g, cap, cur, rfl, hb, hg, r⟩
  · exact .inl h
  · exact .inr ⟨g, cap, cur, rfl, hb, (hk g rfl (Array.getElem?_eq_some_iff.1 hg).1).trans hg, r⟩
theorem row_base {W : World} {B B' : Nat} {e : TypeId} {size : Nat} {v : Value} {n : Nat} {xs : List Value} (h : W.ownsRow B e size v n xs) (hk : ∀ k, v.ownBlock = some k → B' ≤ k) : W.ownsRow B' e size v n xs := by
  refine ⟨h.1, ?_⟩
  rcases h.2 with h | ⟨g, cap, cur, rfl, hb, r⟩
  · exact .inl h
  · exact .inr ⟨g, cap, cur, rfl, hk g rfl, r⟩
mutual
/-- An item in memory of one's own: its blocks are among S, the row of its items apart from what is within. -/
def Ot (W : World) : Tr → (Nat → Prop) → Value → Value → Prop
  | .mk _ X ts, S, d, q => (OwnB 0 W d X ∧ ∀ k, d.ownBlock = some k → S k) ∧ ∃ ps : List (Value × Value), ps.length = ts.length ∧ W.ownsRow 0 35 3 q ts.length (itC ts ps) ∧ (∀ k, q.ownBlock = some k → S k) ∧ Ots W ts (fun k => S k ∧ q.ownBlock ≠ some k) ps
def Ots (W : World) : List Tr → (Nat → Prop) → List (Value × Value) → Prop
  | [], _, _ => True
  | t :: ts, S, ps => Ot W t S (ps.headD zV).1 (ps.headD zV).2 ∧ Ots W ts S ps.tail
end
/-- Items in a row of one's own. -/
def Orow (W : World) (ts : List Tr) (S : Nat → Prop) (q : Value) : Prop := ∃ ps : List (Value × Value), ps.length = ts.length ∧ W.ownsRow 0 35 3 q ts.length (itC ts ps) ∧ (∀ k, q.ownBlock = some k → S k) ∧ Ots W ts (fun k => S k ∧ q.ownBlock ≠ some k) ps
theorem Ot.mk {W : World} {l : Bool} {X : List Int} {ts : List Tr} {S : Nat → Prop} {d q : Value} (h1 : OwnB 0 W d X) (h2 : ∀ k, d.ownBlock = some k → S k) (h3 : Orow W ts S q) : Ot W (.mk l X ts) S d q := by
  rw [Ot]; exact ⟨⟨h1, h2⟩, h3⟩
theorem Ot.get {W : World} {t : Tr} {S : Nat → Prop} {d q : Value} (h : Ot W t S d q) : OwnB 0 W d t.X ∧ (∀ k, d.ownBlock = some k → S k) ∧ Orow W t.ts S q := by
  cases t with
  | mk l X ts => rw [Ot] at h; exact ⟨h.1.1, h.1.2, h.2⟩
theorem Ots.at {W : World} {S : Nat → Prop} : ∀ {ts : List Tr} {ps : List (Value × Value)}, Ots W ts S ps → ∀ i, i < ts.length → Ot W (ts.getD i zT) S (ps.getD i zV).1 (ps.getD i zV).2
  | [], _, _, i, hi => absurd hi (Nat.not_lt_zero _)
  | t :: ts, ps, h, 0, _ => by
    rw [Ots] at h
    have e : ps.getD 0 zV = ps.headD zV := by cases ps <;> rfl
    rw [e]; exact h.1
  | t :: ts, ps, h, i + 1, hi => by
    rw [Ots] at h
    have e : ps.getD (i + 1) zV = ps.tail.getD i zV := by cases ps <;> rfl
    rw [e]; exact Ots.at h.2 i (by simpa using hi)
theorem Ots.of {W : World} {S : Nat → Prop} : ∀ {ts : List Tr} {ps : List (Value × Value)}, (∀ i, i < ts.length → Ot W (ts.getD i zT) S (ps.getD i zV).1 (ps.getD i zV).2) → Ots W ts S ps
  | [], _, _ => by rw [Ots]; trivial
  | t :: ts, ps, h => by
    rw [Ots]
    refine ⟨?_, Ots.of fun i hi => ?_⟩
    · have e : ps.getD 0 zV = ps.headD zV := by cases ps <;> rfl
      have := h 0 (by simp)
      rw [e] at this; exact this
    · have e : ps.getD (i + 1) zV = ps.tail.getD i zV := by cases ps <;> rfl
      have := h (i + 1) (by simpa using hi)
      rw [e] at this; exact this
/-- What is kept, and where it lies: the blocks of S are as they were. -/
theorem Ot.conv {W W' : World} : ∀ (t : Tr) {S S' : Nat → Prop} {d q : Value}, (∀ k, k < W.heap.size → S k → S' k ∧ W'.heap[k]? = W.heap[k]?) → Ot W t S d q → Ot W' t S' d q :=
  Tr.ind fun l X ts ih S S' d q hs h => by
    rw [Ot] at h ⊢
    obtain ⟨⟨h1, h2⟩, ps, h3, h4, h5, h6⟩ := h
    have l1 : ∀ k, d.ownBlock = some k → k < W.heap.size := fun k e => (World.ownsRow.lt h1 k e).2
    have l2 : ∀ k, q.ownBlock = some k → k < W.heap.size := fun k e => (World.ownsRow.lt h4 k e).2
    refine ⟨⟨row_kept h1 fun k e hk => (hs k hk (h2 k e)).2, fun k e => (hs k (l1 k e) (h2 k e)).1⟩, ps, h3, row_kept h4 fun k e hk => (hs k hk (h5 k e)).2, fun k e => (hs k (l2 k e) (h5 k e)).1, Ots.of fun i hi => ?_⟩
    refine ih _ (getT_mem hi) (fun k hk hS => ?_) (h6.at i hi)
    exact ⟨⟨(hs k hk hS.1).1, hS.2⟩, (hs k hk hS.1).2⟩
theorem Orow.conv {W W' : World} {ts : List Tr} {S S' : Nat → Prop} {q : Value} (hs : ∀ k, k < W.heap.size → S k → S' k ∧ W'.heap[k]? = W.heap[k]?) (h : Orow W ts S q) : Orow W' ts S' q := by
  have : Ot W (.mk false [] ts) S (.slice none 0 0) q := Ot.mk (OwnB.nil _ _) (fun k e => by cases e) h
  exact (Ot.conv _ hs this).get.2.2
theorem Orow.nil (W : World) (S : Nat → Prop) : Orow W [] S (.slice none 0 0) := ⟨[], rfl, ⟨rfl, .inl ⟨rfl, rfl⟩⟩, (fun k e => by cases e), (by rw [Ots]; trivial)⟩
/-- An item of one's own is an item. -/
theorem Ot.it {W : World} : ∀ (t : Tr) {S : Nat → Prop} {d q : Value}, Ot W t S d q → It W t d q :=
  Tr.ind fun l X ts ih S d q h => by
    rw [Ot] at h
    obtain ⟨⟨h1, h2⟩, ps, h3, h4, h5, h6⟩ := h
    rw [It]
    obtain ⟨a, g, c, e1, e2, e3, e4, _, _, e7⟩ := h1.lies
    refine ⟨⟨a, g, 0, c, e1, ⟨e2, e7⟩, e3, e4⟩, ?_⟩
    have hrow := h4
    rcases h4.2 with ⟨rfl, h0⟩ | ⟨g', cap, cur, rfl, hb, hg, hle, _⟩
    · have e : ts = [] := List.eq_nil_of_length_eq_zero h0
      subst e
      exact ⟨none, 0, 0, 0, rfl, ⟨Nat.le_refl _, fun _ => rfl⟩, .inl rfl, by rw [Its]; trivial⟩
    · refine ⟨_, g', 0, cap, rfl, ⟨hle, fun e => by cases e⟩, .inr rfl, Its.of fun i hi => ?_⟩
      obtain ⟨c0, c1, c2⟩ := itC_at ts ps h3 i hi
      refine ⟨(ps.getD i zV).1, (ps.getD i zV).2, fun j v hv => ?_, ih _ (getT_mem hi) (h6.at i hi)⟩
      have hc : ∀ k, k < ts.length * 3 → W.cell? ⟨g', k, none⟩ = (itC ts ps)[k]? := fun k hk => World.ownsRow.cellAt hrow k hk
      rw [Nat.zero_add]
      match j, hv with
      | 0, hv => rw [Nat.add_zero, hc _ (by omega), c0]; exact hv
      | 1, hv => rw [hc _ (by omega), c1]; exact hv
      | 2, hv => rw [hc _ (by omega), c2]; exact hv
      | j + 3, hv => simp at hv
theorem Orow.its {W : World} {ts : List Tr} {S : Nat → Prop} {q : Value} (h : Orow W ts S q) : ∃ a b c, q = .slice a ts.length c ∧ (ts.length ≤ c ∧ (a = none → c = 0)) ∧ (ts = [] ∨ a = some ⟨b, 0, none⟩) ∧ Its W b 0 ts := by
  have : Ot W (.mk false [] ts) S (.slice none 0 0) q := Ot.mk (OwnB.nil _ _) (fun k e => by cases e) h
  have hrow := h
  obtain ⟨ps, h3, h4, h5, h6⟩ := h
  have hI := Ot.it _ this
  rcases h4.2 with ⟨rfl, h0⟩ | ⟨g', cap, cur, rfl, hb, hg, hle, _⟩
  · have e : ts = [] := List.eq_nil_of_length_eq_zero h0
    subst e
    exact ⟨none, 0, 0, rfl, ⟨Nat.le_refl _, fun _ => rfl⟩, .inl rfl, by rw [Its]; trivial⟩
  · rw [It] at hI
    obtain ⟨_, a, b, o, c, k1, k2, k3, k4⟩ := hI
    injection k1 with k1 _ k1'
    subst k1 k1'
    rcases k3 with e | e
    · subst e
      exact ⟨_, 0, _, rfl, k2, .inl rfl, by rw [Its]; trivial⟩
    · have := Option.some.inj e
      injection this with e1 e2
      subst e1 e2
      exact ⟨_, _, _, rfl, k2, .inr rfl, k4⟩
/-- Items in a row of one's own, from a block on. -/
def Oe (B : Nat) (W : World) (v : Value) (ts : List Tr) (ps : List (Value × Value)) : Prop := ps.length = ts.length ∧ W.ownsRow B 35 3 v ts.length (itC ts ps) ∧ (∀ k, v.ownBlock = some k → B ≤ k) ∧ Ots W ts (fun k => B ≤ k ∧ v.ownBlock ≠ some k) ps
theorem Oe.nil (B : Nat) (W : World) : Oe B W (.slice none 0 0) [] [] := ⟨rfl, ⟨rfl, .inl ⟨rfl, rfl⟩⟩, (fun k e => by cases e), (by rw [Ots]; trivial)⟩
theorem Oe.row {B : Nat} {W : World} {v : Value} {ts : List Tr} {ps : List (Value × Value)} (h : Oe B W v ts ps) : Orow W ts (fun k => B ≤ k) v := ⟨ps, h.1, row_base h.2.1 fun _ _ => Nat.zero_le _, h.2.2.1, h.2.2.2⟩
theorem Orow.oe {B : Nat} {W : World} {v : Value} {ts : List Tr} {S : Nat → Prop} (h : Orow W ts S v) (hS : ∀ k, k < W.heap.size → S k → B ≤ k) : ∃ ps, Oe B W v ts ps := by
  obtain ⟨ps, h1, h2, h3, h4⟩ := h
  have hb : ∀ k, v.ownBlock = some k → B ≤ k := fun k e => hS k (World.ownsRow.lt h2 k e).2 (h3 k e)
  refine ⟨ps, h1, row_base h2 hb, hb, Ots.of fun i hi => Ot.conv _ (fun k hk hs => ⟨⟨hS k hk hs.1, hs.2⟩, rfl⟩) (h4.at i hi)⟩
end Go.Proofs.YtiebnlahhmngcaaGreatDoor

/- Layer 7: the document's Copy. -/
namespace Go.Proofs.YtiebnlahhmngcaaGreatDoor
open Go.RowKit Go.Sort
theorem info_it : (Tryz.prog.info? 35).map (fun i => (i.zero, i.size, i.bytes)) = some (some (.agg #[.bool false, .slice none 0 0, .slice none 0 0]), 3, 56) := by kernel_rfl
theorem It.open {W : World} {t : Tr} {d q : Value} (h : It W t d q) : ∃ a b o c a' b' o' c', d = .slice a t.X.length c ∧ (t.X.length ≤ c ∧ (a = none → c = 0)) ∧ Az a b o t.X ∧ Bz W b o t.X ∧ q = .slice a' t.ts.length c' ∧ (t.ts.length ≤ c' ∧ (a' = none → c' = 0)) ∧ (t.ts = [] ∨ a' = some ⟨b', o', none⟩) ∧ Its W b' o' t.ts := by
  cases t with
  | mk l X ts =>
    rw [It] at h
    obtain ⟨⟨a, b, o, c, h1, h2, h3, h4⟩, a', b', o', c', k1, k2, k3, k4⟩ := h
    exact ⟨a, b, o, c, a', b', o', c', h1, h2, h3, h4, k1, k2, k3, k4⟩
theorem Its.keep {W W' : World} {b o : Nat} {ts : List Tr} (h : Its W b o ts) (hb : Below W.heap.size W W') : Its W' b o ts := Its.of fun i hi => by
  obtain ⟨d, q, e1, e2⟩ := h.at i hi
  exact ⟨d, q, rangeT_keep e1 hb, It.keep hb _ e2⟩
theorem wt_parts (t : Tr) : wtT t = 1 + t.X.length + wtS t.ts := by cases t with | mk l X ts => rw [wtT]; rfl
end Go.Proofs.YtiebnlahhmngcaaGreatDoor

/- Layer 7: the program's copies. -/
namespace Go.Proofs.YtiebnlahhmngcaaGreatDoor
open Go.RowKit Go.Sort
set_option maxRecDepth 100000 in
set_option maxHeartbeats 4000000 in
theorem bclone_at {ad : Addr} {c : Nat} {X : List Int} (hl : X.length < 140737488355000) (w : World) (hz : ∀ W, Below w.heap.size w W → ∀ j u, (X.map (Value.int .u8))[j]? = some u → W.cell? (ad.add j) = some u) :
    Calls Tryz.prog 21 #[.slice (some ad) X.length c] w fun e w' => ∃ v, e = .returned v ∧ OwnB w.heap.size w' v X ∧ Below w.heap.size w w' := by
  obtain ⟨i0, hi, hz0, hz1, hz2⟩ := info_parts info_byte
  have sl := sl_some
  have HA : Hid (X.length < 140737488355000 ∧ ∀ W, Below w.heap.size w W → ∀ j u, (X.map (Value.int .u8))[j]? = some u → W.cell? (ad.add j) = some u) := ⟨hl, hz⟩
  obtain ⟨n, en⟩ : ∃ n, n = X.length := ⟨_, rfl⟩
  rw [← en]
  have EN : Hid (X.length = n) := en.symm
  clear en hl hz
  go_enter Tryz.func21, Tryz.ntmps21
  go_wp2_with (at_builtin; go_loud (refine wpList_append_own_at _ rfl _ _ 29 rfl w.heap.size 5 i0 (.int .u8 0) 1 1 Tryz.underlying29 hi hz0 hz1 hz2 rfl (by decide) _ 0 [] rfl (own_mt _ _ (Nat.le_refl _)).row ad n c (X.map (Value.int .u8)) rfl (by rw [List.length_map, EN.out, Nat.mul_one]) (HA.out.2 _ ((Below.refl _ _).alloc (Nat.le_refl _) _)) (fun u hu => by obtain ⟨y, _, rfl⟩ := List.mem_map.1 hu; rfl) (by unfold maxLen; have := HA.out.1; have := EN.out; omega) (by have := HA.out.1; have := EN.out; omega) (by simp) ?_); intro v' w3 hown' hgrow3 hnil3 hblk)
  go_ret
  refine ⟨_, rfl, ?_, ((Below.refl _ _).alloc (Nat.le_refl _) _).grown hgrow3 (by simp) (fun k hk => by have e : w.heap.size = k := Option.some.inj hk; omega)⟩
  rw [OwnB, EN.out]
  simpa using hown'
/-- bytes.Clone, of any bytes. -/
theorem bclone_all {X : List Int} {a : Option Addr} {g p c n : Nat} (hn : n = X.length) (hl : X.length < 140737488355000) (ha : Az a g p X) (w : World) (hz : Bz w g p X) :
    Calls Tryz.prog 21 #[.slice a n c] w fun e w' => ∃ v, e = .returned v ∧ OwnB w.heap.size w' v X ∧ Below w.heap.size w w' := by
  subst hn
  cases a with
  | none =>
    have e : X = [] := by
      rcases ha with e | e
      · exact e
      · cases e
    subst e
    refine (bclone_nil 0 c w).mono fun e w' h => ⟨_, h.1, OwnB.nil _ _, by rw [h.2]; exact Below.refl _ _⟩
  | some ad =>
    refine bclone_at hl w fun W hb j u hu => ?_
    have hj : j < X.length := by
      have := (List.getElem?_eq_some_iff.1 hu).1
      rwa [List.length_map] at this
    rcases ha with e | e
    · rw [e] at hj; exact absurd hj (Nat.not_lt_zero _)
    · obtain rfl : ad = ⟨g, p, none⟩ := Option.some.inj e
      exact src_bz (hz.keep hb) j u hu
theorem wpList_make_its (w : World) {ops : Array Oper} {rest : List Oper} {o : Oper} {a : Act} {Q : Exit → Act → World → Prop}
    (hg : o.guard = none) (l c : Operand) (hop : o.op = Op.makeSlice 33 l c)
    (kl kc : IntKind) (L C : Int) (m : Nat) (hl : a.eval l = .int kl L) (hc : a.eval c = .int kc C) (eL : L = (m : Int)) (eC : C = (m : Int)) (hm : m ≤ 1000000000000)
    (hK : ∀ cs : List Value, cs.length = m * 3 → ∀ w' : World, w'.ownsRow w.heap.size 35 3 (.slice (some ⟨w.heap.size, 0, none⟩) m m) m cs → Below w.heap.size w w' → w.heap.size < w'.heap.size → wpList Tryz.prog ops Q rest (a.put o.dst (.slice (some ⟨w.heap.size, 0, none⟩) m m)) w') :
    wpList Tryz.prog ops Q (o :: rest) a w := by
  subst eL eC
  obtain ⟨i, hi, hi2⟩ := Option.map_eq_some_iff.1 info_it
  simp only [Prod.mk.injEq] at hi2
  refine wpList_plain hg fun K hK' => ?_
  obtain ⟨w', hr, h1, h2⟩ := run_make_full (P := Tryz.prog) w w.heap.size 33 35 i _ 3 Tryz.underlying33 hi hi2.1 hi2.2.1 kl kc m (by rw [hi2.2.2]; omega) (by unfold maxLen; omega) (Nat.le_refl _)
  unfold Oper.wp
  simp [execOp, hop, hl, hc, hr, Result.andThen]
  refine hK' _ _ (hK _ h1.1 w' h1 ⟨h2.os, h2.tape, h2.output, h2.size, fun k hk => h2.block k hk (by simp)⟩ (World.ownsRow.lt h1 _ rfl).2)
theorem set3 : ∀ (A R : List Value) (u0 u1 u2 : Value), 3 ≤ R.length → (((A ++ R).set A.length u0).set (A.length + 1) u1).set (A.length + 1 + 1) u2 = A ++ [u0, u1, u2] ++ R.drop 3
  | [], r0 :: r1 :: r2 :: R, _, _, _, _ => rfl
  | [], [], _, _, _, h => absurd h (by simp)
  | [], [_], _, _, _, h => absurd h (by simp)
  | [], [_, _], _, _, _, h => absurd h (by simp)
  | a :: A, R, u0, u1, u2, h => by
    have := set3 A R u0 u1 u2 h
    simp only [List.cons_append, List.length_cons, List.set_cons_succ, this]
/-- Items that are being laid into a row. -/
def Of (B : Nat) (W : World) (g n : Nat) (ts : List Tr) (ps : List (Value × Value)) : Prop := ∃ Rs : List Value, ts.length ≤ n ∧ Rs.length = (n - ts.length) * 3 ∧ ps.length = ts.length ∧ W.ownsRow B 35 3 (.slice (some ⟨g, 0, none⟩) n n) n (itC ts ps ++ Rs) ∧ Ots W ts (fun k => B ≤ k ∧ k ≠ g) ps
theorem Of.keep {B : Nat} {W W' : World} {g n : Nat} {ts : List Tr} {ps : List (Value × Value)} (h : Of B W g n ts ps) (hb : Below W.heap.size W W') : Of B W' g n ts ps := by
  obtain ⟨Rs, h0, h1, h2, h3, h4⟩ := h
  exact ⟨Rs, h0, h1, h2, row_kept h3 fun k _ hk => hb.block k hk, Ots.of fun i hi => Ot.conv _ (fun k hk hs => ⟨hs, hb.block k hk⟩) (h4.at i hi)⟩
theorem Of.there {B : Nat} {W : World} {g n : Nat} {ts : List Tr} {ps : List (Value × Value)} (h : Of B W g n ts ps) (hn : ts.length < n) : W.there g (ts.length * 3) 3 := by
  obtain ⟨Rs, h0, h1, h2, h3, h4⟩ := h
  intro j hj
  refine ⟨?_, World.ownsRow.frozenAt h3 _⟩
  rw [World.ownsRow.cellAt h3 _ (by omega), List.getElem?_eq_getElem (by rw [h3.1]; omega)]; rfl
theorem Of.step {B : Nat} {W : World} {g n : Nat} {ts : List Tr} {ps : List (Value × Value)} {t : Tr} {d q : Value} (h : Of B W g n ts ps) (hn : ts.length < n) (ht : Ot W t (fun k => B ≤ k ∧ k ≠ g) d q) :
    Of B (W.setCells g (ts.length * 3) [.bool t.l, d, q]) g n (ts ++ [t]) (ps ++ [(d, q)]) ∧ W.grownBy (W.setCells g (ts.length * 3) [.bool t.l, d, q]) (some g) := by
  obtain ⟨Rs, h0, h1, h2, h3, h4⟩ := h
  have li := itC_len ts ps h2
  obtain ⟨s1, g1⟩ := World.ownsRow.stored h3 (ts.length * 3) (.bool t.l)
  obtain ⟨s2, g2⟩ := World.ownsRow.stored s1 (ts.length * 3 + 1) d
  obtain ⟨s3, g3⟩ := World.ownsRow.stored s2 (ts.length * 3 + 1 + 1) q
  have es := set3 (itC ts ps) Rs (.bool t.l) d q (by omega)
  rw [li] at es
  rw [es] at s3
  have hg : W.grownBy (W.setCells g (ts.length * 3) [.bool t.l, d, q]) (some g) := (g1.trans g2).trans g3
  have cv : ∀ k, k < W.heap.size → (B ≤ k ∧ k ≠ g) → (B ≤ k ∧ k ≠ g) ∧ (W.setCells g (ts.length * 3) [.bool t.l, d, q]).heap[k]? = W.heap[k]? := fun k hk h => ⟨h, hg.block k hk fun e => h.2 (Option.some.inj e)⟩
  refine ⟨⟨Rs.drop 3, by simp; omega, by rw [List.length_drop, List.length_append, h1]; show _ = (n - (ts.length + 1)) * 3; omega, by simp [h2], ?_, Ots.of fun i hi' => ?_⟩, hg⟩
  · rw [← itC_snoc ts ps t d q h2]; exact s3
  · rw [List.length_append] at hi'
    have l1 : ([t] : List Tr).length = 1 := rfl
    by_cases e : i = ts.length
    · subst e
      have e1 : (ts ++ [t]).getD ts.length zT = t := by simp [List.getD]
      have e2 : (ps ++ [(d, q)]).getD ts.length zV = (d, q) := by rw [← h2]; simp [List.getD]
      rw [e1, e2]
      exact Ot.conv _ cv ht
    · have hlt : i < ts.length := by omega
      have e1 : (ts ++ [t]).getD i zT = ts.getD i zT := by simp [List.getD, List.getElem?_append_left hlt]
      have e2 : (ps ++ [(d, q)]).getD i zV = ps.getD i zV := by simp [List.getD, List.getElem?_append_left (show i < ps.length by omega)]
      rw [e1, e2]
      exact Ot.conv _ cv (h4.at i hlt)
theorem Of.all {B : Nat} {W : World} {g n : Nat} {ts : List Tr} {ps : List (Value × Value)} (h : Of B W g n ts ps) (hn : ts.length = n) : Oe B W (.slice (some ⟨g, 0, none⟩) n n) ts ps := by
  obtain ⟨Rs, h0, h1, h2, h3, h4⟩ := h
  have e : Rs = [] := List.eq_nil_of_length_eq_zero (by omega)
  subst e hn
  rw [List.append_nil] at h3
  refine ⟨h2, h3, fun k e => (World.ownsRow.lt h3 k e).1, Ots.of fun i hi => Ot.conv _ (fun k _ hs => ⟨⟨hs.1, fun e => hs.2 (Option.some.inj e).symm⟩, rfl⟩) (h4.at i hi)⟩
set_option maxRecDepth 100000 in
set_option maxHeartbeats 8000000 in
/-- The program's copies, of any items. -/
theorem copies_any : ∀ (t : Tr) {a : Option Addr} {b o c : Nat} (_ : wtS t.ts < 4194304) (_ : t.ts = [] ∨ a = some ⟨b, o, none⟩) (w : World) (_ : Its w b o t.ts),
    Calls Tryz.prog 20 #[.slice a t.ts.length c] w fun e w' => ∃ v ps, e = .returned v ∧ Oe w.heap.size w' v t.ts ps ∧ Below w.heap.size w w' := by
  refine Tr.ind fun l X ts ih a b o c hn ha w hI => ?_
  show Calls Tryz.prog 20 #[.slice a ts.length c] w fun e w' => ∃ v ps, e = .returned v ∧ Oe w.heap.size w' v ts ps ∧ Below w.heap.size w w'
  by_cases h0 : ts = []
  · subst h0
    clear hn ha hI ih
    rw [List.length_nil]
    go_enter Tryz.func20, Tryz.ntmps20
    go_wp2
    simp [bodyPost, results, Tryz.results20, go_sem]
    exact ⟨⟨[], Oe.nil _ _⟩, Below.refl _ _⟩
  have HI : Hid (∀ W, Below w.heap.size w W → Its W b o ts) := fun W B => hI.keep B
  have HN : Hid (wtS ts < 4194304) := hn
  obtain rfl : a = some ⟨b, o, none⟩ := ha.resolve_left h0
  have IH : Hid (∀ t ∈ ts, ∀ {a : Option Addr} {b o c : Nat} (_ : wtS t.ts < 4194304) (_ : t.ts = [] ∨ a = some ⟨b, o, none⟩) (w : World) (_ : Its w b o t.ts), Calls Tryz.prog 20 #[.slice a t.ts.length c] w fun e w' => ∃ v ps, e = .returned v ∧ Oe w.heap.size w' v t.ts ps ∧ Below w.heap.size w w') := @ih
  have hl : (ts.length : Int) ≤ 4194304 := by have := len_wt ts; have : wtS ts < 4194304 := hn; omega
  have hp : ((ts.length : Int) == 0) = false := by
    have : ts.length ≠ 0 := fun e => h0 (List.eq_nil_of_length_eq_zero e)
    simp; omega
  clear hn ha hI ih h0
  go_enter Tryz.func20, Tryz.ntmps20
  go_wp2_with ((refine wpList_make_its _ rfl _ _ rfl _ _ _ _ ts.length rfl rfl rfl rfl (by omega) ?_); intro cs hcs W hW BW hsW)
  have OF0 : Of w.heap.size W w.heap.size ts.length [] [] := ⟨cs, Nat.zero_le _, by simpa using hcs, rfl, by simpa [itC] using hW, by rw [Ots]; trivial⟩
  clear hcs hW hp
  go_loopg [14] ts.length (fun k iv wr => ∃ (i : Nat) (ps : List (Value × Value)), k = ts.length - i ∧ i ≤ ts.length ∧ iv = .int .i64 (i : Int) ∧ Of w.heap.size wr w.heap.size ts.length (ts.take i) ps ∧ Below w.heap.size w wr ∧ w.heap.size < wr.heap.size)
  case atStart => exact ⟨0, [], rfl, Nat.zero_le _, rfl, by simpa using OF0, BW, hsW⟩
  case round =>
    clear OF0 BW hsW W cs
    obtain ⟨i, ps, hk, hi, rfl, OE, B, hsz⟩ := hrel
    have HK : Hid (gk = ts.length - i ∧ i ≤ ts.length) := ⟨hk, hi⟩
    clear hk
    by_cases h8 : i = ts.length
    · subst h8
      rw [List.take_length] at OE
      have OA := OE.all rfl
      clear HN IH HI HK hi OE
      generalize ts.length = m at *
      go_wp2
      simp [bodyPost, results, Tryz.results20, go_sem]
      exact ⟨⟨ps, OA⟩, B⟩
    · have hlt : i < ts.length := by omega
      have hlt' : (i : Int) < (ts.length : Int) := by omega
      obtain ⟨d, q, e1, e2⟩ := (HI.out wr B).at i hlt
      have hwt := wt_item hlt
      have e3 := take_snoc hlt
      have hmem := getT_mem hlt
      have hpart := wt_parts (ts.getD i zT)
      have hlen : (ts.take i).length = i := by rw [List.length_take]; omega
      generalize ts.getD i zT = t at *
      have R1 : Hid (wr.rangeAt b (o + i * 3) [.bool t.l, d, q]) := e1
      obtain ⟨a1, b1, o1, c1, a2, b2, o2, c2, rfl, f1, f2, f3, rfl, g1, g2, g3⟩ := e2.open
      have C1 : Hid (∀ W, Below wr.heap.size wr W → Calls Tryz.prog 21 #[.slice a1 t.X.length c1] W fun e w' => ∃ v, e = .returned v ∧ OwnB W.heap.size w' v t.X ∧ Below W.heap.size W w') := fun W B => bclone_all rfl (by have := HN.out; omega) f2 W (f3.keep B)
      have C2 : Hid (∀ W, Below wr.heap.size wr W → Calls Tryz.prog 20 #[.slice a2 t.ts.length c2] W fun e w' => ∃ v ps, e = .returned v ∧ Oe W.heap.size w' v t.ts ps ∧ Below W.heap.size W w') := fun W B => IH.out t hmem (by have := HN.out; omega) g2 W (g3.keep B)
      have EN : Hid (∀ d1 q1 (xs : World) (ps1 : List (Value × Value)), Below wr.heap.size wr xs → OwnB wr.heap.size xs d1 t.X → Oe wr.heap.size xs q1 t.ts ps1 → xs.there w.heap.size (i * 3) 3 ∧ Of w.heap.size (xs.setCells w.heap.size (i * 3) [.bool t.l, d1, q1]) w.heap.size ts.length (ts.take (i + 1)) (ps ++ [(d1, q1)]) ∧ xs.grownBy (xs.setCells w.heap.size (i * 3) [.bool t.l, d1, q1]) (some w.heap.size)) := fun d1 q1 xs ps1 hb o1 oe1 => by
        have OK := OE.keep hb
        have th := OK.there (by omega)
        rw [hlen] at th
        have lo : ∀ k, wr.heap.size ≤ k → w.heap.size ≤ k ∧ k ≠ w.heap.size := fun k hk => ⟨by omega, by omega⟩
        have st := OK.step (t := t) (d := d1) (q := q1) (by omega) (by
          cases t with
          | mk lt Xt tt => exact Ot.mk (row_base o1 fun _ _ => Nat.zero_le _) (fun k e => lo k (o1.lt k e).1) (Orow.conv (fun k _ hS => ⟨lo k hS, rfl⟩) oe1.row))
        rw [hlen, ← e3] at st
        exact ⟨th, st⟩
      clear e1 e2 hwt e3 hmem hpart f1 f2 f3 g1 g2 g3 IH HI h8 hi OE hlen
      obtain ⟨XL, hXL⟩ : ∃ n, n = t.X.length := ⟨_, rfl⟩
      obtain ⟨TL, hTL⟩ : ∃ n, n = t.ts.length := ⟨_, rfl⟩
      rw [← hXL] at C1 R1
      rw [← hTL] at C2 R1
      have HXL : Hid (t.X.length = XL ∧ t.ts.length = TL) := ⟨hXL.symm, hTL.symm⟩
      clear hXL hTL
      obtain ⟨lt, hlt2⟩ : ∃ lb, lb = t.l := ⟨_, rfl⟩
      rw [← hlt2] at R1 EN
      clear hlt2
      refine wp_seq_k fun K h => ?_
      have H5 : Hid _ := h
      clear h
      go_wp2_with fail
      refine H5.out _ _ ?_
      clear H5 K
      refine wp_seq_k fun K h => ?_
      have H5 : Hid _ := h
      clear h
      go_wp2_with fail
      refine H5.out _ _ ?_
      clear H5 K
      refine wp_seq_k fun K h => ?_
      have H5 : Hid _ := h
      clear h
      refine wp_block ?_
      refine wp_seq_k fun K h => ?_
      have H : Hid _ := h
      clear h
      go_wp2_with (refine wpList_load_mid rfl _ _ rfl b (o + i * 3) rfl _ _ R1.out Tryz.underlying35 rfl size_it ?_)
      refine H.out _ _ ?_
      clear H K R1
      refine wp_world (fun V => Below wr.heap.size wr V ∧ wr.heap.size < V.heap.size ∧ Bx V wr.heap.size lt (.slice a1 XL c1) (.slice a2 TL c2)) ⟨(Below.refl _ _).alloc (Nat.le_refl _) _, by simp, ⟨by simp [go_sem], by simp [go_sem], by simp [go_sem]⟩⟩ ?_
      rintro V ⟨BV, hVs, BXV⟩
      have HBX : Hid (Bx V wr.heap.size lt (.slice a1 XL c1) (.slice a2 TL c2)) := BXV
      clear BXV
      refine wp_region_held_drew (S := fun w' => Below w.heap.size w w' ∧ Bx w' wr.heap.size lt (.slice a1 XL c1) (.slice a2 TL c2)) (by kernel_rfl) ⟨(B.trans (BV.mono B.size)).drew, HBX.out.keep (Below.refl _ _).drew⟩ (fun hHeld => ?_)
      refine wpAnyH_takeD (i := 0) (oi := _) (v := .slice (some ⟨w.heap.size, 0, none⟩) ts.length ts.length) 19 rfl (by kernel_rfl) (by kernel_rfl) (by kernel_rfl) (by kernel_rfl) (fun _ _ _ h => h) (Or.inl ⟨by kernel_rfl, ?_⟩) (by assumption) ?_
      · intro wq hSw
        obtain ⟨x0, x1, x2⟩ := hSw.2
        go_simp
      simp only [Act.put, List.setIfInBounds_toArray, List.set_cons_succ, List.set_cons_zero]
      refine wpAnyH_takeD (i := 1) (oi := _) (v := .int .i64 (i : Int)) 20 rfl (by kernel_rfl) (by kernel_rfl) (by kernel_rfl) (by kernel_rfl) (fun _ _ _ h => h) (Or.inl ⟨by kernel_rfl, ?_⟩) (by assumption) ?_
      · intro wq hSw
        obtain ⟨x0, x1, x2⟩ := hSw.2
        go_simp
      simp only [Act.put, List.setIfInBounds_toArray, List.set_cons_succ, List.set_cons_zero]
      refine wpAnyH_takeD (i := 2) (oi := _) (v := .pointer (some ⟨wr.heap.size, 0, none⟩)) 21 rfl (by kernel_rfl) (by kernel_rfl) (by kernel_rfl) (by kernel_rfl) (fun _ _ _ h => h) (Or.inl ⟨by kernel_rfl, ?_⟩) (by assumption) ?_
      · intro wq hSw
        obtain ⟨x0, x1, x2⟩ := hSw.2
        go_simp
      simp only [Act.put, List.setIfInBounds_toArray, List.set_cons_succ, List.set_cons_zero]
      refine wpAnyH_takeD (i := 3) (oi := _) (v := .bool lt) 22 rfl (by kernel_rfl) (by kernel_rfl) (by kernel_rfl) (by kernel_rfl) (fun _ _ _ h => h) (Or.inl ⟨by kernel_rfl, ?_⟩) (by assumption) ?_
      · intro wq hSw
        obtain ⟨x0, x1, x2⟩ := hSw.2
        go_simp
      simp only [Act.put, List.setIfInBounds_toArray, List.set_cons_succ, List.set_cons_zero]
      refine wpAnyH_takeD (i := 4) (oi := _) (v := .pointer (some ⟨wr.heap.size, 1, none⟩)) 23 rfl (by kernel_rfl) (by kernel_rfl) (by kernel_rfl) (by kernel_rfl) (fun _ _ _ h => h) (Or.inl ⟨by kernel_rfl, ?_⟩) (by assumption) ?_
      · intro wq hSw
        obtain ⟨x0, x1, x2⟩ := hSw.2
        go_simp
      simp only [Act.put, List.setIfInBounds_toArray, List.set_cons_succ, List.set_cons_zero]
      refine wpAnyH_takeD (i := 5) (oi := _) (v := .slice a1 XL c1) 24 rfl (by kernel_rfl) (by kernel_rfl) (by kernel_rfl) (by kernel_rfl) (fun _ _ _ h => h) (Or.inl ⟨by kernel_rfl, ?_⟩) (by assumption) ?_
      · intro wq hSw
        obtain ⟨x0, x1, x2⟩ := hSw.2
        go_simp
      simp only [Act.put, List.setIfInBounds_toArray, List.set_cons_succ, List.set_cons_zero]
      refine wpAnyH_takeD (i := 7) (oi := _) (v := .pointer (some ⟨wr.heap.size, 2, none⟩)) 26 rfl (by kernel_rfl) (by kernel_rfl) (by kernel_rfl) (by kernel_rfl) (fun _ _ _ h => h) (Or.inl ⟨by kernel_rfl, ?_⟩) (by assumption) ?_
      · intro wq hSw
        obtain ⟨x0, x1, x2⟩ := hSw.2
        go_simp
      simp only [Act.put, List.setIfInBounds_toArray, List.set_cons_succ, List.set_cons_zero]
      refine wpAnyH_takeD (i := 8) (oi := _) (v := .slice a2 TL c2) 27 rfl (by kernel_rfl) (by kernel_rfl) (by kernel_rfl) (by kernel_rfl) (fun _ _ _ h => h) (Or.inl ⟨by kernel_rfl, ?_⟩) (by assumption) ?_
      · intro wq hSw
        obtain ⟨x0, x1, x2⟩ := hSw.2
        go_simp
      simp only [Act.put, List.setIfInBounds_toArray, List.set_cons_succ, List.set_cons_zero]
      refine wpAnyH_ready (rs := [6]) (by kernel_rfl) (by simp) ?_
      refine AllReadyH.cons rfl (fun K hK => ?_) AllReadyH.nil
      go_simp
      go_wp2_with (go_at_call 21; refine (C1.out _ (BV.drew)).mono ?_; rintro e y1 ⟨d1, rfl, O1, hy1⟩)
      refine hK.out _ _ (⟨hHeld.1.trans (hy1.mono hHeld.1.size), hHeld.2.keep hy1⟩) (fun hHeld => ?_)
      clear hK K
      obtain ⟨ad, gd, cd, rfl, _⟩ := O1.lies
      have hs1 : wr.heap.size < y1.heap.size := Nat.lt_of_lt_of_le hVs hy1.size
      have BY1 : Below wr.heap.size wr y1 := BV.drew.trans (hy1.mono BV.drew.size)
      refine wpAnyH_ready (rs := [9]) (by kernel_rfl) (by simp) ?_
      refine AllReadyH.cons rfl (fun K hK => ?_) AllReadyH.nil
      go_simp
      go_wp2_with (go_at_call 20; refine (C2.out _ BY1).mono ?_; rintro e y2 ⟨q1, ps1, rfl, O2, hy2⟩)
      refine hK.out _ _ (⟨hHeld.1.trans (hy2.mono hHeld.1.size), hHeld.2.keep hy2⟩) (fun hHeld => ?_)
      clear hK K
      obtain ⟨aq, gq, cq, rfl, _⟩ := O2.row.its
      have BY2 : Below wr.heap.size wr y2 := BY1.trans (hy2.mono BY1.size)
      have O1' := (O1.keep hy2).base BV.drew.size
      have O2' : ∃ ps1, Oe wr.heap.size y2 (.slice aq t.ts.length cq) t.ts ps1 := O2.row.oe fun k _ hk => Nat.le_trans BY1.size hk
      clear O1 O2 ps1
      obtain ⟨ps1, O2⟩ := O2'
      have E3 := EN.out _ _ y2 ps1 BY2 O1' O2
      rw [HXL.out.1, HXL.out.2] at E3
      rw [HXL.out.1, HXL.out.2]
      refine wpAnyH_takeD (i := 10) (oi := _) (v := .agg #[.bool lt, .slice ad XL cd, .slice aq TL cq]) 29 rfl (by kernel_rfl) (by kernel_rfl) (by kernel_rfl) (by kernel_rfl) (fun _ _ _ h => h) (Or.inl ⟨by kernel_rfl, ?_⟩) (by assumption) ?_
      · intro wq hSw
        obtain ⟨x0, x1, x2⟩ := hSw.2
        go_simp
      simp only [Act.put, List.setIfInBounds_toArray, List.set_cons_succ, List.set_cons_zero]
      refine wpAnyH_takeD (i := 11) (oi := _) (v := .pointer (some ⟨w.heap.size, i * 3, none⟩)) 30 rfl (by kernel_rfl) (by kernel_rfl) (by kernel_rfl) (by kernel_rfl) (fun _ _ _ h => h) (Or.inl ⟨by kernel_rfl, ?_⟩) (by assumption) ?_
      · intro wq hSw
        obtain ⟨x0, x1, x2⟩ := hSw.2
        go_simp
      simp only [Act.put, List.setIfInBounds_toArray, List.set_cons_succ, List.set_cons_zero]
      refine wpAnyH_ready (rs := [12]) (by kernel_rfl) (by simp) ?_
      refine AllReadyH.cons rfl (fun K hK => ?_) AllReadyH.nil
      refine wp_store_mid 35 _ _ rfl w.heap.size (i * 3) #[.bool lt, .slice ad XL cd, .slice aq TL cq] rfl rfl E3.1 size_it (by kernel_rfl) ?_
      obtain ⟨_, OF, hg⟩ := E3
      have hB4 : Below w.heap.size w (y2.setCells w.heap.size (i * 3) [.bool lt, .slice ad XL cd, .slice aq TL cq]) := ⟨hg.os.trans hHeld.1.os, hg.tape.trans hHeld.1.tape, hg.output.trans hHeld.1.output, Nat.le_trans hHeld.1.size hg.size, fun k hk => (hg.block k (Nat.lt_of_lt_of_le hk hHeld.1.size) fun e => by have := Option.some.inj e; omega).trans (hHeld.1.block k hk)⟩
      have hX4 : Bx (y2.setCells w.heap.size (i * 3) [.bool lt, .slice ad XL cd, .slice aq TL cq]) wr.heap.size lt (.slice a1 XL c1) (.slice a2 TL c2) := by
        have e := hg.block wr.heap.size (Nat.lt_of_lt_of_le hs1 hy2.size) fun e => by have := Option.some.inj e; omega
        obtain ⟨z0, z1, z2⟩ := hHeld.2
        exact ⟨by rw [World.cell?_of_block e]; exact z0, by rw [World.cell?_of_block e]; exact z1, by rw [World.cell?_of_block e]; exact z2⟩
      have hs4 : w.heap.size < (y2.setCells w.heap.size (i * 3) [.bool lt, .slice ad XL cd, .slice aq TL cq]).heap.size := Nat.lt_of_lt_of_le hsz (Nat.le_trans BY2.size hg.size)
      refine hK.out _ _ ⟨hB4, hX4⟩ (fun hHeld => ?_)
      clear hK K
      refine wpAnyH_done (by kernel_rfl) ?_ _
      simp only [Act.put]
      generalize y2.setCells w.heap.size (i * 3) [.bool lt, .slice ad XL cd, .slice aq TL cq] = y4 at *
      refine H5.out _ _ ?_
      clear H5
      go_wp2_with fail
      go_roundg (ts.length - (i + 1))
      case measure => have := HK.out.1; omega
      case rel => exact ⟨i + 1, _, rfl, hlt, by go_num, OF, hB4, hs4⟩
end Go.Proofs.YtiebnlahhmngcaaGreatDoor

/- Layer 7: the document's bound (level by level): it answers. -/
namespace Go.Proofs.YtiebnlahhmngcaaGreatDoor
open Go.RowKit Go.Sort
/-- The cells of items in a row. -/
theorem Its.cells {W : World} {b o : Nat} {ts : List Tr} (h : Its W b o ts) : ∃ ps : List (Value × Value), ps.length = ts.length ∧ W.rangeAt b o (itC ts ps) ∧ (∀ i, i < ts.length → It W (ts.getD i zT) (ps.getD i zV).1 (ps.getD i zV).2) := by
  induction ts generalizing o with
  | nil => exact ⟨[], rfl, fun j v hv => by simp [itC] at hv, fun i hi => absurd hi (Nat.not_lt_zero _)⟩
  | cons t ts ih =>
    rw [Its] at h
    obtain ⟨⟨d, q, h1, h2⟩, h3⟩ := h
    obtain ⟨ps, k1, k2, k3⟩ := ih h3
    refine ⟨(d, q) :: ps, by simp [k1], fun j v hv => ?_, fun i hi => ?_⟩
    · match j, hv with
      | 0, hv => exact h1 0 v hv
      | 1, hv => exact h1 1 v hv
      | 2, hv => exact h1 2 v hv
      | j + 3, hv =>
        have := k2 j v hv
        rw [show o + (j + 3) = o + 3 + j by omega]; exact this
    · match i, hi with
      | 0, _ => exact h2
      | i + 1, hi => exact k3 i (by simpa using hi)
end Go.Proofs.YtiebnlahhmngcaaGreatDoor

/- Layer 7: the statement's twin, room. -/
namespace Go.Proofs.YtiebnlahhmngcaaGreatDoor
open Go.RowKit Go.Sort
theorem Bx.new {W : World} {t : TypeId} {l : Bool} {d q : Value} : Bx (W.alloc (.cells #[.bool l, d, q] t)) W.heap.size l d q := ⟨by simp [go_sem], by simp [go_sem], by simp [go_sem]⟩
theorem Bx.lt {W : World} {b : Nat} {l : Bool} {d q : Value} (h : Bx W b l d q) : b < W.heap.size := World.block_lt_of_cell? W _ h.1
theorem grown_set (w : World) (a : Addr) (v : Value) : w.grownBy (w.setCell a v) (some a.block) := ⟨rfl, rfl, rfl, by simp, fun k _ hk => heap_setCell_other _ _ _ _ fun e => hk (by rw [e])⟩
end Go.Proofs.YtiebnlahhmngcaaGreatDoor

/- Layer 7: Text, Number, Small, List. -/
namespace Go.Proofs.YtiebnlahhmngcaaGreatDoor
open Go.RowKit Go.Sort
theorem Ot.stored {w1 : World} {t : Tr} {d q : Value} {rb B : Nat} (hO : Ot w1 t (fun k => B ≤ k) d q) (hrb : rb < B) (u0 u1 u2 : Value) : Ot (((w1.setCell ⟨rb, 0, none⟩ u0).setCell ⟨rb, 1, none⟩ u1).setCell ⟨rb, 2, none⟩ u2) t (fun k => B ≤ k) d q := by
  have hne : ∀ k, B ≤ k → k ≠ rb := fun k hk e => by omega
  refine Ot.conv _ (fun k _ hk => ⟨hk, ?_⟩) hO
  rw [heap_setCell_other _ _ _ _ (hne k hk), heap_setCell_other _ _ _ _ (hne k hk), heap_setCell_other _ _ _ _ (hne k hk)]
theorem Ot.base {W : World} {t : Tr} {d q : Value} {B B' : Nat} (h : Ot W t (fun k => B ≤ k) d q) (hB : B' ≤ B) : Ot W t (fun k => B' ≤ k) d q := Ot.conv _ (fun _ _ hk => ⟨Nat.le_trans hB hk, rfl⟩) h
theorem ot_text {W : World} {B : Nat} {v : Value} {X : List Int} (h : OwnB B W v X) : Ot W (.mk false X []) (fun k => B ≤ k) v (.slice none 0 0) := Ot.mk (row_base h fun _ _ => Nat.zero_le _) (fun k e => (h.lt k e).1) (Orow.nil _ _)
theorem ot_list {W : World} {B : Nat} {v : Value} {ts : List Tr} {ps : List (Value × Value)} (h : Oe B W v ts ps) : Ot W (.mk true [] ts) (fun k => B ≤ k) (.slice none 0 0) v := Ot.mk (OwnB.nil _ _) (fun k e => by cases e) h.row
theorem below_three {w w1 : World} {rb : Nat} (B : Below w.heap.size w w1) (h : w.heap.size ≤ rb) (u0 u1 u2 : Value) : Below w.heap.size w (((w1.setCell ⟨rb, 0, none⟩ u0).setCell ⟨rb, 1, none⟩ u1).setCell ⟨rb, 2, none⟩ u2) :=
  ((B.setCell (by exact h) _).setCell (by exact h) _).setCell (by exact h) _
/-- A block of three cells that may be written. -/
def Rb3 (W : World) (b : Nat) : Prop := Bx W b false (.slice none 0 0) (.slice none 0 0) ∧ Fr3 W b
theorem Rb3.keep {W w1 : World} {b : Nat} (x : Rb3 W b) (hb : Below W.heap.size W w1) : Rb3 w1 b := ⟨x.1.keep hb, x.2.keep x.1.lt hb⟩
set_option maxRecDepth 100000 in
set_option maxHeartbeats 4000000 in
theorem text_any {X : List Int} {a : Option Addr} {b o c n : Nat} (hn : n = X.length) (hl : X.length < 16777216) (ha : Az a b o X) (w : World) (hz : Bz w b o X) :
    Calls Tryz.prog 6 #[.slice a n c] w fun e w' => ∃ d q, e = .returned (itV (.mk false X []) d q) ∧ Ot w' (.mk false X []) (fun k => w.heap.size ≤ k) d q ∧ Below w.heap.size w w' := by
  have C : Hid (∀ W, Below w.heap.size w W → Calls Tryz.prog 21 #[.slice a n c] W fun e w' => ∃ v, e = .returned v ∧ OwnB W.heap.size w' v X ∧ Below W.heap.size W w') := fun W B => bclone_all hn (by omega) ha W (hz.keep B)
  clear hl ha hz hn
  unfold itV
  go_enter Tryz.func6, Tryz.ntmps6
  go_wp2_with ((with_reducible refine (C.out _ ((Below.refl w.heap.size w).alloc (Nat.le_refl _) _)).mono ?_); rintro e1 w1 ⟨v, rfl, O1, hw⟩; (obtain ⟨⟨r0, r1, r2⟩, f0, f1, f2⟩ : Rb3 w1 (w.heap.size) := Rb3.keep ⟨⟨by simp [go_sem], by simp [go_sem], by simp [go_sem]⟩, by simp [go_sem], by simp [go_sem], by simp [go_sem]⟩ hw); (have B1 : Below w.heap.size w w1 := ((Below.refl w.heap.size w).alloc (Nat.le_refl _) _).trans (hw.mono (by simp))); (obtain ⟨av, gv1, cv, rfl, _⟩ := O1.lies))
  simp [bodyPost, results, Tryz.results6, go_sem, r0, r1, r2]
  exact ⟨_, _, ⟨rfl, rfl, rfl⟩, Ot.base (B := w.heap.size + 1) (Ot.stored (ot_text (O1.base (by simp))) (by omega) _ _ _) (by omega), below_three B1 (by omega) _ _ _⟩
set_option maxRecDepth 100000 in
set_option maxHeartbeats 4000000 in
theorem numbT_any {n : Int} (hn : Num n) (w : World) :
    Calls Tryz.prog 7 #[.agg #[.int .u64 (l0 n), .int .u64 (l1 n), .int .u64 (l2 n), .int .u64 (l3 n)]] w fun e w' => ∃ d q, e = .returned (itV (.mk false (stripL (putL n)) []) d q) ∧ Ot w' (.mk false (stripL (putL n)) []) (fun k => w.heap.size ≤ k) d q ∧ Below w.heap.size w w' := by
  have C : Hid (∀ W, Below w.heap.size w W → Calls Tryz.prog 22 #[.agg #[.int .u64 (l0 n), .int .u64 (l1 n), .int .u64 (l2 n), .int .u64 (l3 n)]] W fun e w' => ∃ v, e = .returned v ∧ OwnB W.heap.size w' v (stripL (putL n)) ∧ Below W.heap.size W w') := fun W _ => bytes_any hn W
  generalize stripL (putL n) = X at *
  clear hn
  unfold itV
  go_enter Tryz.func7, Tryz.ntmps7
  go_wp2_with ((with_reducible refine (C.out _ (((Below.refl w.heap.size w).alloc (Nat.le_refl _) _).alloc (by simp) _)).mono ?_); rintro e1 w1 ⟨v, rfl, O1, hw⟩; (obtain ⟨⟨r0, r1, r2⟩, f0, f1, f2⟩ : Rb3 w1 (w.heap.size + 1) := Rb3.keep ⟨⟨by simp [go_sem], by simp [go_sem], by simp [go_sem]⟩, by simp [go_sem], by simp [go_sem], by simp [go_sem]⟩ hw); (have B1 : Below w.heap.size w w1 := (((Below.refl w.heap.size w).alloc (Nat.le_refl _) _).alloc (by simp) _).trans (hw.mono (by simp; omega))); (obtain ⟨av, gv1, cv, rfl, _⟩ := O1.lies))
  simp [bodyPost, results, Tryz.results7, go_sem, r0, r1, r2]
  exact ⟨_, _, ⟨rfl, rfl, rfl⟩, Ot.base (B := w.heap.size + 1 + 1) (Ot.stored (ot_text (O1.base (by simp))) (by omega) _ _ _) (by omega), below_three B1 (by omega) _ _ _⟩
set_option maxRecDepth 100000 in
set_option maxHeartbeats 4000000 in
theorem small_any {v : Int} (hv : Word v) (w : World) :
    Calls Tryz.prog 23 #[.int .u64 v] w fun e w' => ∃ d q, e = .returned (itV (.mk false (stripL (putL v)) []) d q) ∧ Ot w' (.mk false (stripL (putL v)) []) (fun k => w.heap.size ≤ k) d q ∧ Below w.heap.size w w' := by
  have hm : Num v := by obtain ⟨h1, h2⟩ := hv; exact ⟨h1, by omega⟩
  have D : Hid (∀ W : World, Calls Tryz.prog 8 #[.int .u64 v] W fun e w' => e = .returned (.agg #[.int .u64 (l0 v), .int .u64 (l1 v), .int .u64 (l2 v), .int .u64 (l3 v)]) ∧ Below W.heap.size W w') := fun W => from_any hv W
  have C : Hid (∀ W : World, Calls Tryz.prog 7 #[.agg #[.int .u64 (l0 v), .int .u64 (l1 v), .int .u64 (l2 v), .int .u64 (l3 v)]] W fun e w' => ∃ d q, e = .returned (.agg #[.bool false, d, q]) ∧ Ot w' (.mk false (stripL (putL v)) []) (fun k => W.heap.size ≤ k) d q ∧ Below W.heap.size W w') := fun W => numbT_any hm W
  clear hv hm
  generalize stripL (putL v) = X at *
  unfold itV
  go_enter Tryz.func23, Tryz.ntmps23
  go_wp2_with (first
    | ((with_reducible refine (D.out _).mono ?_); rintro e0 w0 ⟨rfl, hw0⟩; (have R0 : Rb3 w0 w.heap.size := Rb3.keep ⟨⟨by simp [go_sem], by simp [go_sem], by simp [go_sem]⟩, by simp [go_sem], by simp [go_sem], by simp [go_sem]⟩ hw0); (have B0 : Below w.heap.size w w0 := ((Below.refl w.heap.size w).alloc (Nat.le_refl _) _).trans (hw0.mono (by simp))))
    | ((with_reducible refine (C.out _).mono ?_); rintro e1 w1 ⟨dd, qq, rfl, O1, hw⟩; (have hsl := (Ot.it _ O1).slices); (obtain ⟨s1, s2, s3, s4, s5, s6, rfl, rfl⟩ := hsl); (obtain ⟨⟨r0, r1, r2⟩, f0, f1, f2⟩ := R0.keep hw); (have B1 := B0.trans (hw.mono B0.size))))
  simp [bodyPost, results, Tryz.results23, go_sem, r0, r1, r2]
  have hlt := R0.1.lt
  exact ⟨_, _, ⟨rfl, rfl, rfl⟩, Ot.base (B := w.heap.size + 1) (Ot.stored (Ot.base O1 (by omega)) (by omega) _ _ _) (by omega), below_three B1 (by omega) _ _ _⟩
set_option maxRecDepth 100000 in
set_option maxHeartbeats 4000000 in
theorem list_any {ts : List Tr} {a : Option Addr} {b o c : Nat} (hl : wtS ts < 4194304) (ha : ts = [] ∨ a = some ⟨b, o, none⟩) (w : World) (hz : Its w b o ts) :
    Calls Tryz.prog 5 #[.slice a ts.length c] w fun e w' => ∃ d q, e = .returned (itV (.mk true [] ts) d q) ∧ Ot w' (.mk true [] ts) (fun k => w.heap.size ≤ k) d q ∧ Below w.heap.size w w' := by
  have C : Hid (∀ W, Below w.heap.size w W → Calls Tryz.prog 20 #[.slice a ts.length c] W fun e w' => ∃ v ps, e = .returned v ∧ Oe W.heap.size w' v ts ps ∧ Below W.heap.size W w') := fun W B => copies_any (.mk true [] ts) (by exact hl) ha W (hz.keep B)
  clear hl ha hz
  unfold itV
  go_enter Tryz.func5, Tryz.ntmps5
  go_wp2_with ((with_reducible refine (C.out _ ((Below.refl w.heap.size w).alloc (Nat.le_refl _) _)).mono ?_); rintro e1 w1 ⟨v, ps, rfl, O1, hw⟩; (obtain ⟨⟨r0, r1, r2⟩, f0, f1, f2⟩ : Rb3 w1 (w.heap.size) := Rb3.keep ⟨⟨by simp [go_sem], by simp [go_sem], by simp [go_sem]⟩, by simp [go_sem], by simp [go_sem], by simp [go_sem]⟩ hw); (have B1 : Below w.heap.size w w1 := ((Below.refl w.heap.size w).alloc (Nat.le_refl _) _).trans (hw.mono (by simp))); (obtain ⟨av, gv1, cv, rfl, _⟩ := O1.row.its))
  simp [bodyPost, results, Tryz.results5, go_sem, r0, r1, r2]
  exact ⟨_, _, ⟨rfl, rfl, rfl⟩, Ot.base (B := w.heap.size + 1) (Ot.stored (ot_list (O1.row.oe (fun k _ hk => by simpa using hk)).choose_spec) (by omega) _ _ _) (by omega), below_three B1 (by omega) _ _ _⟩
end Go.Proofs.YtiebnlahhmngcaaGreatDoor

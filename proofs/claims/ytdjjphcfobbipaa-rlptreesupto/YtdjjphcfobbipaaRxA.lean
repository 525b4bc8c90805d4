import Derived.Test.YtdjjphcfobbipaaRjA
import Derived.Test.YtdjjphcfobbipaaRsA
import Derived.Test.YtdjjphcfobbipaaRsJ
import Derived.Test.YtdjjphcfobbipaaOut
import Derived.Test.YtdjjphcfobbipaaRjF
/- Layer 7: trees: an item in memory, its measures, its bytes. -/
namespace Go.Proofs.Ytdjjphcfobbipaa
open Go.RowKit Go.Sort

/-- A tree: is it a list; its text; its items (odd ones too). -/
inductive Tr where
  | mk (l : Bool) (X : List Int) (ts : List Tr)
namespace Tr
def l : Tr → Bool | .mk l _ _ => l
def X : Tr → List Int | .mk _ X _ => X
def ts : Tr → List Tr | .mk _ _ ts => ts
end Tr
def zT : Tr := .mk false [] []
/-- By induction: of a tree, if of all of its items. -/
theorem Tr.ind {P : Tr → Prop} (h : ∀ l X ts, (∀ t ∈ ts, P t) → P (.mk l X ts)) : ∀ t, P t :=
  Tr.rec (motive_1 := P) (motive_2 := fun ts => ∀ t ∈ ts, P t) (fun l X ts ih => h l X ts ih) (fun _ ht => by cases ht)
    (fun t ts h1 h2 u hu => by
      rcases List.mem_cons.1 hu with rfl | hu
      · exact h1
      · exact h2 u hu)
mutual
/-- An item's two slices in memory. -/
def It (W : World) : Tr → Value → Value → Prop
  | .mk _ X ts, d, q => (∃ a b o c, d = .slice a X.length c ∧ (X.length ≤ c ∧ (a = none → c = 0)) ∧ Az a b o X ∧ Bz W b o X) ∧ ∃ a b o c, q = .slice a ts.length c ∧ (ts.length ≤ c ∧ (a = none → c = 0)) ∧ (ts = [] ∨ a = some ⟨b, o, none⟩) ∧ Its W b o ts
/-- Items in a row, three cells each. -/
def Its (W : World) (b : Nat) : Nat → List Tr → Prop
  | _, [] => True
  | o, t :: ts => (∃ d q, W.rangeAt b o [.bool t.l, d, q] ∧ It W t d q) ∧ Its W b (o + 3) ts
end
theorem rangeT_keep {W W' : World} {b o : Nat} {cs : List Value} (h : W.rangeAt b o cs) (hb : Below W.heap.size W W') : W'.rangeAt b o cs := fun j v hv => by
  rw [hb.cell (World.block_lt_of_cell? W _ (h j v hv))]; exact h j v hv
theorem Its.at {W : World} {b : Nat} : ∀ {o : Nat} {ts : List Tr} (_ : Its W b o ts) (i : Nat), i < ts.length → ∃ d q, W.rangeAt b (o + i * 3) [.bool (ts.getD i zT).l, d, q] ∧ It W (ts.getD i zT) d q
  | _, [], _, i, hi => absurd hi (Nat.not_lt_zero _)
  | o, t :: ts, h, 0, _ => by
    rw [Its] at h
    obtain ⟨d, q, h1, h2⟩ := h.1
    exact ⟨d, q, by simpa using h1, h2⟩
  | o, t :: ts, h, i + 1, hi => by
    rw [Its] at h
    obtain ⟨d, q, h1, h2⟩ := Its.at h.2 i (by simpa using hi)
    refine ⟨d, q, ?_, by simpa using h2⟩
    rw [show o + (i + 1) * 3 = o + 3 + i * 3 by omega]
    simpa using h1
theorem Its.of {W : World} {b : Nat} : ∀ {o : Nat} {ts : List Tr} (_ : ∀ i, i < ts.length → ∃ d q, W.rangeAt b (o + i * 3) [.bool (ts.getD i zT).l, d, q] ∧ It W (ts.getD i zT) d q), Its W b o ts
  | _, [], _ => by rw [Its]; trivial
  | o, t :: ts, h => by
    rw [Its]
    refine ⟨?_, Its.of fun i hi => ?_⟩
    · obtain ⟨d, q, h1, h2⟩ := h 0 (by simp)
      exact ⟨d, q, by simpa using h1, by simpa using h2⟩
    · obtain ⟨d, q, h1, h2⟩ := h (i + 1) (by simpa using hi)
      refine ⟨d, q, ?_, by simpa using h2⟩
      rw [show o + 3 + i * 3 = o + (i + 1) * 3 by omega]
      simpa using h1
theorem It.keep {W W' : World} (hb : Below W.heap.size W W') : ∀ (t : Tr) {d q : Value}, It W t d q → It W' t d q :=
  Tr.ind fun l X ts ih d q h => by
    rw [It] at h ⊢
    obtain ⟨⟨a, b, o, c, h1, h2, h3, h4⟩, a', b', o', c', k1, k2, k3, k4⟩ := h
    refine ⟨⟨a, b, o, c, h1, h2, h3, h4.keep hb⟩, a', b', o', c', k1, k2, k3, Its.of fun i hi => ?_⟩
    obtain ⟨d, q, e1, e2⟩ := k4.at i hi
    refine ⟨d, q, rangeT_keep e1 hb, ih _ ?_ e2⟩
    rw [List.getD, List.getElem?_eq_getElem hi]; exact List.getElem_mem hi
/-- Is the item itself odd? -/
def odd1 (l : Bool) (X : List Int) (ts : List Tr) : Bool := if l then decide (0 < X.length) else decide (0 < ts.length)
mutual
/-- Is it or one within it odd? -/
def oddT : Tr → Bool
  | .mk l X ts => odd1 l X ts || oddS ts
def oddS : List Tr → Bool
  | [] => false
  | t :: ts => oddT t || oddS ts
end
mutual
def dpT : Tr → Nat
  | .mk l _ ts => if l then dpS ts + 1 else 0
def dpS : List Tr → Nat
  | [] => 0
  | t :: ts => max (dpT t) (dpS ts)
end
/-- The bytes of a text. -/
def encX (X : List Int) : List Int := if bareB X then X else hdR 128 X.length ++ X
mutual
/-- The bytes of an item. -/
def encT : Tr → List Int
  | .mk l X ts => if l then hdR 192 (encS ts).length ++ encS ts else encX X
def encS : List Tr → List Int
  | [] => []
  | t :: ts => encT t ++ encS ts
end
mutual
/-- How many items and bytes there are. -/
def wtT : Tr → Nat
  | .mk _ X ts => 1 + X.length + wtS ts
def wtS : List Tr → Nat
  | [] => 0
  | t :: ts => wtT t + wtS ts
end
theorem oddS_snoc : ∀ (ts : List Tr) (t : Tr), oddS (ts ++ [t]) = (oddS ts || oddT t)
  | [], t => by simp [oddS]
  | u :: ts, t => by rw [List.cons_append, oddS, oddS, oddS_snoc ts t, Bool.or_assoc]
theorem dpS_snoc : ∀ (ts : List Tr) (t : Tr), dpS (ts ++ [t]) = max (dpS ts) (dpT t)
  | [], t => by simp [dpS]
  | u :: ts, t => by rw [List.cons_append, dpS, dpS, dpS_snoc ts t]; omega
theorem encS_app : ∀ (ts us : List Tr), encS (ts ++ us) = encS ts ++ encS us
  | [], _ => by simp [encS]
  | u :: ts, us => by rw [List.cons_append, encS, encS, encS_app ts us, List.append_assoc]
theorem wtS_app : ∀ (ts us : List Tr), wtS (ts ++ us) = wtS ts + wtS us
  | [], _ => by simp [wtS]
  | u :: ts, us => by rw [List.cons_append, wtS, wtS, wtS_app ts us]; omega
theorem take_snoc {ts : List Tr} {i : Nat} (h : i < ts.length) : ts.take (i + 1) = ts.take i ++ [ts.getD i zT] := by
  rw [List.take_add_one, List.getD, List.getElem?_eq_getElem h]; rfl
theorem getT_mem {ts : List Tr} {i : Nat} (h : i < ts.length) : ts.getD i zT ∈ ts := by
  rw [List.getD, List.getElem?_eq_getElem h]; exact List.getElem_mem h
theorem wt_item {ts : List Tr} {i : Nat} (h : i < ts.length) : wtS (ts.take i) + wtT (ts.getD i zT) ≤ wtS ts := by
  have e : ts.take (i + 1) ++ ts.drop (i + 1) = ts := List.take_append_drop _ _
  have := wtS_app (ts.take (i + 1)) (ts.drop (i + 1))
  rw [e, take_snoc h, wtS_app, wtS, wtS] at this
  omega
theorem encX_len (X : List Int) : (encX X).length ≤ 4 + X.length := by
  unfold encX
  split
  · omega
  · have := hdR_len 128 X.length
    rw [List.length_append]; omega
mutual
theorem encT_len : ∀ t : Tr, (encT t).length ≤ 4 * wtT t
  | .mk l X ts => by
    rw [encT, wtT]
    have h := encS_len ts
    have k := encX_len X
    split
    · have := hdR_len 192 (encS ts).length
      rw [List.length_append]; omega
    · omega
theorem encS_len : ∀ ts : List Tr, (encS ts).length ≤ 4 * wtS ts
  | [] => by rw [encS, wtS]; exact Nat.le_refl _
  | t :: ts => by
    rw [encS, wtS, List.length_append]
    have := encT_len t
    have := encS_len ts
    omega
end
mutual
theorem dpT_le : ∀ t : Tr, dpT t ≤ wtT t
  | .mk l X ts => by
    rw [dpT, wtT]
    have h := dpS_le ts
    split <;> omega
theorem dpS_le : ∀ ts : List Tr, dpS ts ≤ wtS ts
  | [] => by rw [dpS, wtS]; exact Nat.le_refl _
  | t :: ts => by
    rw [dpS, wtS]
    have := dpT_le t
    have := dpS_le ts
    omega
end
end Go.Proofs.Ytdjjphcfobbipaa

/- Layer 7: the document's head: the long ones. -/
namespace Go.Proofs.Ytdjjphcfobbipaa
open Go.RowKit Go.Sort
/-- A number's cells in a block. -/
def NmR (W : World) (b : Nat) (n : Int) : Prop := W.cell? ⟨b, 0, none⟩ = some (.int .u64 (l0 n)) ∧ W.cell? ⟨b, 1, none⟩ = some (.int .u64 (l1 n)) ∧ W.cell? ⟨b, 2, none⟩ = some (.int .u64 (l2 n)) ∧ W.cell? ⟨b, 3, none⟩ = some (.int .u64 (l3 n))
theorem NmR.other {W : World} {b b' i : Nat} {n : Int} (x : NmR W b n) (ne : b' ≠ b) (v : Value) : NmR (W.setCell ⟨b', i, none⟩ v) b n := by
  have hg := heap_setCell_other W ⟨b', i, none⟩ b v (fun e => ne e.symm)
  exact ⟨by rw [← x.1]; simp only [World.cell?, hg], by rw [← x.2.1]; simp only [World.cell?, hg], by rw [← x.2.2.1]; simp only [World.cell?, hg], by rw [← x.2.2.2]; simp only [World.cell?, hg]⟩
theorem NmR.keep {W w1 : World} {b : Nat} {n : Int} (h : NmR W b n) (hb : Below W.heap.size W w1) : NmR w1 b n := ⟨keepC hb h.1, keepC hb h.2.1, keepC hb h.2.2.1, keepC hb h.2.2.2⟩
end Go.Proofs.Ytdjjphcfobbipaa

/- Layer 7: the document's head of any bytes. -/
namespace Go.Proofs.Ytdjjphcfobbipaa
open Go.RowKit Go.Sort
theorem gpre_len (X : List Int) : ∀ i, i ≤ X.length → gpreN X i = lenQ X i * 256 ^ (X.length - i)
  | 0, _ => by simp [gpreN, lenQ]
  | i + 1, h => by
    rw [gpreN, gpre_len X i (by omega), lenQ]
    obtain ⟨k, hk⟩ : ∃ k, X.length - i = k + 1 := ⟨X.length - i - 1, by omega⟩
    rw [hk, show X.length - 1 - i = k by omega, show X.length - (i + 1) = k by omega, Int.pow_succ, Int.add_mul]
    congr 1
    rw [← Int.mul_assoc, Int.mul_right_comm]
theorem suf_len (X : List Int) : sufN X X.length = lenQ X X.length := by
  rw [← pre_all, gpre_len X _ (Nat.le_refl _), Nat.sub_self]; simp
theorem lenQ_take (X : List Int) {n : Nat} : ∀ k, k ≤ n → lenQ (X.take n) k = lenQ X k
  | 0, _ => rfl
  | k + 1, h => by
    rw [lenQ, lenQ, lenQ_take X k (by omega)]
    congr 1
    simp [List.getD, show k < n by omega]
theorem pow8 {n : Nat} (h : n ≤ 8) : (256 : Int) ^ n ≤ 18446744073709551616 := by
  have : n = 0 ∨ n = 1 ∨ n = 2 ∨ n = 3 ∨ n = 4 ∨ n = 5 ∨ n = 6 ∨ n = 7 ∨ n = 8 := by omega
  rcases this with rfl | rfl | rfl | rfl | rfl | rfl | rfl | rfl | rfl <;> decide
/-- What the document's head answers. -/
def hdV (p : Nat) (x : Bool × Nat × Nat × Int) : Value := if x.2.2.2 = 0 then .tuple #[.agg #[.bool x.1, .int .i64 ((p : Int) + (x.2.1 : Int)), .int .i64 ((p : Int) + (x.2.1 : Int) + (x.2.2.1 : Int))], .int .i64 0] else .tuple #[.agg #[.bool false, .int .i64 0, .int .i64 0], .int .i64 x.2.2.2]
theorem hdV_err {p : Nat} {l : Bool} {s h : Nat} {e : Int} (k : e ≠ 0) : hdV p (l, s, h, e) = .tuple #[.agg #[.bool false, .int .i64 0, .int .i64 0], .int .i64 e] := if_neg k
theorem hdV_ok {p : Nat} {l : Bool} {s h : Nat} : hdV p (l, s, h, 0) = .tuple #[.agg #[.bool l, .int .i64 ((p : Int) + (s : Int)), .int .i64 ((p : Int) + (s : Int) + (h : Int))], .int .i64 0] := if_pos rfl
theorem getD_dropR (A : List Int) (p i : Nat) : (A.drop p).getD i 0 = A.getD (p + i) 0 := by
  simp [List.getD, List.getElem?_drop]
end Go.Proofs.Ytdjjphcfobbipaa

/- Layer 7: the document's bytes and Split. -/
namespace Go.Proofs.Ytdjjphcfobbipaa
open Go.RowKit Go.Sort
theorem own_nil0 (B : Nat) (w : World) : OwnB B w (.slice none 0 0) [] := ⟨rfl, .inl ⟨rfl, rfl⟩⟩
set_option maxHeartbeats 4000000 in
theorem r7bytes_any {X : List Int} {a : Option Addr} {g p c n : Nat} (hn : n = X.length) (hl : X.length < 140737488355000) (ha : Az a g p X) (hnc : a = none → c = 0) (w : World) (hz : Bz w g p X) :
    Calls Try.prog 40 #[.slice a n c] w fun e w' => ∃ v, e = .returned v ∧ OwnB w.heap.size w' v X ∧ Below w.heap.size w w' := by
  have HQ : Hid (n = X.length ∧ X.length < 140737488355000 ∧ Az a g p X ∧ (a = none → c = 0) ∧ Bz w g p X) := ⟨hn, hl, ha, hnc, hz⟩
  clear hn hl ha hnc hz
  go_enter Try.func40, Try.ntmps40
  go_wp2_with ((at_builtin; refine wpList_append_rd rfl _ _ rfl rfl rfl HQ.out.1 (own_nil0 w.heap.size w) HQ.out.2.2.1 HQ.out.2.2.2.1 HQ.out.2.2.2.2 (by have := HQ.out.2.1; simp; omega) (Nat.le_refl _) ?_); intro v3 w3 o3 g3)
  go_ret
  exact ⟨_, rfl, by simpa using o3, (Below.refl _ _).grown g3 (Nat.le_refl _) (fun k hk => by cases hk)⟩
end Go.Proofs.Ytdjjphcfobbipaa

/- Layer 7: measured, of any tree. -/
namespace Go.Proofs.Ytdjjphcfobbipaa
open Go.RowKit Go.Sort

theorem hdR_same (f g : Int) (n : Nat) : (hdR f n).length = (hdR g n).length := by
  unfold hdR; split <;> rfl
/-- The value of an item. -/
def itV (t : Tr) (d q : Value) : Value := .agg #[.bool t.l, d, q]
set_option maxRecDepth 100000 in
theorem isOdd_any {l : Bool} {X : List Int} {ts : List Tr} {a1 a2 : Option Addr} {c1 c2 : Nat} (w : World) :
    Calls Try.prog 62 #[.agg #[.bool l, .slice a1 X.length c1, .slice a2 ts.length c2]] w fun e w' => e = .returned (.bool (odd1 l X ts)) ∧ Below w.heap.size w w' := by
  unfold odd1
  generalize X.length = n at *
  generalize ts.length = m at *
  cases l
  · go_enter Try.func62, Try.ntmps62
    go_wp2
    go_ret
    exact ⟨by simp, (Below.refl _ _).alloc (Nat.le_refl _) _⟩
  · go_enter Try.func62, Try.ntmps62
    go_wp2
    go_ret
    exact ⟨by simp, (Below.refl _ _).alloc (Nat.le_refl _) _⟩
set_option maxRecDepth 100000 in
theorem textSize_any {X : List Int} {a : Option Addr} {b o c : Nat} (hX : X.length < 16777216) (ha : Az a b o X) (w : World) (h : Bz w b o X) :
    Calls Try.prog 67 #[.slice a X.length c] w fun e w' => e = .returned (.int .i64 ((encX X).length : Int)) ∧ w' = w := by
  have c1 := bare_any (c := c) ha w h
  have c2 := headSize_any hX w
  have e1 : (encX X).length = if bareB X then 1 else (hdR 192 X.length).length + X.length := by
    unfold encX
    split
    · next hb =>
      unfold bareB at hb
      simp at hb
      exact hb.1
    · rw [List.length_append, hdR_same 128 192]
  have hl := hdR_len 192 X.length
  rw [e1]
  have HL : Hid (X.length < 16777216 ∧ (hdR 192 X.length).length ≤ 4) := ⟨hX, hl⟩
  clear ha h e1 hl hX
  generalize (hdR 192 X.length).length = r at *
  generalize bareB X = B at *
  generalize X.length = n at *
  cases B
  · go_enter Try.func67, Try.ntmps67
    go_wp2_with (first
      | ((with_reducible refine c1.mono ?_); rintro e1 w1 ⟨rfl, hw⟩; (rw [hw]); (clear hw w1))
      | ((with_reducible refine c2.mono ?_); rintro e1 w1 ⟨rfl, hw⟩; (rw [hw]); (clear hw w1)))
    simp [bodyPost, results, Try.results67, go_sem]
    have := HL.out
    unfold wrap64; omega
  · go_enter Try.func67, Try.ntmps67
    go_wp2_with (first
      | ((with_reducible refine c1.mono ?_); rintro e1 w1 ⟨rfl, hw⟩; (rw [hw]); (clear hw w1)))
    simp [bodyPost, results, Try.results67, go_sem]
/-- What measured answers. -/
def mV (t : Tr) : Value := if oddT t then .agg #[.bool true, .int .i64 0, .int .i64 0] else .agg #[.bool false, .int .i64 (dpT t), .int .i64 (encT t).length]
theorem len_wt : ∀ ts : List Tr, ts.length ≤ wtS ts
  | [] => Nat.zero_le _
  | .mk l X us :: ts => by
    have := len_wt ts
    rw [wtS, wtT, List.length_cons]; omega
/-- The part of measured for one item: its block holds the item, another the answer. -/
def Bx (W : World) (b : Nat) (l : Bool) (d q : Value) : Prop := W.cell? ⟨b, 0, none⟩ = some (.bool l) ∧ W.cell? ⟨b, 1, none⟩ = some d ∧ W.cell? ⟨b, 2, none⟩ = some q
theorem Bx.keep {W w1 : World} {b : Nat} {l : Bool} {d q : Value} (x : Bx W b l d q) (hb : Below W.heap.size W w1) : Bx w1 b l d q := ⟨keepC hb x.1, keepC hb x.2.1, keepC hb x.2.2⟩
set_option maxRecDepth 100000 in
set_option maxHeartbeats 4000000 in
theorem measured_odd {l : Bool} {X : List Int} {ts : List Tr} {a1 a2 : Option Addr} {c1 c2 : Nat} (h : odd1 l X ts = true) (w : World) :
    Calls Try.prog 55 #[.agg #[.bool l, .slice a1 X.length c1, .slice a2 ts.length c2]] w fun e w' => e = .returned (.agg #[.bool true, .int .i64 0, .int .i64 0]) ∧ Below w.heap.size w w' := by
  have C := fun w => isOdd_any (l := l) (X := X) (ts := ts) (a1 := a1) (a2 := a2) (c1 := c1) (c2 := c2) w
  rw [h] at C
  clear h
  generalize X.length = n at *
  generalize ts.length = m at *
  go_enter Try.func55, Try.ntmps55
  refine wp_seq_k fun K h => ?_
  have H : Hid _ := h
  clear h
  go_wp2_with fail
  refine H.out _ _ ?_
  clear H K
  refine wp_world (fun W => Below w.heap.size w W ∧ Bx W w.heap.size l (.slice a1 n c1) (.slice a2 m c2) ∧ Hb W (w.heap.size + 1) false 0 0 ∧ Fr3 W (w.heap.size + 1)) ⟨((Below.refl _ _).alloc (Nat.le_refl _) _).alloc (by simp) _, ⟨by simp [go_sem], by simp [go_sem], by simp [go_sem]⟩, ⟨by simp [go_sem], by simp [go_sem], by simp [go_sem]⟩, ⟨by simp [go_sem], by simp [go_sem], by simp [go_sem]⟩⟩ ?_
  rintro W ⟨B, hX, hR, hF⟩
  have hX' := hX
  obtain ⟨x0, x1, x2⟩ := hX'
  go_wp2_with ((with_reducible refine (C _).mono ?_); rintro e1 w1 ⟨rfl, hw⟩; (have B1 := B.trans (hw.mono B.size)); (obtain ⟨r0, r1, r2⟩ := hR.keep hw); (obtain ⟨z0, z1, z2⟩ := hF.keep hR.lt hw); (clear x0 x1 x2 hX))
  simp [bodyPost, results, Try.results55, go_sem, r0, r1, r2]
  exact ((B1.setCell (by show w.heap.size ≤ w.heap.size + 1; omega) _).setCell (by show w.heap.size ≤ w.heap.size + 1; omega) _).setCell (by show w.heap.size ≤ w.heap.size + 1; omega) _
set_option maxRecDepth 100000 in
set_option maxHeartbeats 4000000 in
theorem measured_text {X : List Int} {ts : List Tr} {a1 a2 : Option Addr} {b o c1 c2 : Nat} (h : odd1 false X ts = false) (hn : X.length < 16777216) (ha : Az a1 b o X) (w : World) (hb : Bz w b o X) :
    Calls Try.prog 55 #[.agg #[.bool false, .slice a1 X.length c1, .slice a2 ts.length c2]] w fun e w' => e = .returned (.agg #[.bool false, .int .i64 0, .int .i64 (encX X).length]) ∧ Below w.heap.size w w' := by
  have C := fun w => isOdd_any (l := false) (X := X) (ts := ts) (a1 := a1) (a2 := a2) (c1 := c1) (c2 := c2) w
  rw [h] at C
  have D : Hid (∀ W, Below w.heap.size w W → Calls Try.prog 67 #[.slice a1 X.length c1] W fun e w' => e = .returned (.int .i64 ((encX X).length : Int)) ∧ w' = W) := fun W B => textSize_any (c := c1) hn ha W (hb.keep B)
  clear h hn ha hb
  generalize (encX X).length = r at *
  generalize X.length = n at *
  generalize ts.length = m at *
  go_enter Try.func55, Try.ntmps55
  refine wp_seq_k fun K h => ?_
  have H : Hid _ := h
  clear h
  go_wp2_with fail
  refine H.out _ _ ?_
  clear H K
  refine wp_world (fun W => Below w.heap.size w W ∧ Bx W w.heap.size false (.slice a1 n c1) (.slice a2 m c2) ∧ Hb W (w.heap.size + 1) false 0 0 ∧ Fr3 W (w.heap.size + 1)) ⟨((Below.refl _ _).alloc (Nat.le_refl _) _).alloc (by simp) _, ⟨by simp [go_sem], by simp [go_sem], by simp [go_sem]⟩, ⟨by simp [go_sem], by simp [go_sem], by simp [go_sem]⟩, ⟨by simp [go_sem], by simp [go_sem], by simp [go_sem]⟩⟩ ?_
  rintro W ⟨B, hX, hR, hF⟩
  have hX' := hX
  obtain ⟨x0, x1, x2⟩ := hX'
  go_wp2_with (first
    | ((with_reducible refine (C _).mono ?_); rintro e1 w1 ⟨rfl, hw⟩; (have B1 := B.trans (hw.mono B.size)); (obtain ⟨r0, r1, r2⟩ := hR.keep hw); (obtain ⟨z0, z1, z2⟩ := hF.keep hR.lt hw); (replace x0 := keepC hw x0); (replace x1 := keepC hw x1); (clear x2 hX))
    | ((with_reducible refine (D.out _ B1).mono ?_); rintro e1 w2 ⟨rfl, rfl⟩))
  simp [bodyPost, results, Try.results55, go_sem, r0, r1, r2]
  exact ((B1.setCell (by show w.heap.size ≤ w.heap.size + 1; omega) _).setCell (by show w.heap.size ≤ w.heap.size + 1; omega) _).setCell (by show w.heap.size ≤ w.heap.size + 1; omega) _
end Go.Proofs.Ytdjjphcfobbipaa

import Derived.Test.YtaefmdofchjofaaRjA
import Derived.Test.YtaefmdofchjofaaRsB
import Derived.Test.YtaefmdofchjofaaRsC
import Derived.Test.YtaefmdofchjofaaRvB
/- Layer 7: trees: an item in memory, its measures, its bytes. -/
namespace Go.Proofs.Ytaefmdofchjofaa
open Go.RowKit Go.Sort

/-- A tree: is it a list; its text; its items (odd ones too). -/
inductive Tr where
  | mk (l : Bool) (X : List Int) (ts : List Tr)
namespace Tr
def l : Tr → Bool | .mk l _ _ => l
def X : Tr → List Int | .mk _ X _ => X
def ts : Tr → List Tr | .mk _ _ ts => ts
end Tr
def zT : Tr := .mk false [] []
/-- By induction: of a tree, if of all of its items. -/
theorem Tr.ind {P : Tr → Prop} (h : ∀ l X ts, (∀ t ∈ ts, P t) → P (.mk l X ts)) : ∀ t, P t :=
  Tr.rec (motive_1 := P) (motive_2 := fun ts => ∀ t ∈ ts, P t) (fun l X ts ih => h l X ts ih) (fun _ ht => by cases ht)
    (fun t ts h1 h2 u hu => by
      rcases List.mem_cons.1 hu with rfl | hu
      · exact h1
      · exact h2 u hu)
mutual
/-- An item's two slices in memory. -/
def It (W : World) : Tr → Value → Value → Prop
  | .mk _ X ts, d, q => (∃ a b o c, d = .slice a X.length c ∧ (X.length ≤ c ∧ (a = none → c = 0)) ∧ Az a b o X ∧ Bz W b o X) ∧ ∃ a b o c, q = .slice a ts.length c ∧ (ts.length ≤ c ∧ (a = none → c = 0)) ∧ (ts = [] ∨ a = some ⟨b, o, none⟩) ∧ Its W b o ts
/-- Items in a row, three cells each. -/
def Its (W : World) (b : Nat) : Nat → List Tr → Prop
  | _, [] => True
  | o, t :: ts => (∃ d q, W.rangeAt b o [.bool t.l, d, q] ∧ It W t d q) ∧ Its W b (o + 3) ts
end
theorem rangeT_keep {W W' : World} {b o : Nat} {cs : List Value} (h : W.rangeAt b o cs) (hb : Below W.heap.size W W') : W'.rangeAt b o cs := fun j v hv => by
  rw [hb.cell (World.block_lt_of_cell? W _ (h j v hv))]; exact h j v hv
theorem Its.at {W : World} {b : Nat} : ∀ {o : Nat} {ts : List Tr} (_ : Its W b o ts) (i : Nat), i < ts.length → ∃ d q, W.rangeAt b (o + i * 3) [.bool (ts.getD i zT).l, d, q] ∧ It W (ts.getD i zT) d q
  | _, [], _, i, hi => absurd hi (Nat.not_lt_zero _)
  | o, t :: ts, h, 0, _ => by
    rw [Its] at h
    obtain ⟨d, q, h1, h2⟩ := h.1
    exact ⟨d, q, by simpa using h1, h2⟩
  | o, t :: ts, h, i + 1, hi => by
    rw [Its] at h
    obtain ⟨d, q, h1, h2⟩ := Its.at h.2 i (by simpa using hi)
    refine ⟨d, q, ?_, by simpa using h2⟩
    rw [show o + (i + 1) * 3 = o + 3 + i * 3 by omega]
    simpa using h1
theorem Its.of {W : World} {b : Nat} : ∀ {o : Nat} {ts : List Tr} (_ : ∀ i, i < ts.length → ∃ d q, W.rangeAt b (o + i * 3) [.bool (ts.getD i zT).l, d, q] ∧ It W (ts.getD i zT) d q), Its W b o ts
  | _, [], _ => by rw [Its]; trivial
  | o, t :: ts, h => by
    rw [Its]
    refine ⟨?_, Its.of fun i hi => ?_⟩
    · obtain ⟨d, q, h1, h2⟩ := h 0 (by simp)
      exact ⟨d, q, by simpa using h1, by simpa using h2⟩
    · obtain ⟨d, q, h1, h2⟩ := h (i + 1) (by simpa using hi)
      refine ⟨d, q, ?_, by simpa using h2⟩
      rw [show o + 3 + i * 3 = o + (i + 1) * 3 by omega]
      simpa using h1
theorem It.keep {W W' : World} (hb : Below W.heap.size W W') : ∀ (t : Tr) {d q : Value}, It W t d q → It W' t d q :=
  Tr.ind fun l X ts ih d q h => by
    rw [It] at h ⊢
    obtain ⟨⟨a, b, o, c, h1, h2, h3, h4⟩, a', b', o', c', k1, k2, k3, k4⟩ := h
    refine ⟨⟨a, b, o, c, h1, h2, h3, h4.keep hb⟩, a', b', o', c', k1, k2, k3, Its.of fun i hi => ?_⟩
    obtain ⟨d, q, e1, e2⟩ := k4.at i hi
    refine ⟨d, q, rangeT_keep e1 hb, ih _ ?_ e2⟩
    rw [List.getD, List.getElem?_eq_getElem hi]; exact List.getElem_mem hi
/-- Is the item itself odd? -/
def odd1 (l : Bool) (X : List Int) (ts : List Tr) : Bool := if l then decide (0 < X.length) else decide (0 < ts.length)
mutual
/-- Is it or one within it odd? -/
def oddT : Tr → Bool
  | .mk l X ts => odd1 l X ts || oddS ts
def oddS : List Tr → Bool
  | [] => false
  | t :: ts => oddT t || oddS ts
end
mutual
def dpT : Tr → Nat
  | .mk l _ ts => if l then dpS ts + 1 else 0
def dpS : List Tr → Nat
  | [] => 0
  | t :: ts => max (dpT t) (dpS ts)
end
/-- The bytes of a text. -/
def encX (X : List Int) : List Int := if bareB X then X else hdR 128 X.length ++ X
mutual
/-- The bytes of an item. -/
def encT : Tr → List Int
  | .mk l X ts => if l then hdR 192 (encS ts).length ++ encS ts else encX X
def encS : List Tr → List Int
  | [] => []
  | t :: ts => encT t ++ encS ts
end
mutual
/-- How many items and bytes there are. -/
def wtT : Tr → Nat
  | .mk _ X ts => 1 + X.length + wtS ts
def wtS : List Tr → Nat
  | [] => 0
  | t :: ts => wtT t + wtS ts
end
theorem oddS_snoc : ∀ (ts : List Tr) (t : Tr), oddS (ts ++ [t]) = (oddS ts || oddT t)
  | [], t => by simp [oddS]
  | u :: ts, t => by rw [List.cons_append, oddS, oddS, oddS_snoc ts t, Bool.or_assoc]
theorem dpS_snoc : ∀ (ts : List Tr) (t : Tr), dpS (ts ++ [t]) = max (dpS ts) (dpT t)
  | [], t => by simp [dpS]
  | u :: ts, t => by rw [List.cons_append, dpS, dpS, dpS_snoc ts t]; omega
theorem encS_app : ∀ (ts us : List Tr), encS (ts ++ us) = encS ts ++ encS us
  | [], _ => by simp [encS]
  | u :: ts, us => by rw [List.cons_append, encS, encS, encS_app ts us, List.append_assoc]
theorem wtS_app : ∀ (ts us : List Tr), wtS (ts ++ us) = wtS ts + wtS us
  | [], _ => by simp [wtS]
  | u :: ts, us => by rw [List.cons_append, wtS, wtS, wtS_app ts us]; omega
theorem take_snoc {ts : List Tr} {i : Nat} (h : i < ts.length) : ts.take (i + 1) = ts.take i ++ [ts.getD i zT] := by
  rw [List.take_add_one, List.getD, List.getElem?_eq_getElem h]; rfl
theorem getT_mem {ts : List Tr} {i : Nat} (h : i < ts.length) : ts.getD i zT ∈ ts := by
  rw [List.getD, List.getElem?_eq_getElem h]; exact List.getElem_mem h
theorem wt_item {ts : List Tr} {i : Nat} (h : i < ts.length) : wtS (ts.take i) + wtT (ts.getD i zT) ≤ wtS ts := by
  have e : ts.take (i + 1) ++ ts.drop (i + 1) = ts := List.take_append_drop _ _
  have := wtS_app (ts.take (i + 1)) (ts.drop (i + 1))
  rw [e, take_snoc h, wtS_app, wtS, wtS] at this
  omega
theorem encX_len (X : List Int) : (encX X).length ≤ 4 + X.length := by
  unfold encX
  split
  · omega
  · have := hdR_len 128 X.length
    rw [List.length_append]; omega
mutual
theorem encT_len : ∀ t : Tr, (encT t).length ≤ 4 * wtT t
  | .mk l X ts => by
    rw [encT, wtT]
    have h := encS_len ts
    have k := encX_len X
    split
    · have := hdR_len 192 (encS ts).length
      rw [List.length_append]; omega
    · omega
theorem encS_len : ∀ ts : List Tr, (encS ts).length ≤ 4 * wtS ts
  | [] => by rw [encS, wtS]; exact Nat.le_refl _
  | t :: ts => by
    rw [encS, wtS, List.length_append]
    have := encT_len t
    have := encS_len ts
    omega
end
mutual
theorem dpT_le : ∀ t : Tr, dpT t ≤ wtT t
  | .mk l X ts => by
    rw [dpT, wtT]
    have h := dpS_le ts
    split <;> omega
theorem dpS_le : ∀ ts : List Tr, dpS ts ≤ wtS ts
  | [] => by rw [dpS, wtS]; exact Nat.le_refl _
  | t :: ts => by
    rw [dpS, wtS]
    have := dpT_le t
    have := dpS_le ts
    omega
end
end Go.Proofs.Ytaefmdofchjofaa

/- Layer 7: measured, of any tree. -/
namespace Go.Proofs.Ytaefmdofchjofaa
open Go.RowKit Go.Sort

theorem hdR_same (f g : Int) (n : Nat) : (hdR f n).length = (hdR g n).length := by
  unfold hdR; split <;> rfl
/-- The value of an item. -/
def itV (t : Tr) (d q : Value) : Value := .agg #[.bool t.l, d, q]
set_option maxRecDepth 100000 in
theorem isOdd_any {l : Bool} {X : List Int} {ts : List Tr} {a1 a2 : Option Addr} {c1 c2 : Nat} (w : World) :
    Calls Try.prog 67 #[.agg #[.bool l, .slice a1 X.length c1, .slice a2 ts.length c2]] w fun e w' => e = .returned (.bool (odd1 l X ts)) ∧ Below w.heap.size w w' := by
  unfold odd1
  generalize X.length = n at *
  generalize ts.length = m at *
  cases l
  · go_enter Try.func67, Try.ntmps67
    go_wp2
    go_ret
    exact ⟨by simp, (Below.refl _ _).alloc (Nat.le_refl _) _⟩
  · go_enter Try.func67, Try.ntmps67
    go_wp2
    go_ret
    exact ⟨by simp, (Below.refl _ _).alloc (Nat.le_refl _) _⟩
set_option maxRecDepth 100000 in
theorem textSize_any {X : List Int} {a : Option Addr} {b o c : Nat} (hX : X.length < 16777216) (ha : Az a b o X) (w : World) (h : Bz w b o X) :
    Calls Try.prog 68 #[.slice a X.length c] w fun e w' => e = .returned (.int .i64 ((encX X).length : Int)) ∧ w' = w := by
  have c1 := bare_any (c := c) ha w h
  have c2 := headSize_any hX w
  have e1 : (encX X).length = if bareB X then 1 else (hdR 192 X.length).length + X.length := by
    unfold encX
    split
    · next hb =>
      unfold bareB at hb
      simp at hb
      exact hb.1
    · rw [List.length_append, hdR_same 128 192]
  have hl := hdR_len 192 X.length
  rw [e1]
  have HL : Hid (X.length < 16777216 ∧ (hdR 192 X.length).length ≤ 4) := ⟨hX, hl⟩
  clear ha h e1 hl hX
  generalize (hdR 192 X.length).length = r at *
  generalize bareB X = B at *
  generalize X.length = n at *
  cases B
  · go_enter Try.func68, Try.ntmps68
    go_wp2_with (first
      | ((with_reducible refine c1.mono ?_); rintro e1 w1 ⟨rfl, hw⟩; (rw [hw]); (clear hw w1))
      | ((with_reducible refine c2.mono ?_); rintro e1 w1 ⟨rfl, hw⟩; (rw [hw]); (clear hw w1)))
    simp [bodyPost, results, Try.results68, go_sem]
    have := HL.out
    unfold wrap64; omega
  · go_enter Try.func68, Try.ntmps68
    go_wp2_with (first
      | ((with_reducible refine c1.mono ?_); rintro e1 w1 ⟨rfl, hw⟩; (rw [hw]); (clear hw w1)))
    simp [bodyPost, results, Try.results68, go_sem]
/-- What measured answers. -/
def mV (t : Tr) : Value := if oddT t then .agg #[.bool true, .int .i64 0, .int .i64 0] else .agg #[.bool false, .int .i64 (dpT t), .int .i64 (encT t).length]
theorem len_wt : ∀ ts : List Tr, ts.length ≤ wtS ts
  | [] => Nat.zero_le _
  | .mk l X us :: ts => by
    have := len_wt ts
    rw [wtS, wtT, List.length_cons]; omega
/-- The part of measured for one item: its block holds the item, another the answer. -/
def Bx (W : World) (b : Nat) (l : Bool) (d q : Value) : Prop := W.cell? ⟨b, 0, none⟩ = some (.bool l) ∧ W.cell? ⟨b, 1, none⟩ = some d ∧ W.cell? ⟨b, 2, none⟩ = some q
theorem Bx.keep {W w1 : World} {b : Nat} {l : Bool} {d q : Value} (x : Bx W b l d q) (hb : Below W.heap.size W w1) : Bx w1 b l d q := ⟨keepC hb x.1, keepC hb x.2.1, keepC hb x.2.2⟩
set_option maxRecDepth 100000 in
set_option maxHeartbeats 4000000 in
theorem measured_odd {l : Bool} {X : List Int} {ts : List Tr} {a1 a2 : Option Addr} {c1 c2 : Nat} (h : odd1 l X ts = true) (w : World) :
    Calls Try.prog 49 #[.agg #[.bool l, .slice a1 X.length c1, .slice a2 ts.length c2]] w fun e w' => e = .returned (.agg #[.bool true, .int .i64 0, .int .i64 0]) ∧ Below w.heap.size w w' := by
  have C := fun w => isOdd_any (l := l) (X := X) (ts := ts) (a1 := a1) (a2 := a2) (c1 := c1) (c2 := c2) w
  rw [h] at C
  clear h
  generalize X.length = n at *
  generalize ts.length = m at *
  go_enter Try.func49, Try.ntmps49
  refine wp_seq_k fun K h => ?_
  have H : Hid _ := h
  clear h
  go_wp2_with fail
  refine H.out _ _ ?_
  clear H K
  refine wp_world (fun W => Below w.heap.size w W ∧ Bx W w.heap.size l (.slice a1 n c1) (.slice a2 m c2) ∧ Hb W (w.heap.size + 1) false 0 0 ∧ Fr3 W (w.heap.size + 1)) ⟨((Below.refl _ _).alloc (Nat.le_refl _) _).alloc (by simp) _, ⟨by simp [go_sem], by simp [go_sem], by simp [go_sem]⟩, ⟨by simp [go_sem], by simp [go_sem], by simp [go_sem]⟩, ⟨by simp [go_sem], by simp [go_sem], by simp [go_sem]⟩⟩ ?_
  rintro W ⟨B, hX, hR, hF⟩
  have hX' := hX
  obtain ⟨x0, x1, x2⟩ := hX'
  go_wp2_with ((with_reducible refine (C _).mono ?_); rintro e1 w1 ⟨rfl, hw⟩; (have B1 := B.trans (hw.mono B.size)); (obtain ⟨r0, r1, r2⟩ := hR.keep hw); (obtain ⟨z0, z1, z2⟩ := hF.keep hR.lt hw); (clear x0 x1 x2 hX))
  simp [bodyPost, results, Try.results49, go_sem, r0, r1, r2]
  exact ((B1.setCell (by show w.heap.size ≤ w.heap.size + 1; omega) _).setCell (by show w.heap.size ≤ w.heap.size + 1; omega) _).setCell (by show w.heap.size ≤ w.heap.size + 1; omega) _
set_option maxRecDepth 100000 in
set_option maxHeartbeats 4000000 in
theorem measured_text {X : List Int} {ts : List Tr} {a1 a2 : Option Addr} {b o c1 c2 : Nat} (h : odd1 false X ts = false) (hn : X.length < 16777216) (ha : Az a1 b o X) (w : World) (hb : Bz w b o X) :
    Calls Try.prog 49 #[.agg #[.bool false, .slice a1 X.length c1, .slice a2 ts.length c2]] w fun e w' => e = .returned (.agg #[.bool false, .int .i64 0, .int .i64 (encX X).length]) ∧ Below w.heap.size w w' := by
  have C := fun w => isOdd_any (l := false) (X := X) (ts := ts) (a1 := a1) (a2 := a2) (c1 := c1) (c2 := c2) w
  rw [h] at C
  have D : Hid (∀ W, Below w.heap.size w W → Calls Try.prog 68 #[.slice a1 X.length c1] W fun e w' => e = .returned (.int .i64 ((encX X).length : Int)) ∧ w' = W) := fun W B => textSize_any (c := c1) hn ha W (hb.keep B)
  clear h hn ha hb
  generalize (encX X).length = r at *
  generalize X.length = n at *
  generalize ts.length = m at *
  go_enter Try.func49, Try.ntmps49
  refine wp_seq_k fun K h => ?_
  have H : Hid _ := h
  clear h
  go_wp2_with fail
  refine H.out _ _ ?_
  clear H K
  refine wp_world (fun W => Below w.heap.size w W ∧ Bx W w.heap.size false (.slice a1 n c1) (.slice a2 m c2) ∧ Hb W (w.heap.size + 1) false 0 0 ∧ Fr3 W (w.heap.size + 1)) ⟨((Below.refl _ _).alloc (Nat.le_refl _) _).alloc (by simp) _, ⟨by simp [go_sem], by simp [go_sem], by simp [go_sem]⟩, ⟨by simp [go_sem], by simp [go_sem], by simp [go_sem]⟩, ⟨by simp [go_sem], by simp [go_sem], by simp [go_sem]⟩⟩ ?_
  rintro W ⟨B, hX, hR, hF⟩
  have hX' := hX
  obtain ⟨x0, x1, x2⟩ := hX'
  go_wp2_with (first
    | ((with_reducible refine (C _).mono ?_); rintro e1 w1 ⟨rfl, hw⟩; (have B1 := B.trans (hw.mono B.size)); (obtain ⟨r0, r1, r2⟩ := hR.keep hw); (obtain ⟨z0, z1, z2⟩ := hF.keep hR.lt hw); (replace x0 := keepC hw x0); (replace x1 := keepC hw x1); (clear x2 hX))
    | ((with_reducible refine (D.out _ B1).mono ?_); rintro e1 w2 ⟨rfl, rfl⟩))
  simp [bodyPost, results, Try.results49, go_sem, r0, r1, r2]
  exact ((B1.setCell (by show w.heap.size ≤ w.heap.size + 1; omega) _).setCell (by show w.heap.size ≤ w.heap.size + 1; omega) _).setCell (by show w.heap.size ≤ w.heap.size + 1; omega) _
end Go.Proofs.Ytaefmdofchjofaa

/- Layer 7: the head of any room. -/
namespace Go.Proofs.Ytaefmdofchjofaa
open Go.RowKit Go.Sort
theorem rv_all {A : List Int} {a : Option Addr} {b o c p M : Nat} (hM : A.length ≤ M) (hA : Byts A) (hl : A.length ≤ 16777216) (hc : A.length ≤ c) (ha : Az a b o A) (hp : p ≤ A.length) (w : World) (h : Bz w b o A) :
    Calls Try.prog 64 #[.slice a M c, .int .i64 (p : Int), .int .i64 (A.length : Int)] w fun e w' => e = .returned (hdV p (hdP (A.drop p))) ∧ Below w.heap.size w w' := by
  have ld : (A.drop p).length = A.length - p := List.length_drop ..
  by_cases k0 : (A.drop p).length = 0
  · have e : hdP (A.drop p) = (false, 0, 0, 70) := by unfold hdP; rw [if_pos k0]
    rw [e, hdV_err (by decide), show p = A.length by omega]
    exact rv_empty w
  obtain rfl := ha.cons (by omega)
  obtain ⟨f, ef⟩ : ∃ f, f = (A.drop p).getD 0 0 := ⟨_, rfl⟩
  have ef2 : f = A.getD p 0 := by rw [ef, getD_dropR, Nat.add_zero]
  have hf := hA p
  rw [← ef2] at hf
  have cell := h p (by omega)
  rw [← ef2] at cell
  by_cases k1 : f < 128
  · have e : hdP (A.drop p) = (false, 0, 1, 0) := by unfold hdP; rw [if_neg k0, ← ef, if_pos k1]
    rw [e, hdV_ok]
    have r := rv_low (m := A.length) (c := c) (p := p) hM (by omega) hl hf.1 k1 w cell
    simpa using r
  obtain ⟨q, eq⟩ : ∃ q : Nat, q = (f % 64).toNat := ⟨_, rfl⟩
  have eq' : f % 64 = (q : Int) := by omega
  by_cases k2 : f % 64 ≤ 55
  · have e : hdP (A.drop p) = fin7 (A.drop p) (decide (192 ≤ f)) 1 q := by unfold hdP; rw [if_neg k0, ← ef, if_neg k1, if_pos k2, ← eq]
    rw [e]
    refine rv_short (l := decide (192 ≤ f)) (q := q) (t := bareB (((A.drop p).drop 1).take 1)) hM (by omega) hl hc (by omega) (by omega) rfl eq' (by omega) w cell (fun _ _ hk => ?_) ?_
    · refine ⟨A.getD (p + 1) 0, h (p + 1) hk, ?_⟩
      have : ((((A.drop p).drop 1).take 1)).length = 1 := by rw [List.length_take, List.length_drop, ld]; omega
      unfold bareB
      rw [decide_eq_true this, Bool.true_and]
      congr 2
      simp [List.getD, List.getElem?_drop]
    · unfold fin7
      by_cases k3 : A.length < p + 1 + q
      · rw [if_pos k3, if_pos (by omega), hdV_err (by decide)]
      rw [if_neg k3, if_neg (by omega)]
      by_cases k4 : decide (192 ≤ f) = false ∧ q = 1 ∧ bareB (((A.drop p).drop 1).take 1) = true
      · have k5 := k4.2.1
        subst k5
        rw [if_pos k4, if_pos ⟨k4.1, k4.2.2⟩, hdV_err (by decide)]
      · rw [if_neg k4, if_neg (fun x => k4 ⟨x.1, by
          have b := x.2
          have : q = 1 := by
            unfold bareB at b
            simp at b
            omega
          subst this
          exact ⟨rfl, x.2⟩⟩), hdV_ok]
        rfl
  obtain ⟨n, en⟩ : ∃ n : Nat, n = q - 55 := ⟨_, rfl⟩
  have t2 : f % 64 = 55 + (n : Int) := by rw [eq']; omega
  by_cases k3 : (A.drop p).length - 1 < n
  · have e : hdP (A.drop p) = (false, 0, 0, 70) := by unfold hdP; rw [if_neg k0, ← ef, if_neg k1, if_neg k2, ← eq, ← en, if_pos k3]
    rw [e, hdV_err (by decide)]
    exact rv_end hM (by omega) hl (by omega) (by omega) t2 (by omega) (by omega) w cell
  obtain ⟨X, eX⟩ : ∃ X, X = (A.drop (p + 1)).take n := ⟨_, rfl⟩
  have lX : X.length = n := by rw [eX, List.length_take, List.length_drop]; omega
  have dd : (A.drop p).drop 1 = A.drop (p + 1) := by rw [List.drop_drop]
  have eL : lenQ (A.drop (p + 1)) n = sufN X X.length := by rw [suf_len, lX, eX, lenQ_take _ _ (Nat.le_refl _)]
  have bX : Byts X := fun i => by
    by_cases hi : i < n
    · have := hA (p + 1 + i)
      rw [eX]
      simpa [List.getD, List.getElem?_take, List.getElem?_drop, hi] using this
    · have : X.getD i 0 = 0 := by simp [List.getD, List.getElem?_eq_none (show X.length ≤ i by omega)]
      rw [this]; omega
  have sb := sufN_bound bX X.length
  have n8 : n ≤ 8 := by omega
  have s8 : sufN X X.length < 18446744073709551616 := Int.lt_of_lt_of_le sb.2 (by
    rw [lX]
    exact pow8 n8)
  obtain ⟨L, hL⟩ : ∃ L, L = sufN X X.length := ⟨_, rfl⟩
  have nL : Num L := ⟨by omega, by omega⟩
  have nD : Num ((A.length : Int) - ((p : Int) + 1 + (n : Int))) := ⟨by omega, by omega⟩
  have r := rv_long (b := b) (o := o) (c := c) (m := A.length) (p := p) (k := n) (f := f) (y := A.getD (p + 1) 0) (L := L) (l := decide (192 ≤ f)) (z1 := (A.getD (p + 1) 0 == 0)) (z2 := decide (cmpN L 56 < 0)) (z3 := decide (0 < cmpN L ((A.length : Int) - ((p : Int) + 1 + (n : Int))))) (r := hdV p (hdP (A.drop p))) hM (by omega) hl hc (by omega) (by omega) rfl t2 (by omega) (by omega) w cell (h (p + 1) (by omega)) rfl
    (fun W B => by
      have g := rget_any (a := some ⟨b, o + (p + 1), none⟩) (bb := b) (ob := o + (p + 1)) (cb := c - (p + 1)) (A := X) (.inr rfl) bX (by omega) W (fun i hi => by
        have := (h.keep B) (p + 1 + i) (by omega)
        rw [show o + (p + 1) + i = o + (p + 1 + i) by omega, this, eX]
        simp [List.getD, List.getElem?_drop, show i < n by omega])
      rw [← hL, lX] at g
      exact g) (fun w => rfrom_any ⟨by decide, by decide⟩ w) (fun w => rcmp_any nL ⟨by decide, by decide⟩ w) (fun w => rfrom_any ⟨by omega, by omega⟩ w) (fun w => rcmp_any nL nD w) rfl rfl rfl
    (fun x => by have := of_decide_eq_false x; unfold cmpN at this; split at this <;> omega) (fun x => by have := of_decide_eq_false x; unfold cmpN at this; split at this <;> omega) ?_
  · exact r
  · have y1 : (A.drop (p + 1)).getD 0 0 = A.getD (p + 1) 0 := by rw [getD_dropR, Nat.add_zero]
    have eL2 : lenQ (A.drop (p + 1)) n = L := by rw [eL, hL]
    have c1 : decide (cmpN L 56 < 0) = decide (L ≤ 55) := by
      unfold cmpN
      by_cases k : L = 56
      · rw [if_pos k, k]; decide
      · rw [if_neg k]
        by_cases k' : L < 56
        · rw [if_pos k', decide_eq_true (show L ≤ 55 by omega)]; decide
        · rw [if_neg k', decide_eq_false (show ¬ L ≤ 55 by omega)]; decide
    have c2 : decide (0 < cmpN L ((A.length : Int) - ((p : Int) + 1 + (n : Int)))) = decide ((A.length : Int) < (p : Int) + 1 + (n : Int) + L) := by
      unfold cmpN
      by_cases k : L = (A.length : Int) - ((p : Int) + 1 + (n : Int))
      · rw [if_pos k, decide_eq_false (show ¬ (A.length : Int) < (p : Int) + 1 + (n : Int) + L by omega)]; decide
      · rw [if_neg k]
        by_cases k' : L < (A.length : Int) - ((p : Int) + 1 + (n : Int))
        · rw [if_pos k', decide_eq_false (show ¬ (A.length : Int) < (p : Int) + 1 + (n : Int) + L by omega)]; decide
        · rw [if_neg k', decide_eq_true (show (A.length : Int) < (p : Int) + 1 + (n : Int) + L by omega)]; decide
    rw [c1, c2]
    by_cases k4 : A.getD (p + 1) 0 = 0 ∨ L ≤ 55
    · have e : hdP (A.drop p) = (false, 0, 0, 72) := by unfold hdP; rw [if_neg k0, ← ef, if_neg k1, if_neg k2, ← eq, ← en, if_neg k3, dd, y1, eL2, if_pos k4]
      rw [e, hdV_err (by decide), if_pos (by rcases k4 with k | k; · { rw [k]; rfl }; · { rw [decide_eq_true k, Bool.or_true] })]
    have e : hdP (A.drop p) = fin7 (A.drop p) (decide (192 ≤ f)) (1 + n) L.toNat := by unfold hdP; rw [if_neg k0, ← ef, if_neg k1, if_neg k2, ← eq, ← en, if_neg k3, dd, y1, eL2, if_neg k4]
    have k5 : ¬ L ≤ 55 := fun x => k4 (.inr x)
    rw [e, if_neg (by
      have : A.getD (p + 1) 0 ≠ 0 := fun x => k4 (.inl x)
      rw [beq_false_of_ne this, decide_eq_false k5]; decide)]
    by_cases k6 : (A.length : Int) < (p : Int) + 1 + (n : Int) + L
    · have e2 : fin7 (A.drop p) (decide (192 ≤ f)) (1 + n) L.toNat = (false, 0, 0, 70) := by unfold fin7; rw [if_pos (by omega)]
      rw [e2, hdV_err (by decide), if_pos (decide_eq_true k6)]
    · have e2 : fin7 (A.drop p) (decide (192 ≤ f)) (1 + n) L.toNat = (decide (192 ≤ f), 1 + n, L.toNat, 0) := by
        unfold fin7
        rw [if_neg (by omega), if_neg (fun x => by
          have := bare_long (X := ((A.drop p).drop (1 + n)).take L.toNat) (by rw [List.length_take, List.length_drop, ld]; omega)
          rw [this] at x
          exact absurd x.2 (by decide))]
      rw [e2, hdV_ok, if_neg (by rw [decide_eq_false k6]; decide)]
      have i1 : (p : Int) + ((1 + n : Nat) : Int) = (p : Int) + 1 + (n : Int) := by omega
      have i2 : ((L.toNat : Nat) : Int) = L := by omega
      rw [i1, i2]
end Go.Proofs.Ytaefmdofchjofaa

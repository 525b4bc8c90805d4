import Derived.Test.YtkbmonlbgnnjlaaDoorRjA
import Derived.Test.YtkbmonlbgnnjlaaDoorRsA
import Derived.Test.YtkbmonlbgnnjlaaDoorQTail
/- Layer 7: trees: an item in memory, its measures, its bytes. -/
namespace Go.Proofs.YtkbmonlbgnnjlaaDoor
open Go.RowKit Go.Sort

/-- A tree: is it a list; its text; its items (odd ones too). -/
inductive Tr where
  | mk (l : Bool) (X : List Int) (ts : List Tr)
namespace Tr
def l : Tr → Bool | .mk l _ _ => l
def X : Tr → List Int | .mk _ X _ => X
def ts : Tr → List Tr | .mk _ _ ts => ts
end Tr
def zT : Tr := .mk false [] []
/-- By induction: of a tree, if of all of its items. -/
theorem Tr.ind {P : Tr → Prop} (h : ∀ l X ts, (∀ t ∈ ts, P t) → P (.mk l X ts)) : ∀ t, P t :=
  Tr.rec (motive_1 := P) (motive_2 := fun ts => ∀ t ∈ ts, P t) (fun l X ts ih => h l X ts ih) (fun _ ht => by cases ht)
    (fun t ts h1 h2 u hu => by
      rcases List.mem_cons.1 hu with rfl | hu
      · exact h1
      · exact h2 u hu)
mutual
/-- An item's two slices in memory. -/
def It (W : World) : Tr → Value → Value → Prop
  | .mk _ X ts, d, q => (∃ a b o c, d = .slice a X.length c ∧ (X.length ≤ c ∧ (a = none → c = 0)) ∧ Az a b o X ∧ Bz W b o X) ∧ ∃ a b o c, q = .slice a ts.length c ∧ (ts.length ≤ c ∧ (a = none → c = 0)) ∧ (ts = [] ∨ a = some ⟨b, o, none⟩) ∧ Its W b o ts
/-- Items in a row, three cells each. -/
def Its (W : World) (b : Nat) : Nat → List Tr → Prop
  | _, [] => True
  | o, t :: ts => (∃ d q, W.rangeAt b o [.bool t.l, d, q] ∧ It W t d q) ∧ Its W b (o + 3) ts
end
theorem rangeT_keep {W W' : World} {b o : Nat} {cs : List Value} (h : W.rangeAt b o cs) (hb : Below W.heap.size W W') : W'.rangeAt b o cs := fun j v hv => by
  rw [hb.cell (World.block_lt_of_cell? W _ (h j v hv))]; exact h j v hv
theorem Its.at {W : World} {b : Nat} : ∀ {o : Nat} {ts : List Tr} (_ : Its W b o ts) (i : Nat), i < ts.length → ∃ d q, W.rangeAt b (o + i * 3) [.bool (ts.getD i zT).l, d, q] ∧ It W (ts.getD i zT) d q
  | _, [], _, i, hi => absurd hi (Nat.not_lt_zero _)
  | o, t :: ts, h, 0, _ => by
    rw [Its] at h
    obtain ⟨d, q, h1, h2⟩ := h.1
    exact ⟨d, q, by simpa using h1, h2⟩
  | o, t :: ts, h, i + 1, hi => by
    rw [Its] at h
    obtain ⟨d, q, h1, h2⟩ := Its.at h.2 i (by simpa using hi)
    refine ⟨d, q, ?_, by simpa using h2⟩
    rw [show o + (i + 1) * 3 = o + 3 + i * 3 by omega]
    simpa using h1
theorem Its.of {W : World} {b : Nat} : ∀ {o : Nat} {ts : List Tr} (_ : ∀ i, i < ts.length → ∃ d q, W.rangeAt b (o + i * 3) [.bool (ts.getD i zT).l, d, q] ∧ It W (ts.getD i zT) d q), Its W b o ts
  | _, [], _ => by rw [Its]; trivial
  | o, t :: ts, h => by
    rw [Its]
    refine ⟨?_, Its.of fun i hi => ?_⟩
    · obtain ⟨d, q, h1, h2⟩ := h 0 (by simp)
      exact ⟨d, q, by simpa using h1, by simpa using h2⟩
    · obtain ⟨d, q, h1, h2⟩ := h (i + 1) (by simpa using hi)
      refine ⟨d, q, ?_, by simpa using h2⟩
      rw [show o + 3 + i * 3 = o + (i + 1) * 3 by omega]
      simpa using h1
theorem It.keep {W W' : World} (hb : Below W.heap.size W W') : ∀ (t : Tr) {d q : Value}, It W t d q → It W' t d q :=
  Tr.ind fun l X ts ih d q h => by
    rw [It] at h ⊢
    obtain ⟨⟨a, b, o, c, h1, h2, h3, h4⟩, a', b', o', c', k1, k2, k3, k4⟩ := h
    refine ⟨⟨a, b, o, c, h1, h2, h3, h4.keep hb⟩, a', b', o', c', k1, k2, k3, Its.of fun i hi => ?_⟩
    obtain ⟨d, q, e1, e2⟩ := k4.at i hi
    refine ⟨d, q, rangeT_keep e1 hb, ih _ ?_ e2⟩
    rw [List.getD, List.getElem?_eq_getElem hi]; exact List.getElem_mem hi
/-- Is the item itself odd? -/
def odd1 (l : Bool) (X : List Int) (ts : List Tr) : Bool := if l then decide (0 < X.length) else decide (0 < ts.length)
mutual
/-- Is it or one within it odd? -/
def oddT : Tr → Bool
  | .mk l X ts => odd1 l X ts || oddS ts
def oddS : List Tr → Bool
  | [] => false
  | t :: ts => oddT t || oddS ts
end
mutual
def dpT : Tr → Nat
  | .mk l _ ts => if l then dpS ts + 1 else 0
def dpS : List Tr → Nat
  | [] => 0
  | t :: ts => max (dpT t) (dpS ts)
end
/-- The bytes of a text. -/
def encX (X : List Int) : List Int := if bareB X then X else hdR 128 X.length ++ X
mutual
/-- The bytes of an item. -/
def encT : Tr → List Int
  | .mk l X ts => if l then hdR 192 (encS ts).length ++ encS ts else encX X
def encS : List Tr → List Int
  | [] => []
  | t :: ts => encT t ++ encS ts
end
mutual
/-- How many items and bytes there are. -/
def wtT : Tr → Nat
  | .mk _ X ts => 1 + X.length + wtS ts
def wtS : List Tr → Nat
  | [] => 0
  | t :: ts => wtT t + wtS ts
end
theorem oddS_snoc : ∀ (ts : List Tr) (t : Tr), oddS (ts ++ [t]) = (oddS ts || oddT t)
  | [], t => by simp [oddS]
  | u :: ts, t => by rw [List.cons_append, oddS, oddS, oddS_snoc ts t, Bool.or_assoc]
theorem dpS_snoc : ∀ (ts : List Tr) (t : Tr), dpS (ts ++ [t]) = max (dpS ts) (dpT t)
  | [], t => by simp [dpS]
  | u :: ts, t => by rw [List.cons_append, dpS, dpS, dpS_snoc ts t]; omega
theorem encS_app : ∀ (ts us : List Tr), encS (ts ++ us) = encS ts ++ encS us
  | [], _ => by simp [encS]
  | u :: ts, us => by rw [List.cons_append, encS, encS, encS_app ts us, List.append_assoc]
theorem wtS_app : ∀ (ts us : List Tr), wtS (ts ++ us) = wtS ts + wtS us
  | [], _ => by simp [wtS]
  | u :: ts, us => by rw [List.cons_append, wtS, wtS, wtS_app ts us]; omega
theorem take_snoc {ts : List Tr} {i : Nat} (h : i < ts.length) : ts.take (i + 1) = ts.take i ++ [ts.getD i zT] := by
  rw [List.take_add_one, List.getD, List.getElem?_eq_getElem h]; rfl
theorem getT_mem {ts : List Tr} {i : Nat} (h : i < ts.length) : ts.getD i zT ∈ ts := by
  rw [List.getD, List.getElem?_eq_getElem h]; exact List.getElem_mem h
theorem wt_item {ts : List Tr} {i : Nat} (h : i < ts.length) : wtS (ts.take i) + wtT (ts.getD i zT) ≤ wtS ts := by
  have e : ts.take (i + 1) ++ ts.drop (i + 1) = ts := List.take_append_drop _ _
  have := wtS_app (ts.take (i + 1)) (ts.drop (i + 1))
  rw [e, take_snoc h, wtS_app, wtS, wtS] at this
  omega
theorem encX_len (X : List Int) : (encX X).length ≤ 4 + X.length := by
  unfold encX
  split
  · omega
  · have := hdR_len 128 X.length
    rw [List.length_append]; omega
mutual
theorem encT_len : ∀ t : Tr, (encT t).length ≤ 4 * wtT t
  | .mk l X ts => by
    rw [encT, wtT]
    have h := encS_len ts
    have k := encX_len X
    split
    · have := hdR_len 192 (encS ts).length
      rw [List.length_append]; omega
    · omega
theorem encS_len : ∀ ts : List Tr, (encS ts).length ≤ 4 * wtS ts
  | [] => by rw [encS, wtS]; exact Nat.le_refl _
  | t :: ts => by
    rw [encS, wtS, List.length_append]
    have := encT_len t
    have := encS_len ts
    omega
end
mutual
theorem dpT_le : ∀ t : Tr, dpT t ≤ wtT t
  | .mk l X ts => by
    rw [dpT, wtT]
    have h := dpS_le ts
    split <;> omega
theorem dpS_le : ∀ ts : List Tr, dpS ts ≤ wtS ts
  | [] => by rw [dpS, wtS]; exact Nat.le_refl _
  | t :: ts => by
    rw [dpS, wtS]
    have := dpT_le t
    have := dpS_le ts
    omega
end
end Go.Proofs.YtkbmonlbgnnjlaaDoor

/- Layer 7: measured, of any tree. -/
namespace Go.Proofs.YtkbmonlbgnnjlaaDoor
open Go.RowKit Go.Sort

theorem hdR_same (f g : Int) (n : Nat) : (hdR f n).length = (hdR g n).length := by
  unfold hdR; split <;> rfl
/-- The value of an item. -/
def itV (t : Tr) (d q : Value) : Value := .agg #[.bool t.l, d, q]
set_option maxRecDepth 100000 in
theorem isOdd_any {l : Bool} {X : List Int} {ts : List Tr} {a1 a2 : Option Addr} {c1 c2 : Nat} (w : World) :
    Calls Tryd.prog 46 #[.agg #[.bool l, .slice a1 X.length c1, .slice a2 ts.length c2]] w fun e w' => e = .returned (.bool (odd1 l X ts)) ∧ Below w.heap.size w w' := by
  unfold odd1
  generalize X.length = n at *
  generalize ts.length = m at *
  cases l
  · go_enter Tryd.func46, Tryd.ntmps46
    go_wp2
    go_ret
    exact ⟨by simp, (Below.refl _ _).alloc (Nat.le_refl _) _⟩
  · go_enter Tryd.func46, Tryd.ntmps46
    go_wp2
    go_ret
    exact ⟨by simp, (Below.refl _ _).alloc (Nat.le_refl _) _⟩
set_option maxRecDepth 100000 in
theorem textSize_any {X : List Int} {a : Option Addr} {b o c : Nat} (hX : X.length < 16777216) (ha : Az a b o X) (w : World) (h : Bz w b o X) :
    Calls Tryd.prog 47 #[.slice a X.length c] w fun e w' => e = .returned (.int .i64 ((encX X).length : Int)) ∧ w' = w := by
  have c1 := bare_any (c := c) ha w h
  have c2 := headSize_any hX w
  have e1 : (encX X).length = if bareB X then 1 else (hdR 192 X.length).length + X.length := by
    unfold encX
    split
    · next hb =>
      unfold bareB at hb
      simp at hb
      exact hb.1
    · rw [List.length_append, hdR_same 128 192]
  have hl := hdR_len 192 X.length
  rw [e1]
  have HL : Hid (X.length < 16777216 ∧ (hdR 192 X.length).length ≤ 4) := ⟨hX, hl⟩
  clear ha h e1 hl hX
  generalize (hdR 192 X.length).length = r at *
  generalize bareB X = B at *
  generalize X.length = n at *
  cases B
  · go_enter Tryd.func47, Tryd.ntmps47
    go_wp2_with (first
      | ((with_reducible refine c1.mono ?_); rintro e1 w1 ⟨rfl, hw⟩; (rw [hw]); (clear hw w1))
      | ((with_reducible refine c2.mono ?_); rintro e1 w1 ⟨rfl, hw⟩; (rw [hw]); (clear hw w1)))
    simp [bodyPost, results, Tryd.results47, go_sem]
    have := HL.out
    unfold wrap64; omega
  · go_enter Tryd.func47, Tryd.ntmps47
    go_wp2_with (first
      | ((with_reducible refine c1.mono ?_); rintro e1 w1 ⟨rfl, hw⟩; (rw [hw]); (clear hw w1)))
    simp [bodyPost, results, Tryd.results47, go_sem]
/-- What measured answers. -/
def mV (t : Tr) : Value := if oddT t then .agg #[.bool true, .int .i64 0, .int .i64 0] else .agg #[.bool false, .int .i64 (dpT t), .int .i64 (encT t).length]
theorem len_wt : ∀ ts : List Tr, ts.length ≤ wtS ts
  | [] => Nat.zero_le _
  | .mk l X us :: ts => by
    have := len_wt ts
    rw [wtS, wtT, List.length_cons]; omega
/-- The part of measured for one item: its block holds the item, another the answer. -/
def Bx (W : World) (b : Nat) (l : Bool) (d q : Value) : Prop := W.cell? ⟨b, 0, none⟩ = some (.bool l) ∧ W.cell? ⟨b, 1, none⟩ = some d ∧ W.cell? ⟨b, 2, none⟩ = some q
theorem Bx.keep {W w1 : World} {b : Nat} {l : Bool} {d q : Value} (x : Bx W b l d q) (hb : Below W.heap.size W w1) : Bx w1 b l d q := ⟨keepC hb x.1, keepC hb x.2.1, keepC hb x.2.2⟩
set_option maxRecDepth 100000 in
set_option maxHeartbeats 4000000 in
theorem measured_odd {l : Bool} {X : List Int} {ts : List Tr} {a1 a2 : Option Addr} {c1 c2 : Nat} (h : odd1 l X ts = true) (w : World) :
    Calls Tryd.prog 30 #[.agg #[.bool l, .slice a1 X.length c1, .slice a2 ts.length c2]] w fun e w' => e = .returned (.agg #[.bool true, .int .i64 0, .int .i64 0]) ∧ Below w.heap.size w w' := by
  have C := fun w => isOdd_any (l := l) (X := X) (ts := ts) (a1 := a1) (a2 := a2) (c1 := c1) (c2 := c2) w
  rw [h] at C
  clear h
  generalize X.length = n at *
  generalize ts.length = m at *
  go_enter Tryd.func30, Tryd.ntmps30
  refine wp_seq_k fun K h => ?_
  have H : Hid _ := h
  clear h
  go_wp2_with fail
  refine H.out _ _ ?_
  clear H K
  refine wp_world (fun W => Below w.heap.size w W ∧ Bx W w.heap.size l (.slice a1 n c1) (.slice a2 m c2) ∧ Hb W (w.heap.size + 1) false 0 0 ∧ Fr3 W (w.heap.size + 1)) ⟨((Below.refl _ _).alloc (Nat.le_refl _) _).alloc (by simp) _, ⟨by simp [go_sem], by simp [go_sem], by simp [go_sem]⟩, ⟨by simp [go_sem], by simp [go_sem], by simp [go_sem]⟩, ⟨by simp [go_sem], by simp [go_sem], by simp [go_sem]⟩⟩ ?_
  rintro W ⟨B, hX, hR, hF⟩
  have hX' := hX
  obtain ⟨x0, x1, x2⟩ := hX'
  go_wp2_with ((with_reducible refine (C _).mono ?_); rintro e1 w1 ⟨rfl, hw⟩; (have B1 := B.trans (hw.mono B.size)); (obtain ⟨r0, r1, r2⟩ := hR.keep hw); (obtain ⟨z0, z1, z2⟩ := hF.keep hR.lt hw); (clear x0 x1 x2 hX))
  simp [bodyPost, results, Tryd.results30, go_sem, r0, r1, r2]
  exact ((B1.setCell (by show w.heap.size ≤ w.heap.size + 1; omega) _).setCell (by show w.heap.size ≤ w.heap.size + 1; omega) _).setCell (by show w.heap.size ≤ w.heap.size + 1; omega) _
set_option maxRecDepth 100000 in
set_option maxHeartbeats 4000000 in
theorem measured_text {X : List Int} {ts : List Tr} {a1 a2 : Option Addr} {b o c1 c2 : Nat} (h : odd1 false X ts = false) (hn : X.length < 16777216) (ha : Az a1 b o X) (w : World) (hb : Bz w b o X) :
    Calls Tryd.prog 30 #[.agg #[.bool false, .slice a1 X.length c1, .slice a2 ts.length c2]] w fun e w' => e = .returned (.agg #[.bool false, .int .i64 0, .int .i64 (encX X).length]) ∧ Below w.heap.size w w' := by
  have C := fun w => isOdd_any (l := false) (X := X) (ts := ts) (a1 := a1) (a2 := a2) (c1 := c1) (c2 := c2) w
  rw [h] at C
  have D : Hid (∀ W, Below w.heap.size w W → Calls Tryd.prog 47 #[.slice a1 X.length c1] W fun e w' => e = .returned (.int .i64 ((encX X).length : Int)) ∧ w' = W) := fun W B => textSize_any (c := c1) hn ha W (hb.keep B)
  clear h hn ha hb
  generalize (encX X).length = r at *
  generalize X.length = n at *
  generalize ts.length = m at *
  go_enter Tryd.func30, Tryd.ntmps30
  refine wp_seq_k fun K h => ?_
  have H : Hid _ := h
  clear h
  go_wp2_with fail
  refine H.out _ _ ?_
  clear H K
  refine wp_world (fun W => Below w.heap.size w W ∧ Bx W w.heap.size false (.slice a1 n c1) (.slice a2 m c2) ∧ Hb W (w.heap.size + 1) false 0 0 ∧ Fr3 W (w.heap.size + 1)) ⟨((Below.refl _ _).alloc (Nat.le_refl _) _).alloc (by simp) _, ⟨by simp [go_sem], by simp [go_sem], by simp [go_sem]⟩, ⟨by simp [go_sem], by simp [go_sem], by simp [go_sem]⟩, ⟨by simp [go_sem], by simp [go_sem], by simp [go_sem]⟩⟩ ?_
  rintro W ⟨B, hX, hR, hF⟩
  have hX' := hX
  obtain ⟨x0, x1, x2⟩ := hX'
  go_wp2_with (first
    | ((with_reducible refine (C _).mono ?_); rintro e1 w1 ⟨rfl, hw⟩; (have B1 := B.trans (hw.mono B.size)); (obtain ⟨r0, r1, r2⟩ := hR.keep hw); (obtain ⟨z0, z1, z2⟩ := hF.keep hR.lt hw); (replace x0 := keepC hw x0); (replace x1 := keepC hw x1); (clear x2 hX))
    | ((with_reducible refine (D.out _ B1).mono ?_); rintro e1 w2 ⟨rfl, rfl⟩))
  simp [bodyPost, results, Tryd.results30, go_sem, r0, r1, r2]
  exact ((B1.setCell (by show w.heap.size ≤ w.heap.size + 1; omega) _).setCell (by show w.heap.size ≤ w.heap.size + 1; omega) _).setCell (by show w.heap.size ≤ w.heap.size + 1; omega) _
end Go.Proofs.YtkbmonlbgnnjlaaDoor

/- Layer 7: measured, of any tree. -/
namespace Go.Proofs.YtkbmonlbgnnjlaaDoor
open Go.RowKit Go.Sort

theorem oddS_app : ∀ (ts us : List Tr), oddS (ts ++ us) = (oddS ts || oddS us)
  | [], us => by simp [oddS]
  | t :: ts, us => by rw [List.cons_append, oddS, oddS, oddS_app ts us, Bool.or_assoc]
theorem oddS_take {ts : List Tr} {k : Nat} (h : oddS (ts.take k) = true) : oddS ts = true := by
  have := oddS_app (ts.take k) (ts.drop k)
  rw [List.take_append_drop, h] at this
  simpa using this
theorem size_it : (Tryd.prog.info? 39).map (·.size) = some 3 := by kernel_rfl
set_option maxRecDepth 100000 in
set_option maxHeartbeats 8000000 in
theorem measured_list {X : List Int} {ts : List Tr} {a1 a2 : Option Addr} {b o c1 c2 : Nat} (h : odd1 true X ts = false) (hn : wtS ts < 4194304) (hc : ts.length ≤ c2) (ha : ts = [] ∨ a2 = some ⟨b, o, none⟩) (w : World) (hI : Its w b o ts)
    (ih : ∀ t ∈ ts, ∀ {d q : Value} (_ : wtT t < 4194304) (w : World) (_ : It w t d q), Calls Tryd.prog 30 #[itV t d q] w fun e w' => e = .returned (mV t) ∧ Below w.heap.size w w') :
    Calls Tryd.prog 30 #[.agg #[.bool true, .slice a1 X.length c1, .slice a2 ts.length c2]] w fun e w' => e = .returned (if oddS ts then .agg #[.bool true, .int .i64 0, .int .i64 0] else .agg #[.bool false, .int .i64 (dpS ts + 1 : Nat), .int .i64 ((hdR 192 (encS ts).length).length + (encS ts).length : Nat)]) ∧ Below w.heap.size w w' := by
  have C := fun w => isOdd_any (l := true) (X := X) (ts := ts) (a1 := a1) (a2 := a2) (c1 := c1) (c2 := c2) w
  rw [h] at C
  have HI : Hid (∀ W, Below w.heap.size w W → Its W b o ts) := fun W B => Its.of fun i hi => by
    obtain ⟨d, q, e1, e2⟩ := hI.at i hi
    exact ⟨d, q, rangeT_keep e1 B, It.keep B _ e2⟩
  have HN : Hid (wtS ts < 4194304 ∧ ts.length ≤ c2 ∧ (ts = [] ∨ a2 = some ⟨b, o, none⟩)) := ⟨hn, hc, ha⟩
  have IH : Hid (∀ t ∈ ts, ∀ {d q : Value} (_ : wtT t < 4194304) (w : World) (_ : It w t d q), Calls Tryd.prog 30 #[itV t d q] w fun e w' => e = .returned (mV t) ∧ Below w.heap.size w w') := ih
  have hl : (ts.length : Int) ≤ 4194304 := by have := len_wt ts; omega
  clear h hn ha hI ih hc
  obtain ⟨Z, hZ⟩ : ∃ Z : Value, (if oddS ts then .agg #[.bool true, .int .i64 0, .int .i64 0] else .agg #[.bool false, .int .i64 (dpS ts + 1 : Nat), .int .i64 ((hdR 192 (encS ts).length).length + (encS ts).length : Nat)]) = Z := ⟨_, rfl⟩
  rw [hZ]
  have HZ : Hid _ := hZ
  clear hZ
  generalize X.length = n at *
  go_enter Tryd.func30, Tryd.ntmps30
  refine wp_seq_k fun K h => ?_
  have H : Hid _ := h
  clear h
  go_wp2_with fail
  refine H.out _ _ ?_
  clear H K
  refine wp_world (fun W => Below w.heap.size w W ∧ Bx W w.heap.size true (.slice a1 n c1) (.slice a2 ts.length c2) ∧ Hb W (w.heap.size + 1) false 0 0 ∧ Fr3 W (w.heap.size + 1)) ⟨((Below.refl _ _).alloc (Nat.le_refl _) _).alloc (by simp) _, ⟨by simp [go_sem], by simp [go_sem], by simp [go_sem]⟩, ⟨by simp [go_sem], by simp [go_sem], by simp [go_sem]⟩, ⟨by simp [go_sem], by simp [go_sem], by simp [go_sem]⟩⟩ ?_
  rintro W ⟨B, hX, hR, hF⟩
  obtain ⟨x0, x1, x2⟩ := hX
  refine wp_seq_k fun K h => ?_
  have H : Hid _ := h
  clear h
  go_wp2_with ((with_reducible refine (C _).mono ?_); rintro e1 w1 ⟨rfl, hw⟩; (replace B := B.trans (hw.mono B.size)); (replace hF := hF.keep hR.lt hw); (replace hR := hR.keep hw); (replace x0 := keepC hw x0); (replace x2 := keepC hw x2); (clear x1))
  refine H.out _ _ ?_
  clear H K C hw
  refine wp_seq_k fun K h => ?_
  have H : Hid _ := h
  clear h
  go_wp2_with fail
  refine H.out _ _ ?_
  clear H K x0
  refine wp_seq_k fun K h => ?_
  have H : Hid _ := h
  clear h
  go_wp2_with fail
  refine H.out _ _ ?_
  clear H K
  refine wp_world (fun V => Below w.heap.size w V ∧ Hb V (w.heap.size + 1) false 0 0 ∧ Fr3 V (w.heap.size + 1) ∧ Hb V w1.heap.size false 0 0 ∧ Fr3 V w1.heap.size ∧ w.heap.size + 1 < w1.heap.size ∧ V.cell? ⟨w.heap.size, 2, none⟩ = some (.slice a2 ts.length c2)) ⟨B.alloc B.size _, hR.keep ((Below.refl _ _).alloc (Nat.le_refl _) _), hF.keep hR.lt ((Below.refl _ _).alloc (Nat.le_refl _) _), Hb.new, Fr3.new, hR.lt, keepC ((Below.refl _ _).alloc (Nat.le_refl _) _) x2⟩ ?_
  clear B hR hF x2
  generalize w1.heap.size = s
  clear w1 W
  rintro V ⟨B, hR, hF, hS, hG, hs, x2⟩
  have hs' : s ≠ w.heap.size + 1 := by omega
  go_wp2_with fail
  go_loopg [20] ts.length (fun k iv wr => ∃ i : Nat, k = ts.length - i ∧ i ≤ ts.length ∧ iv = .int .i64 (i : Int) ∧ oddS (ts.take i) = false ∧ Below w.heap.size w wr ∧ Hb wr (w.heap.size + 1) false 0 0 ∧ Fr3 wr (w.heap.size + 1) ∧ Hb wr s false (dpS (ts.take i)) (encS (ts.take i)).length ∧ Fr3 wr s)
  case atStart => exact ⟨0, rfl, Nat.zero_le _, rfl, by simp [oddS], B, hR, hF, by simpa [dpS, encS] using hS, hG⟩
  case round =>
    clear B hR hF hS hG x2 V
    obtain ⟨i, hk, hi, rfl, hO, B, hR, hF, hS, hG⟩ := hrel
    have HK : Hid (gk = ts.length - i ∧ i ≤ ts.length) := ⟨hk, hi⟩
    clear hk
    by_cases h8 : i = ts.length
    · subst h8
      rw [List.take_length] at hO hS
      have hE := encS_len ts
      have hD := dpS_le ts
      have h4 := hdR_len 192 (encS ts).length
      have HS : Hid (∀ w, Calls Tryd.prog 48 #[.int .i64 ((encS ts).length : Int)] w fun e w' => e = .returned (.int .i64 ((hdR 192 (encS ts).length).length : Int)) ∧ Below w.heap.size w w') := fun w => (headSize_any (by have := HN.out.1; omega) w).mono fun e w' h => ⟨h.1, by rw [h.2]; exact Below.refl _ _⟩
      have HB : Hid ((hdR 192 (encS ts).length).length ≤ 4 ∧ (encS ts).length < 16777216 ∧ dpS ts < 16777216) := ⟨h4, by have := HN.out.1; omega, by have := HN.out.1; omega⟩
      have EZ : Hid (Z = .agg #[.bool false, .int .i64 (dpS ts + 1 : Nat), .int .i64 ((hdR 192 (encS ts).length).length + (encS ts).length : Nat)]) := by
        have := HZ.out
        rw [hO] at this
        exact this.symm
      clear HZ HN IH HI HK hE hD h4 hi hl hO
      generalize (hdR 192 (encS ts).length).length = r at *
      generalize (encS ts).length = E at *
      generalize dpS ts = D at *
      generalize ts.length = m at *
      have gS1 := fun d os => (hS.keep (below_regrown wr d os)).2.1
      have gS2 := fun d os => (hS.keep (below_regrown wr d os)).2.2
      clear hG
      refine wp_seq_k fun K h => ?_
      have H : Hid _ := h
      clear h
      go_wp2_with fail
      refine H.out _ _ ?_
      clear H K
      go_wp2_with fail
      refine below_tail 10 (by kernel_rfl) (by kernel_rfl) ?_
      simp only [List.take_succ_cons, List.take_zero, List.drop_succ_cons, List.drop_zero]
      repeat
        first
          | go_big_quiet_skip
          | (go_big_quiet_want; go_big_quiet_op; go_big_quiet_on)
          | (go_big_quiet_want
             go_big_quiet_op
             apply Exists.intro
             refine ⟨fun p => ?_, ?_⟩
             · (go_at_call 48; with_reducible exact Calls.regrown_of (HS.out _))
             go_big_quiet_on)
      refine wpQuiet_nil ?_
      rintro w2 ⟨p, rfl⟩
      have hb := below_regrown wr p.d p.os
      generalize grow (redrawn wr p.d) p.os = w2 at *
      replace B := B.trans (hb.mono B.size)
      replace hF := hF.keep hR.lt hb
      replace hR := hR.keep hb
      clear hb gS1 gS2 hS
      obtain ⟨r0, r1, r2⟩ := hR
      obtain ⟨z0, z1, z2⟩ := hF
      go_wp2
      simp [bodyPost, results, Tryd.results30, go_sem, r0, r1, r2]
      have := HB.out
      refine ⟨?_, ((B.setCell (by show w.heap.size ≤ w.heap.size + 1; omega) _).setCell (by show w.heap.size ≤ w.heap.size + 1; omega) _).setCell (by show w.heap.size ≤ w.heap.size + 1; omega) _⟩
      rw [EZ.out]
      have e1 : wrap64 ((D : Int) + 1) = ((D + 1 : Nat) : Int) := by unfold wrap64; omega
      have e2 : wrap64 ((r : Int) + E) = ((r + E : Nat) : Int) := by unfold wrap64; omega
      rw [e1, e2]
    · have hlt : i < ts.length := by omega
      have hlt' : (i : Int) < (ts.length : Int) := by omega
      have ha : a2 = some ⟨b, o, none⟩ := by
        rcases HN.out.2.2 with e | e
        · rw [e] at hlt; exact absurd hlt (Nat.not_lt_zero _)
        · exact e
      subst ha
      obtain ⟨d, q, e1, e2⟩ := (HI.out wr B).at i hlt
      have hwt := wt_item hlt
      have e3 := take_snoc hlt
      have eo : oddS (ts.take (i + 1)) = oddT (ts.getD i zT) := by rw [e3, oddS_snoc, hO]; rfl
      have ed : dpS (ts.take (i + 1)) = max (dpS (ts.take i)) (dpT (ts.getD i zT)) := by rw [e3, dpS_snoc]
      have ee : (encS (ts.take (i + 1))).length = (encS (ts.take i)).length + (encT (ts.getD i zT)).length := by rw [e3, encS_app, List.length_append, encS, encS, List.append_nil]
      have hE := encS_len (ts.take i)
      have hE2 := encT_len (ts.getD i zT)
      have R1 : Hid (wr.rangeAt b (o + i * 3) [.bool (ts.getD i zT).l, d, q]) := e1
      have MC : Hid (∀ W, Below wr.heap.size wr W → Calls Tryd.prog 30 #[.agg #[.bool (ts.getD i zT).l, d, q]] W fun e w' => e = .returned (mV (ts.getD i zT)) ∧ Below W.heap.size W w') := fun W B => IH.out _ (getT_mem hlt) (by have := HN.out.1; omega) W (It.keep B _ e2)
      have dq : ∃ k1 k2 k3 k4 k5 k6, d = .slice k1 k2 k3 ∧ q = .slice k4 k5 k6 := by
        revert e2
        cases ts.getD i zT with
        | mk l' X' ts' =>
          intro e2
          rw [It] at e2
          obtain ⟨⟨k1, _, _, k3, h1, _⟩, k4, _, _, k6, h2, _⟩ := e2
          exact ⟨_, _, _, _, _, _, h1, h2⟩
      obtain ⟨k1, k2, k3, k4, k5, k6, rfl, rfl⟩ := dq
      unfold mV at MC
      have fw := fun (V : World) (BV : Below wr.heap.size wr V) => (⟨B.trans (BV.mono B.size), hR.keep BV, hF.keep hR.lt BV, hS.keep BV, hG.keep hS.lt BV⟩ : Below w.heap.size w V ∧ Hb V (w.heap.size + 1) false 0 0 ∧ Fr3 V (w.heap.size + 1) ∧ Hb V s false (dpS (ts.take i)) (encS (ts.take i)).length ∧ Fr3 V s)
      have FW : Hid _ := fw
      cases hod : oddT (ts.getD i zT) with
      | true =>
        rw [hod] at MC eo
        have MC' : Hid (∀ W, Below wr.heap.size wr W → Calls Tryd.prog 30 #[.agg #[.bool (ts.getD i zT).l, .slice k1 k2 k3, .slice k4 k5 k6]] W fun e w' => e = .returned (.agg #[.bool true, .int .i64 0, .int .i64 0]) ∧ Below W.heap.size W w') := MC
        clear MC
        have EZ : Hid (Z = .agg #[.bool true, .int .i64 0, .int .i64 0]) := by
          have := HZ.out
          have e : oddS ts = true := oddS_take eo
          rw [e] at this
          exact this.symm
        clear e1 e2 hwt e3 eo ed ee hE hE2 fw hod hS hR hF hG HZ IH HI hO
        generalize (ts.getD i zT).l = lt at *
        generalize (encS (ts.take i)).length = E at *
        generalize dpS (ts.take i) = D at *
        generalize ts.length = m at *
        refine wp_seq_k fun K h => ?_
        have H : Hid _ := h
        clear h
        go_wp2_with fail
        refine H.out _ _ ?_
        clear H K
        refine wp_seq_k fun K h => ?_
        have H : Hid _ := h
        clear h
        go_wp2_with fail
        refine H.out _ _ ?_
        clear H K
        refine wp_seq_k fun K h => ?_
        have H14 : Hid _ := h
        clear h
        refine wp_block ?_
        refine wp_seq_k fun K h => ?_
        have H : Hid _ := h
        clear h
        go_wp2_with (refine wpList_load_mid rfl _ _ rfl b (o + i * 3) rfl _ _ R1.out Tryd.underlying39 rfl size_it ?_)
        refine H.out _ _ ?_
        clear H K R1
        refine wp_world (fun V => Below wr.heap.size wr V ∧ Bx V wr.heap.size lt (.slice k1 k2 k3) (.slice k4 k5 k6)) ⟨(Below.refl _ _).alloc (Nat.le_refl _) _, ⟨by simp [go_sem], by simp [go_sem], by simp [go_sem]⟩⟩ ?_
        rintro V ⟨BV, x0, x1, x2⟩
        refine wp_seq_k fun K h => ?_
        have H : Hid _ := h
        clear h
        go_wp2_with ((with_reducible refine (MC'.out _ BV).mono ?_); rintro e1 w2 ⟨rfl, hw⟩)
        refine H.out _ _ ?_
        clear H K
        replace BV := BV.trans (hw.mono BV.size)
        clear hw x0 x1 x2
        refine wp_world (fun U => Below wr.heap.size wr U ∧ Hb U w2.heap.size true 0 0) ⟨BV.alloc BV.size _, Hb.new⟩ ?_
        clear BV
        generalize w2.heap.size = v
        clear V w2
        rintro V ⟨BV, hV⟩
        obtain ⟨B2, hR, hF, hS, hG⟩ := FW.out V BV
        obtain ⟨v0, v1, v2⟩ := hV
        obtain ⟨r0, r1, r2⟩ := hR
        obtain ⟨z0, z1, z2⟩ := hF
        clear v1 v2 hS hG H14
        go_wp2
        simp [bodyPost, results, Tryd.results30, go_sem, r0, r1, r2]
        exact ⟨EZ.out.symm, ((B2.setCell (by show w.heap.size ≤ w.heap.size + 1; omega) _).setCell (by show w.heap.size ≤ w.heap.size + 1; omega) _).setCell (by show w.heap.size ≤ w.heap.size + 1; omega) _⟩
      | false =>
        rw [hod] at MC eo
        have MC' : Hid (∀ W, Below wr.heap.size wr W → Calls Tryd.prog 30 #[.agg #[.bool (ts.getD i zT).l, .slice k1 k2 k3, .slice k4 k5 k6]] W fun e w' => e = .returned (.agg #[.bool false, .int .i64 (dpT (ts.getD i zT)), .int .i64 (encT (ts.getD i zT)).length]) ∧ Below W.heap.size W w') := MC
        clear MC
        have NX : Hid (oddS (ts.take (i + 1)) = false ∧ dpS (ts.take (i + 1)) = max (dpS (ts.take i)) (dpT (ts.getD i zT)) ∧ (encS (ts.take (i + 1))).length = (encS (ts.take i)).length + (encT (ts.getD i zT)).length ∧ (encS (ts.take i)).length + (encT (ts.getD i zT)).length < 16777216) := ⟨eo, ed, ee, by have := HN.out.1; omega⟩
        have HP : Hid (Below w.heap.size w wr) := B
        clear e1 e2 hwt e3 eo ed ee hE hE2 fw hod hS hR hF hG IH HI hO B
        generalize (ts.getD i zT).l = lt at *
        generalize (encS (ts.take i)).length = E at *
        generalize dpS (ts.take i) = D at *
        generalize (encT (ts.getD i zT)).length = E1 at *
        generalize dpT (ts.getD i zT) = D1 at *
        refine wp_seq_k fun K h => ?_
        have H : Hid _ := h
        clear h
        go_wp2_with fail
        refine H.out _ _ ?_
        clear H K
        refine wp_seq_k fun K h => ?_
        have H : Hid _ := h
        clear h
        go_wp2_with fail
        refine H.out _ _ ?_
        clear H K
        refine wp_seq_k fun K h => ?_
        have H14 : Hid _ := h
        clear h
        refine wp_block ?_
        refine wp_seq_k fun K h => ?_
        have H : Hid _ := h
        clear h
        go_wp2_with (refine wpList_load_mid rfl _ _ rfl b (o + i * 3) rfl _ _ R1.out Tryd.underlying39 rfl size_it ?_)
        refine H.out _ _ ?_
        clear H K R1
        refine wp_world (fun V => Below wr.heap.size wr V ∧ Bx V wr.heap.size lt (.slice k1 k2 k3) (.slice k4 k5 k6)) ⟨(Below.refl _ _).alloc (Nat.le_refl _) _, ⟨by simp [go_sem], by simp [go_sem], by simp [go_sem]⟩⟩ ?_
        rintro V ⟨BV, x0, x1, x2⟩
        refine wp_seq_k fun K h => ?_
        have H : Hid _ := h
        clear h
        go_wp2_with ((with_reducible refine (MC'.out _ BV).mono ?_); rintro e1 w2 ⟨rfl, hw⟩)
        refine H.out _ _ ?_
        clear H K
        replace BV := BV.trans (hw.mono BV.size)
        clear hw x0 x1 x2
        refine wp_world (fun U => Below wr.heap.size wr U ∧ Hb U w2.heap.size false D1 E1 ∧ wr.heap.size ≤ w2.heap.size) ⟨BV.alloc BV.size _, Hb.new, BV.size⟩ ?_
        clear BV
        generalize w2.heap.size = v
        clear V w2
        rintro V ⟨BV, hV, hv⟩
        obtain ⟨B2, hR, hF, hS, hG⟩ := FW.out V BV
        obtain ⟨v0, v1, v2⟩ := hV
        have hsw : w.heap.size ≤ s := by omega
        have hS' := hS
        have hG' := hG
        obtain ⟨s0, s1, s2⟩ := hS'
        obtain ⟨g0, g1, g2⟩ := hG'
        go_wp2_with fail
        refine H14.out _ _ ?_
        have eE : wrap64 ((E : Int) + E1) = ((E + E1 : Nat) : Int) := by have := NX.out.2.2.2; unfold wrap64; omega
        have eD : max (D : Int) (D1 : Int) = ((max D D1 : Nat) : Int) := by omega
        rw [eE, eD]
        refine wp_world (fun U => Below w.heap.size w U ∧ Hb U (w.heap.size + 1) false 0 0 ∧ Fr3 U (w.heap.size + 1) ∧ Hb U s false (max D D1 : Nat) (E + E1 : Nat) ∧ Fr3 U s) ⟨(B2.setCell hsw _).setCell hsw _, (hR.other hs' _).other hs' _, (hF.set _ _).set _ _, (hS.size _).held _, (hG.set _ _).set _ _⟩ ?_
        clear B2 hR hF hS hG s0 s1 s2 g0 g1 g2 eE eD H14 v0 v1 v2 hv BV
        rintro U ⟨B2, hR, hF, hS, hG⟩
        clear V
        go_wp2_with fail
        go_roundg (ts.length - (i + 1))
        case measure => have := HK.out.1; omega
        case rel => exact ⟨i + 1, rfl, hlt, by go_num, NX.out.1, B2, hR, hF, by rw [NX.out.2.1, NX.out.2.2.1]; exact hS, hG⟩
/-- The program's measured, of any tree. -/
theorem measured_any : ∀ (t : Tr) {d q : Value} (_ : wtT t < 4194304) (w : World) (_ : It w t d q),
    Calls Tryd.prog 30 #[itV t d q] w fun e w' => e = .returned (mV t) ∧ Below w.heap.size w w' := by
  refine Tr.ind fun l X ts ih d q hw w h => ?_
  rw [It] at h
  obtain ⟨⟨a, b, o, c, rfl, h2, h3, h4⟩, a', b', o', c', rfl, k2, k3, k4⟩ := h
  rw [wtT] at hw
  show Calls Tryd.prog 30 #[.agg #[.bool l, .slice a X.length c, .slice a' ts.length c']] w _
  unfold mV
  rw [oddT]
  cases ho : odd1 l X ts with
  | true => exact measured_odd ho w
  | false =>
    rw [Bool.false_or, dpT, encT]
    cases l with
    | true =>
      have := measured_list (a1 := a) (c1 := c) ho (by omega) k2.1 k3 w k4 ih
      refine this.mono fun e w' h => ⟨?_, h.2⟩
      rw [h.1, ← List.length_append]
      rfl
    | false =>
      have e : ts = [] := by
        unfold odd1 at ho
        simp at ho
        exact List.eq_nil_of_length_eq_zero (by simpa using ho)
      have := measured_text (a2 := a') (c1 := c) (c2 := c') ho (by omega) h3 w h4
      refine this.mono fun e' w' h => ⟨?_, h.2⟩
      rw [h.1, e, oddS]
      rfl
end Go.Proofs.YtkbmonlbgnnjlaaDoor

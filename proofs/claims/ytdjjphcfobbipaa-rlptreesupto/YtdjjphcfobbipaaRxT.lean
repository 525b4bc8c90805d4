import Derived.Test.YtdjjphcfobbipaaRxS
import Derived.Test.YtdjjphcfobbipaaRsA
import Derived.Test.YtdjjphcfobbipaaDivAny
/- Layer 7: the statement's stays, items. -/
namespace Go.Proofs.Ytdjjphcfobbipaa
open Go.RowKit Go.Sort
theorem Its.tree {W : World} {a : Option Addr} {b o c : Nat} {ts : List Tr} (l : Bool) (h : Its W b o ts) (hc : ts.length ≤ c ∧ (a = none → c = 0)) (ha : ts = [] ∨ a = some ⟨b, o, none⟩) : It W (.mk l [] ts) (.slice none 0 0) (.slice a ts.length c) := by
  rw [It]
  exact ⟨⟨none, 0, 0, 0, rfl, ⟨Nat.le_refl _, fun _ => rfl⟩, .inl rfl, fun i hi => absurd hi (Nat.not_lt_zero _)⟩, a, b, o, c, rfl, hc, ha, h⟩
set_option maxRecDepth 100000 in
set_option maxHeartbeats 4000000 in
/-- The statement's items: of the same items in two places. -/
theorem items_yes {ts : List Tr} {a a' : Option Addr} {b o c b' o' c' : Nat} (hw : wtS ts < 4194300) (w : World) (h : Its w b o ts) (hc : ts.length ≤ c ∧ (a = none → c = 0)) (ha : ts = [] ∨ a = some ⟨b, o, none⟩) (h' : Its w b' o' ts) (hc' : ts.length ≤ c' ∧ (a' = none → c' = 0)) (ha' : ts = [] ∨ a' = some ⟨b', o', none⟩) :
    Calls Try.prog 20 #[.slice a ts.length c, .slice a' ts.length c'] w fun e w' => e = .returned (.bool true) ∧ Below w.heap.size w w' := by
  have S : Hid (Calls Try.prog 9 #[.agg #[.bool true, .slice none 0 0, .slice a ts.length c], .agg #[.bool true, .slice none 0 0, .slice a' ts.length c']] w fun e w' => e = .returned (.bool true) ∧ Below w.heap.size w w') := rSame_yes (.mk true [] ts) (by rw [wtT]; simp; omega) w (h.tree true hc ha) (h'.tree true hc' ha')
  clear h hc ha h' hc' ha' hw
  generalize ts.length = n at *
  go_enter Try.func20, Try.ntmps20
  go_wp2_with ((with_reducible refine S.out.mono ?_); rintro e1 w1 ⟨rfl, hw⟩)
  simp [bodyPost, results, Try.results20, go_sem]
  exact hw
set_option maxRecDepth 100000 in
set_option maxHeartbeats 4000000 in
/-- The statement's stays. -/
theorem stays_yes {t : Tr} {d q d' q' : Value} (hw : wtT t < 4194304) (w : World) (h : Rm w t d q) (h' : It w t d' q') :
    Calls Try.prog 33 #[itV t d q, itV t d' q'] w fun e w' => e = .returned (.bool true) ∧ Below w.heap.size w w' := by
  have hpt := wt_parts t
  have hln := len_wt t.ts
  obtain ⟨h1, ⟨gr, rfl, hbr⟩, g, c, gm, rfl, hc, hmk, hbm⟩ := h
  have SM : Hid (∀ W, Below w.heap.size w W → Calls Try.prog 9 #[.agg #[.bool t.l, .slice (some ⟨gr, 0, none⟩) t.X.length (t.X.length + 9), .slice (some ⟨g, 0, none⟩) t.ts.length c], .agg #[.bool t.l, d', q']] W fun e w' => e = .returned (.bool true) ∧ Below W.heap.size W w') := fun W B => rSame_yes t hw W (It.keep B t h1) (It.keep B t h')
  have SP : Hid (∀ W, Below w.heap.size w W → Calls Try.prog 19 #[.slice (some ⟨gr, 0, none⟩) t.X.length (t.X.length + 9)] W fun e w' => e = .returned (.bool true) ∧ Below W.heap.size W w') := fun W B => spared7_yes (by omega) (Nat.le_refl _) W fun i k1 k2 => by
    have := (hbr.keep B) i (by rw [List.length_append, List.length_replicate]; omega)
    rw [this, List.getD, List.getElem?_append_right k1, List.getElem?_replicate, if_pos (by omega)]; rfl
  have SA : Hid (∀ W, Below w.heap.size w W → Calls Try.prog 18 #[.slice (some ⟨gm, 0, none⟩) 1 1, .slice (some ⟨W.heap.size, 0, none⟩) 1 1] (W.alloc (.cells #[.int .u8 164] 5)) fun e w' => e = .returned (.bool true) ∧ Below W.heap.size W w') := fun W B => by
    have k := same7_any (X := [164]) (Z := [164]) (c := 1) (c' := 1) (by decide) (.inr rfl) (.inr rfl) (W.alloc (.cells #[.int .u8 164] 5)) ((hbm.keep B).keep ((Below.refl _ _).alloc (Nat.le_refl _) _)) (bz_oneT W 164 _)
    rw [decide_eq_true rfl] at k
    exact k.mono fun e w' h => ⟨h.1, ((Below.refl _ _).alloc (Nat.le_refl _) _).trans (h.2.mono (by simp))⟩
  have MK : Hid (∀ W, Below w.heap.size w W → W.rangeAt g (t.ts.length * 3) [.bool false, .slice (some ⟨gm, 0, none⟩) 1 1, .slice none 0 0]) := fun W B => rangeT_keep hmk B
  have e' : ∃ a1 c1 a2 c2, d' = .slice a1 t.X.length c1 ∧ q' = .slice a2 t.ts.length c2 := by
    obtain ⟨a1, _, _, c1, a2, _, _, c2, e1, _, _, _, e2, _⟩ := h'.open
    exact ⟨a1, c1, a2, c2, e1, e2⟩
  obtain ⟨a1, c1, a2, c2, rfl, rfl⟩ := e'
  have n1 : (t.ts.length : Int) ≤ 4194304 := by omega
  have n2 : (t.ts.length : Int) + 1 ≤ (c : Int) := by omega
  have n3 : t.ts.length + 1 ≤ c := hc
  unfold itV
  clear h1 h' hbr hmk hbm hw hpt hln hc
  generalize t.l = lt at *
  generalize t.ts.length = n at *
  generalize t.X.length = XL at *
  clear t
  go_enter Try.func33, Try.ntmps33
  refine wp_seq_k fun K h => ?_
  have H : Hid _ := h
  clear h
  go_wp2_with fail
  refine H.out _ _ ?_
  clear H K
  refine wp_world (fun W => Below w.heap.size w W ∧ Bx W w.heap.size lt (.slice (some ⟨gr, 0, none⟩) XL (XL + 9)) (.slice (some ⟨g, 0, none⟩) n c) ∧ Bx W (w.heap.size + 1) lt (.slice a1 XL c1) (.slice a2 n c2)) ⟨((Below.refl _ _).alloc (Nat.le_refl _) _).alloc (by simp) _, ⟨by simp [go_sem], by simp [go_sem], by simp [go_sem]⟩, ⟨by simp [go_sem], by simp [go_sem], by simp [go_sem]⟩⟩ ?_
  rintro W ⟨B, hX, hY⟩
  have hX' := hX
  have hY' := hY
  obtain ⟨x0, x1, x2⟩ := hX'
  obtain ⟨y0, y1, y2⟩ := hY'
  refine wp_seq_k fun K h => ?_
  have H : Hid _ := h
  clear h
  go_wp2_with (first
    | (go_at_call 9; (with_reducible refine (SM.out _ B).mono ?_); rintro e1 w1 ⟨rfl, hw1⟩; (have B1 := B.trans (hw1.mono B.size)); (have hX1 := hX.keep hw1); (have hY1 := hY.keep hw1); (obtain ⟨u0, u1, u2⟩ := hX1); (clear x0 x1 x2 y0 y1 y2))
    | (go_at_call 19; (with_reducible refine (SP.out _ B1).mono ?_); rintro e2 w2 ⟨rfl, hw2⟩))
  refine H.out _ _ ?_
  clear H K SM SP
  have B2 := B1.trans (hw2.mono B1.size)
  have hX2 := (hX.keep hw1).keep hw2
  have hY2 := hY1.keep hw2
  clear B B1 hX hY hY1 hw1 hw2 u0 u1 u2
  obtain ⟨x0, x1, x2⟩ := hX2
  obtain ⟨y0, y1, y2⟩ := hY2
  have R2 := MK.out w2 B2
  refine wp_seq_k fun K h => ?_
  have H : Hid _ := h
  clear h
  go_wp2_with fail
  refine H.out _ _ ?_
  clear H K
  refine wp_seq_k fun K h => ?_
  have H : Hid _ := h
  clear h
  go_wp2_with (refine wpList_load_mid rfl _ _ rfl g (n * 3) rfl _ _ R2 Try.underlying29 rfl size_it ?_)
  refine H.out _ _ ?_
  clear H K
  refine wp_world (fun V => Below w.heap.size w V ∧ Bx V w2.heap.size false (.slice (some ⟨gm, 0, none⟩) 1 1) (.slice none 0 0)) ⟨B2.alloc B2.size _, Bx.new⟩ ?_
  clear B2 R2 x0 x1 x2 y0 y1 y2
  generalize w2.heap.size = b6
  clear w2
  rintro V ⟨B, x0, x1, x2⟩
  go_wp2_with (go_at_call 18; (with_reducible refine (SA.out _ B).mono ?_); rintro e2 w3 ⟨rfl, hw3⟩)
  simp [bodyPost, results, Try.results33, go_sem]
  exact B.trans (hw3.mono B.size)
end Go.Proofs.Ytdjjphcfobbipaa

/- Layer 7: what is read of an item. -/
namespace Go.Proofs.Ytdjjphcfobbipaa
open Go.RowKit Go.Sort
/-- The error of an item that is to be a list, or a text. -/
def wantE (l : Bool) (X : List Int) (ts : List Tr) (k : Bool) : Int := if odd1 l X ts then 78 else if l = k then 0 else 75
def wantL (l : Bool) (X : List Int) (ts : List Tr) : List Int := if wantE l X ts false = 0 then X else []
def fixE (l : Bool) (X : List Int) (ts : List Tr) (n : Int) : Int := if n < 0 then 1 else if wantE l X ts false ≠ 0 then wantE l X ts false else if (X.length : Int) = n then 0 else 77
def fixL (l : Bool) (X : List Int) (ts : List Tr) (n : Int) : List Int := if fixE l X ts n = 0 then X else []
def numE (l : Bool) (X : List Int) (ts : List Tr) (m : Nat) : Int := if wantE l X ts false ≠ 0 then wantE l X ts false else if m < X.length then 77 else if X ≠ [] ∧ X.getD 0 0 = 0 then 76 else 0
def numV (l : Bool) (X : List Int) (ts : List Tr) (m : Nat) : Int := if numE l X ts m = 0 then sufN X X.length else 0
def listS (l : Bool) (X : List Int) (ts : List Tr) : List Tr := if wantE l X ts true = 0 then ts else []
set_option maxRecDepth 100000 in
set_option maxHeartbeats 4000000 in
theorem checkKind_any {l k : Bool} {X : List Int} {ts : List Tr} {a1 a2 : Option Addr} {c1 c2 : Nat} (w : World) :
    Calls Try.prog 48 #[.agg #[.bool l, .slice a1 X.length c1, .slice a2 ts.length c2], .bool k] w fun e w' => e = .returned (.int .i64 (wantE l X ts k)) ∧ Below w.heap.size w w' := by
  have C : Hid (∀ w, Calls Try.prog 62 #[.agg #[.bool l, .slice a1 X.length c1, .slice a2 ts.length c2]] w fun e w' => e = .returned (.bool (odd1 l X ts)) ∧ Below w.heap.size w w') := fun w => isOdd_any w
  unfold wantE
  generalize odd1 l X ts = od at *
  generalize X.length = n at *
  generalize ts.length = m at *
  have hb : ∀ od' : Bool, od' = od → ∀ lk : Bool, (l != k) = lk → (if od = true then (78 : Int) else if l = k then 0 else 75) = (if od' then 78 else if lk then 75 else 0) := fun od' h1 lk h2 => by subst h1; cases l <;> cases k <;> subst h2 <;> rfl
  obtain ⟨lk, hlk⟩ : ∃ lk, (l != k) = lk := ⟨_, rfl⟩
  rw [hb od rfl lk hlk]
  clear hb
  have hk : lk = false → l = k := fun e => by subst e; simpa using hlk
  cases od <;> cases lk
  all_goals simp only [Bool.false_eq_true, if_false, if_true]
  all_goals (
    first
      | (obtain rfl := hk rfl
         clear hk)
      | (have hlk2 : (l == k) = false := by simpa using hlk
         clear hk hlk)
    go_enter Try.func48, Try.ntmps48
    go_wp2_with ((with_reducible refine (C.out _).mono ?_); rintro e1 w1 ⟨rfl, hw⟩; (have B1 : Below w.heap.size w w1 := ((Below.refl w.heap.size w).alloc (Nat.le_refl _) _).trans (hw.mono (by simp))); (obtain ⟨x0, x1, x2⟩ : Bx w1 w.heap.size l (.slice a1 n c1) (.slice a2 m c2) := Bx.keep ⟨by simp [go_sem], by simp [go_sem], by simp [go_sem]⟩ hw))
    simp [bodyPost, results, Try.results48, go_sem]
    exact B1)
set_option maxRecDepth 100000 in
set_option maxHeartbeats 4000000 in
theorem rwanted_any {l k : Bool} {X : List Int} {ts : List Tr} {a1 a2 : Option Addr} {c1 c2 : Nat} (w : World) :
    Calls Try.prog 49 #[.agg #[.bool l, .slice a1 X.length c1, .slice a2 ts.length c2], .bool k] w fun e w' => e = .returned (.int .i64 (wantE l X ts k)) ∧ Below w.heap.size w w' := by
  have C : Hid (∀ w, Calls Try.prog 63 #[.agg #[.bool l, .slice a1 X.length c1, .slice a2 ts.length c2]] w fun e w' => e = .returned (.bool (odd1 l X ts)) ∧ Below w.heap.size w w') := fun w => rodd_any w
  unfold wantE
  generalize odd1 l X ts = od at *
  generalize X.length = n at *
  generalize ts.length = m at *
  have hb : ∀ od' : Bool, od' = od → ∀ lk : Bool, (l != k) = lk → (if od = true then (78 : Int) else if l = k then 0 else 75) = (if od' then 78 else if lk then 75 else 0) := fun od' h1 lk h2 => by subst h1; cases l <;> cases k <;> subst h2 <;> rfl
  obtain ⟨lk, hlk⟩ : ∃ lk, (l != k) = lk := ⟨_, rfl⟩
  rw [hb od rfl lk hlk]
  clear hb
  have hk : lk = false → l = k := fun e => by subst e; simpa using hlk
  cases od <;> cases lk
  all_goals simp only [Bool.false_eq_true, if_false, if_true]
  all_goals (
    first
      | (obtain rfl := hk rfl
         clear hk)
      | (have hlk2 : (l == k) = false := by simpa using hlk
         clear hk hlk)
    go_enter Try.func49, Try.ntmps49
    go_wp2_with ((with_reducible refine (C.out _).mono ?_); rintro e1 w1 ⟨rfl, hw⟩; (have B1 : Below w.heap.size w w1 := ((Below.refl w.heap.size w).alloc (Nat.le_refl _) _).trans (hw.mono (by simp))); (obtain ⟨x0, x1, x2⟩ : Bx w1 w.heap.size l (.slice a1 n c1) (.slice a2 m c2) := Bx.keep ⟨by simp [go_sem], by simp [go_sem], by simp [go_sem]⟩ hw))
    simp [bodyPost, results, Try.results49, go_sem]
    exact B1)
set_option maxRecDepth 100000 in
set_option maxHeartbeats 4000000 in
theorem getText_any {l : Bool} {X : List Int} {ts : List Tr} {a1 a2 : Option Addr} {b o c1 c2 : Nat} (hl : X.length < 16777216) (ha : Az a1 b o X) (w : World) (hz : Bz w b o X) :
    Calls Try.prog 22 #[.agg #[.bool l, .slice a1 X.length c1, .slice a2 ts.length c2]] w fun e w' => ∃ v, e = .returned (.tuple #[v, .int .i64 (wantE l X ts false)]) ∧ OwnB w.heap.size w' v (wantL l X ts) ∧ Below w.heap.size w w' := by
  have C : Hid (∀ w, Calls Try.prog 48 #[.agg #[.bool l, .slice a1 X.length c1, .slice a2 ts.length c2], .bool false] w fun e w' => e = .returned (.int .i64 (wantE l X ts false)) ∧ Below w.heap.size w w') := fun w => checkKind_any w
  have D : Hid (∀ W, Below w.heap.size w W → Calls Try.prog 41 #[.slice a1 X.length c1] W fun e w' => ∃ v, e = .returned v ∧ OwnB W.heap.size w' v X ∧ Below W.heap.size W w') := fun W B => bclone_all rfl (by omega) ha W (hz.keep B)
  unfold wantL
  generalize wantE l X ts false = E at *
  clear hl ha hz
  generalize hX : X.length = n at *
  generalize ts.length = m at *
  by_cases hE : E = 0
  · subst hE
    rw [if_pos rfl]
    go_enter Try.func22, Try.ntmps22
    go_wp2_with (first
      | ((with_reducible refine (C.out _).mono ?_); rintro e1 w1 ⟨rfl, hw⟩; (have B1 : Below w.heap.size w w1 := ((Below.refl w.heap.size w).alloc (Nat.le_refl _) _).trans (hw.mono (by simp))); (obtain ⟨x0, x1, x2⟩ : Bx w1 w.heap.size l (.slice a1 n c1) (.slice a2 m c2) := Bx.keep ⟨by simp [go_sem], by simp [go_sem], by simp [go_sem]⟩ hw))
      | ((with_reducible refine (D.out _ B1).mono ?_); rintro e2 w2 ⟨v, rfl, o2, hw2⟩))
    simp [bodyPost, results, Try.results22, go_sem]
    exact ⟨o2.base B1.size, B1.trans (hw2.mono B1.size)⟩
  · rw [if_neg hE]
    have he : (E == 0) = false := by simpa using hE
    go_enter Try.func22, Try.ntmps22
    go_wp2_with ((with_reducible refine (C.out _).mono ?_); rintro e1 w1 ⟨rfl, hw⟩; (have B1 : Below w.heap.size w w1 := ((Below.refl w.heap.size w).alloc (Nat.le_refl _) _).trans (hw.mono (by simp))); (obtain ⟨x0, x1, x2⟩ : Bx w1 w.heap.size l (.slice a1 n c1) (.slice a2 m c2) := Bx.keep ⟨by simp [go_sem], by simp [go_sem], by simp [go_sem]⟩ hw))
    simp [bodyPost, results, Try.results22, go_sem]
    exact ⟨OwnB.nil _ _, B1⟩
set_option maxRecDepth 100000 in
set_option maxHeartbeats 4000000 in
theorem rGetText_any {l : Bool} {X : List Int} {ts : List Tr} {a1 a2 : Option Addr} {b o c1 c2 : Nat} (hl : X.length < 16777216) (ha : Az a1 b o X) (hnc : a1 = none → c1 = 0) (w : World) (hz : Bz w b o X) :
    Calls Try.prog 23 #[.agg #[.bool l, .slice a1 X.length c1, .slice a2 ts.length c2]] w fun e w' => ∃ v, e = .returned (.tuple #[v, .int .i64 (wantE l X ts false)]) ∧ OwnB w.heap.size w' v (wantL l X ts) ∧ Below w.heap.size w w' := by
  have C : Hid (∀ w, Calls Try.prog 49 #[.agg #[.bool l, .slice a1 X.length c1, .slice a2 ts.length c2], .bool false] w fun e w' => e = .returned (.int .i64 (wantE l X ts false)) ∧ Below w.heap.size w w') := fun w => rwanted_any w
  have D : Hid (∀ W, Below w.heap.size w W → Calls Try.prog 40 #[.slice a1 X.length c1] W fun e w' => ∃ v, e = .returned v ∧ OwnB W.heap.size w' v X ∧ Below W.heap.size W w') := fun W B => r7bytes_any rfl (by omega) ha hnc W (hz.keep B)
  unfold wantL
  generalize wantE l X ts false = E at *
  clear hl ha hz hnc
  generalize hX : X.length = n at *
  generalize ts.length = m at *
  by_cases hE : E = 0
  · subst hE
    rw [if_pos rfl]
    go_enter Try.func23, Try.ntmps23
    go_wp2_with (first
      | ((with_reducible refine (C.out _).mono ?_); rintro e1 w1 ⟨rfl, hw⟩; (have B1 : Below w.heap.size w w1 := ((Below.refl w.heap.size w).alloc (Nat.le_refl _) _).trans (hw.mono (by simp))); (obtain ⟨x0, x1, x2⟩ : Bx w1 w.heap.size l (.slice a1 n c1) (.slice a2 m c2) := Bx.keep ⟨by simp [go_sem], by simp [go_sem], by simp [go_sem]⟩ hw))
      | ((with_reducible refine (D.out _ B1).mono ?_); rintro e2 w2 ⟨v, rfl, o2, hw2⟩))
    simp [bodyPost, results, Try.results23, go_sem]
    exact ⟨o2.base B1.size, B1.trans (hw2.mono B1.size)⟩
  · rw [if_neg hE]
    have he : (E == 0) = false := by simpa using hE
    go_enter Try.func23, Try.ntmps23
    go_wp2_with ((with_reducible refine (C.out _).mono ?_); rintro e1 w1 ⟨rfl, hw⟩; (have B1 : Below w.heap.size w w1 := ((Below.refl w.heap.size w).alloc (Nat.le_refl _) _).trans (hw.mono (by simp))); (obtain ⟨x0, x1, x2⟩ : Bx w1 w.heap.size l (.slice a1 n c1) (.slice a2 m c2) := Bx.keep ⟨by simp [go_sem], by simp [go_sem], by simp [go_sem]⟩ hw))
    simp [bodyPost, results, Try.results23, go_sem]
    exact ⟨OwnB.nil _ _, B1⟩
set_option maxRecDepth 100000 in
set_option maxHeartbeats 4000000 in
theorem getList_any {l : Bool} {X : List Int} {ts : List Tr} {a1 a2 : Option Addr} {b o c1 c2 : Nat} (hl : wtS ts < 4194304) (ha : ts = [] ∨ a2 = some ⟨b, o, none⟩) (w : World) (hz : Its w b o ts) :
    Calls Try.prog 31 #[.agg #[.bool l, .slice a1 X.length c1, .slice a2 ts.length c2]] w fun e w' => ∃ v ps, e = .returned (.tuple #[v, .int .i64 (wantE l X ts true)]) ∧ Oe w.heap.size w' v (listS l X ts) ps ∧ Below w.heap.size w w' := by
  have C : Hid (∀ w, Calls Try.prog 48 #[.agg #[.bool l, .slice a1 X.length c1, .slice a2 ts.length c2], .bool true] w fun e w' => e = .returned (.int .i64 (wantE l X ts true)) ∧ Below w.heap.size w w') := fun w => checkKind_any w
  have D : Hid (∀ W, Below w.heap.size w W → Calls Try.prog 46 #[.slice a2 ts.length c2] W fun e w' => ∃ v ps, e = .returned v ∧ Oe W.heap.size w' v ts ps ∧ Below W.heap.size W w') := fun W B => copies_any (.mk l X ts) (by exact hl) ha W (hz.keep B)
  unfold listS
  generalize wantE l X ts true = E at *
  clear hl ha hz
  generalize X.length = n at *
  generalize ts.length = m at *
  by_cases hE : E = 0
  · subst hE
    rw [if_pos rfl]
    go_enter Try.func31, Try.ntmps31
    go_wp2_with (first
      | ((with_reducible refine (C.out _).mono ?_); rintro e1 w1 ⟨rfl, hw⟩; (have B1 : Below w.heap.size w w1 := ((Below.refl w.heap.size w).alloc (Nat.le_refl _) _).trans (hw.mono (by simp))); (obtain ⟨x0, x1, x2⟩ : Bx w1 w.heap.size l (.slice a1 n c1) (.slice a2 m c2) := Bx.keep ⟨by simp [go_sem], by simp [go_sem], by simp [go_sem]⟩ hw))
      | ((with_reducible refine (D.out _ B1).mono ?_); rintro e2 w2 ⟨v, ps, rfl, o2, hw2⟩))
    simp [bodyPost, results, Try.results31, go_sem]
    exact ⟨o2.row.oe fun k _ hk => Nat.le_trans B1.size hk, B1.trans (hw2.mono B1.size)⟩
  · rw [if_neg hE]
    have he : (E == 0) = false := by simpa using hE
    go_enter Try.func31, Try.ntmps31
    go_wp2_with ((with_reducible refine (C.out _).mono ?_); rintro e1 w1 ⟨rfl, hw⟩; (have B1 : Below w.heap.size w w1 := ((Below.refl w.heap.size w).alloc (Nat.le_refl _) _).trans (hw.mono (by simp))); (obtain ⟨x0, x1, x2⟩ : Bx w1 w.heap.size l (.slice a1 n c1) (.slice a2 m c2) := Bx.keep ⟨by simp [go_sem], by simp [go_sem], by simp [go_sem]⟩ hw))
    simp [bodyPost, results, Try.results31, go_sem]
    exact ⟨⟨[], Oe.nil _ _⟩, B1⟩
set_option maxRecDepth 100000 in
set_option maxHeartbeats 4000000 in
theorem rGetList_any {l : Bool} {X : List Int} {ts : List Tr} {a1 a2 : Option Addr} {b o c1 c2 : Nat} (hl : wtS ts < 4194304) (ha : ts = [] ∨ a2 = some ⟨b, o, none⟩) (w : World) (hz : Its w b o ts) :
    Calls Try.prog 32 #[.agg #[.bool l, .slice a1 X.length c1, .slice a2 ts.length c2]] w fun e w' => ∃ v ps, e = .returned (.tuple #[v, .int .i64 (wantE l X ts true)]) ∧ Oe w.heap.size w' v (listS l X ts) ps ∧ Below w.heap.size w w' := by
  have C : Hid (∀ w, Calls Try.prog 49 #[.agg #[.bool l, .slice a1 X.length c1, .slice a2 ts.length c2], .bool true] w fun e w' => e = .returned (.int .i64 (wantE l X ts true)) ∧ Below w.heap.size w w') := fun w => rwanted_any w
  have D : Hid (∀ W, Below w.heap.size w W → Calls Try.prog 8 #[.slice a2 ts.length c2] W fun e w' => ∃ v ps, e = .returned v ∧ Oe W.heap.size w' v ts ps ∧ Below W.heap.size W w') := fun W B => rCopy_any (.mk l X ts) (by exact hl) ha W (hz.keep B)
  unfold listS
  generalize wantE l X ts true = E at *
  clear hl ha hz
  generalize X.length = n at *
  generalize ts.length = m at *
  by_cases hE : E = 0
  · subst hE
    rw [if_pos rfl]
    go_enter Try.func32, Try.ntmps32
    go_wp2_with (first
      | ((with_reducible refine (C.out _).mono ?_); rintro e1 w1 ⟨rfl, hw⟩; (have B1 : Below w.heap.size w w1 := ((Below.refl w.heap.size w).alloc (Nat.le_refl _) _).trans (hw.mono (by simp))); (obtain ⟨x0, x1, x2⟩ : Bx w1 w.heap.size l (.slice a1 n c1) (.slice a2 m c2) := Bx.keep ⟨by simp [go_sem], by simp [go_sem], by simp [go_sem]⟩ hw))
      | ((with_reducible refine (D.out _ B1).mono ?_); rintro e2 w2 ⟨v, ps, rfl, o2, hw2⟩))
    simp [bodyPost, results, Try.results32, go_sem]
    exact ⟨o2.row.oe fun k _ hk => Nat.le_trans B1.size hk, B1.trans (hw2.mono B1.size)⟩
  · rw [if_neg hE]
    have he : (E == 0) = false := by simpa using hE
    go_enter Try.func32, Try.ntmps32
    go_wp2_with ((with_reducible refine (C.out _).mono ?_); rintro e1 w1 ⟨rfl, hw⟩; (have B1 : Below w.heap.size w w1 := ((Below.refl w.heap.size w).alloc (Nat.le_refl _) _).trans (hw.mono (by simp))); (obtain ⟨x0, x1, x2⟩ : Bx w1 w.heap.size l (.slice a1 n c1) (.slice a2 m c2) := Bx.keep ⟨by simp [go_sem], by simp [go_sem], by simp [go_sem]⟩ hw))
    simp [bodyPost, results, Try.results32, go_sem]
    exact ⟨⟨[], Oe.nil _ _⟩, B1⟩
end Go.Proofs.Ytdjjphcfobbipaa

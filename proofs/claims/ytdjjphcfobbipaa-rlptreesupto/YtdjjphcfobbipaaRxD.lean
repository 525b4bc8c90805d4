import Derived.Test.YtdjjphcfobbipaaRxC
/- Layer 7: Size, Check of the program. -/
namespace Go.Proofs.Ytdjjphcfobbipaa
open Go.RowKit Go.Sort

/-- The error of a tree. -/
def errT (t : Tr) : Int := if oddT t then 78 else if 1024 < dpT t then 74 else 0
/-- Its size, where there is no error. -/
def sizT (t : Tr) : Int := if errT t = 0 then ((encT t).length : Int) else 0
set_option maxRecDepth 100000 in
set_option maxHeartbeats 4000000 in
theorem Size_any {t : Tr} {d q : Value} (hw : wtT t < 4194304) (w : World) (h : It w t d q) :
    Calls Try.prog 36 #[itV t d q] w fun e w' => e = .returned (.tuple #[.int .i64 (sizT t), .int .i64 (errT t)]) ∧ Below w.heap.size w w' := by
  have M : Hid (∀ W, Below w.heap.size w W → Calls Try.prog 55 #[.agg #[.bool t.l, d, q]] W fun e w' => e = .returned (mV t) ∧ Below W.heap.size W w') := fun W B => measured_any t hw W (It.keep B t h)
  have hE := encT_len t
  have b3 : decide ((16777216 : Int) < ((encT t).length : Int)) = false := decide_eq_false (by omega)
  have dq : ∃ k1 k2 k3 k4 k5 k6, d = .slice k1 k2 k3 ∧ q = .slice k4 k5 k6 := by
    revert h
    cases t with
    | mk l' X' ts' =>
      intro e2
      rw [It] at e2
      obtain ⟨⟨k1, _, _, k3, h1, _⟩, k4, _, _, k6, h2, _⟩ := e2
      exact ⟨_, _, _, _, _, _, h1, h2⟩
  obtain ⟨k1, k2, k3, k4, k5, k6, rfl, rfl⟩ := dq
  have MZ : mV t = if oddT t then .agg #[.bool true, .int .i64 0, .int .i64 0] else .agg #[.bool false, .int .i64 (dpT t), .int .i64 (encT t).length] := rfl
  unfold itV
  clear hE hw h
  by_cases ho : oddT t = true
  · have es : sizT t = 0 := by unfold sizT errT; rw [if_pos ho]; rfl
    have ee : errT t = 78 := by unfold errT; rw [if_pos ho]
    rw [if_pos ho] at MZ
    rw [MZ] at M
    rw [es, ee]
    generalize t.l = l at *
    clear b3 ho es ee MZ t
    go_enter Try.func36, Try.ntmps36
    go_wp2_with ((with_reducible refine (M.out _ ((Below.refl _ _).alloc (Nat.le_refl _) _)).mono ?_); rintro e1 w1 ⟨rfl, hw⟩; (have B1 : Below w.heap.size w w1 := ((Below.refl w.heap.size w).alloc (Nat.le_refl _) _).trans (hw.mono (by simp))); (clear hw))
    all_goals simp [bodyPost, results, Try.results36, go_sem]
    all_goals exact B1.alloc B1.size _
  · rw [if_neg ho] at MZ
    rw [MZ] at M
    clear MZ
    by_cases hd : 1024 < dpT t
    · have ee : errT t = 74 := by unfold errT; rw [if_neg ho, if_pos hd]
      have es : sizT t = 0 := by unfold sizT; rw [ee]; rfl
      have hd' : (1024 : Int) < (dpT t : Int) := by omega
      rw [es, ee]
      generalize t.l = l at *
      generalize dpT t = D at *
      generalize (encT t).length = E at *
      clear b3 ho es ee t hd
      go_enter Try.func36, Try.ntmps36
      go_wp2_with ((with_reducible refine (M.out _ ((Below.refl _ _).alloc (Nat.le_refl _) _)).mono ?_); rintro e1 w1 ⟨rfl, hw⟩; (have B1 : Below w.heap.size w w1 := ((Below.refl w.heap.size w).alloc (Nat.le_refl _) _).trans (hw.mono (by simp))); (clear hw))
      all_goals simp [bodyPost, results, Try.results36, go_sem]
      all_goals exact B1.alloc B1.size _
    · have ee : errT t = 0 := by unfold errT; rw [if_neg ho, if_neg hd]
      have es : sizT t = ((encT t).length : Int) := by unfold sizT; rw [ee]; rfl
      have hd' : decide ((1024 : Int) < (dpT t : Int)) = false := decide_eq_false (by omega)
      rw [es, ee]
      generalize t.l = l at *
      generalize dpT t = D at *
      generalize (encT t).length = E at *
      clear ho es ee t hd
      go_enter Try.func36, Try.ntmps36
      go_wp2_with ((with_reducible refine (M.out _ ((Below.refl _ _).alloc (Nat.le_refl _) _)).mono ?_); rintro e1 w1 ⟨rfl, hw⟩; (have B1 : Below w.heap.size w w1 := ((Below.refl w.heap.size w).alloc (Nat.le_refl _) _).trans (hw.mono (by simp))); (clear hw))
      all_goals simp [bodyPost, results, Try.results36, go_sem]
      all_goals exact B1.alloc B1.size _
set_option maxRecDepth 100000 in
set_option maxHeartbeats 4000000 in
theorem Check_any {t : Tr} {d q : Value} (hw : wtT t < 4194304) (w : World) (h : It w t d q) :
    Calls Try.prog 34 #[itV t d q] w fun e w' => e = .returned (.int .i64 (errT t)) ∧ Below w.heap.size w w' := by
  have M : Hid (∀ W, Below w.heap.size w W → Calls Try.prog 36 #[itV t d q] W fun e w' => e = .returned (.tuple #[.int .i64 (sizT t), .int .i64 (errT t)]) ∧ Below W.heap.size W w') := fun W B => Size_any hw W (It.keep B t h)
  clear h hw
  unfold itV at *
  generalize t.l = l at *
  generalize sizT t = x at *
  generalize errT t = y at *
  go_enter Try.func34, Try.ntmps34
  go_wp2_with ((with_reducible refine (M.out _ ((Below.refl _ _).alloc (Nat.le_refl _) _)).mono ?_); rintro e1 w1 ⟨rfl, hw⟩; (have B1 : Below w.heap.size w w1 := ((Below.refl w.heap.size w).alloc (Nat.le_refl _) _).trans (hw.mono (by simp))); (clear hw))
  all_goals simp [bodyPost, results, Try.results34, go_sem]
  all_goals exact B1
end Go.Proofs.Ytdjjphcfobbipaa

/- Layer 7: the document's odd, oddly, depth. -/
namespace Go.Proofs.Ytdjjphcfobbipaa
open Go.RowKit Go.Sort

set_option maxRecDepth 100000 in
theorem rodd_any {l : Bool} {X : List Int} {ts : List Tr} {a1 a2 : Option Addr} {c1 c2 : Nat} (w : World) :
    Calls Try.prog 63 #[.agg #[.bool l, .slice a1 X.length c1, .slice a2 ts.length c2]] w fun e w' => e = .returned (.bool (odd1 l X ts)) ∧ Below w.heap.size w w' := by
  unfold odd1
  generalize X.length = n at *
  generalize ts.length = m at *
  cases l
  · go_enter Try.func63, Try.ntmps63
    go_wp2
    go_ret
    exact ⟨by simp, (Below.refl _ _).alloc (Nat.le_refl _) _⟩
  · go_enter Try.func63, Try.ntmps63
    go_wp2
    go_ret
    exact ⟨by simp, (Below.refl _ _).alloc (Nat.le_refl _) _⟩
set_option maxRecDepth 100000 in
set_option maxHeartbeats 8000000 in
theorem roddly_any : ∀ (t : Tr) {d q : Value} (_ : wtT t < 4194304) (w : World) (_ : It w t d q),
    Calls Try.prog 52 #[itV t d q] w fun e w' => e = .returned (.bool (oddT t)) ∧ Below w.heap.size w w' := by
  refine Tr.ind fun l X ts ih d q hn w h => ?_
  rw [It] at h
  obtain ⟨⟨a, b, o, c, rfl, h2, h3, h4⟩, a', b', o', c', rfl, k2, k3, k4⟩ := h
  rw [wtT] at hn
  show Calls Try.prog 52 #[.agg #[.bool l, .slice a X.length c, .slice a' ts.length c']] w _
  rw [oddT]
  have C := fun w => rodd_any (l := l) (X := X) (ts := ts) (a1 := a) (a2 := a') (c1 := c) (c2 := c') w
  have HI : Hid (∀ W, Below w.heap.size w W → Its W b' o' ts) := fun W B => Its.of fun i hi => by
    obtain ⟨d, q, e1, e2⟩ := k4.at i hi
    exact ⟨d, q, rangeT_keep e1 B, It.keep B _ e2⟩
  have HN : Hid (wtS ts < 4194304 ∧ ts.length ≤ c' ∧ (ts = [] ∨ a' = some ⟨b', o', none⟩)) := ⟨by omega, k2.1, k3⟩
  have IH : Hid _ := @ih
  have hl : (ts.length : Int) ≤ 4194304 := by have := len_wt ts; omega
  clear h2 h3 h4 k2 k3 k4 hn ih
  obtain ⟨Z, hZ⟩ : ∃ Z : Bool, (odd1 l X ts || oddS ts) = Z := ⟨_, rfl⟩
  rw [hZ]
  have HZ : Hid _ := hZ
  clear hZ
  cases ho : odd1 l X ts with
  | true =>
    rw [ho] at HZ C
    obtain rfl : Z = true := by have := HZ.out; simpa using this.symm
    clear HZ IH HN HI ho hl
    generalize X.length = n at *
    generalize ts.length = m at *
    go_enter Try.func52, Try.ntmps52
    go_wp2_with ((with_reducible refine (C _).mono ?_); rintro e1 w1 ⟨rfl, hw⟩; (have B1 : Below w.heap.size w w1 := ((Below.refl w.heap.size w).alloc (Nat.le_refl _) _).trans (hw.mono (by simp))); (clear hw))
    simp [bodyPost, results, Try.results52, go_sem]
    exact B1
  | false =>
    rw [ho, Bool.false_or] at HZ
    rw [ho] at C
    clear ho
    generalize X.length = n at *
    go_enter Try.func52, Try.ntmps52
    refine wp_seq_k fun K h => ?_
    have H : Hid _ := h
    clear h
    go_wp2_with fail
    refine H.out _ _ ?_
    clear H K
    refine wp_world (fun W => Below w.heap.size w W ∧ Bx W w.heap.size l (.slice a n c) (.slice a' ts.length c')) ⟨(Below.refl _ _).alloc (Nat.le_refl _) _, ⟨by simp [go_sem], by simp [go_sem], by simp [go_sem]⟩⟩ ?_
    rintro W ⟨B, x0, x1, x2⟩
    refine wp_seq_k fun K h => ?_
    have H : Hid _ := h
    clear h
    go_wp2_with ((with_reducible refine (C _).mono ?_); rintro e1 w1 ⟨rfl, hw⟩; (replace B := B.trans (hw.mono B.size)); (replace x2 := keepC hw x2); (clear x1 x0))
    refine H.out _ _ ?_
    clear H K C hw W
    go_wp2_with fail
    go_loopg [3] ts.length (fun k iv wr => ∃ i : Nat, k = ts.length - i ∧ i ≤ ts.length ∧ iv = .int .i64 (i : Int) ∧ oddS (ts.take i) = false ∧ Below w.heap.size w wr ∧ wr.cell? ⟨w.heap.size, 2, none⟩ = some (.slice a' ts.length c'))
    case atStart => exact ⟨0, rfl, Nat.zero_le _, rfl, by simp [oddS], B, x2⟩
    case round =>
      clear B x2 w1
      obtain ⟨i, hk, hi, rfl, hO, B, x2⟩ := hrel
      have HK : Hid (gk = ts.length - i ∧ i ≤ ts.length) := ⟨hk, hi⟩
      clear hk
      by_cases h8 : i = ts.length
      · subst h8
        rw [List.take_length] at hO
        obtain rfl : Z = false := by have := HZ.out; rw [hO] at this; exact this.symm
        clear HZ HN IH HI HK hi hl hO
        generalize ts.length = m at *
        go_wp2
        simp [bodyPost, results, Try.results52, go_sem]
        exact B
      · have hlt : i < ts.length := by omega
        have hlt' : (i : Int) < (ts.length : Int) := by omega
        have ha : a' = some ⟨b', o', none⟩ := by
          rcases HN.out.2.2 with e | e
          · rw [e] at hlt; exact absurd hlt (Nat.not_lt_zero _)
          · exact e
        subst ha
        obtain ⟨d, q, e1, e2⟩ := (HI.out wr B).at i hlt
        have hwt := wt_item hlt
        have e3 := take_snoc hlt
        have eo : oddS (ts.take (i + 1)) = oddT (ts.getD i zT) := by rw [e3, oddS_snoc, hO]; rfl
        have R1 : Hid (wr.rangeAt b' (o' + i * 3) [.bool (ts.getD i zT).l, d, q]) := e1
        have MC : Hid (∀ W, Below wr.heap.size wr W → Calls Try.prog 52 #[.agg #[.bool (ts.getD i zT).l, d, q]] W fun e w' => e = .returned (.bool (oddT (ts.getD i zT))) ∧ Below W.heap.size W w') := fun W B => IH.out _ (getT_mem hlt) (by have := HN.out.1; omega) W (It.keep B _ e2)
        obtain ⟨Y, hY⟩ : ∃ Y : Bool, oddT (ts.getD i zT) = Y := ⟨_, rfl⟩
        rw [hY] at eo MC
        have NX : Hid (oddS (ts.take (i + 1)) = Y) := eo
        have HS : Hid (∀ w2, Below wr.heap.size wr w2 → Below w.heap.size w w2 ∧ w2.cell? ⟨w.heap.size, 2, none⟩ = some (.slice (some ⟨b', o', none⟩) ts.length c')) := fun w2 hw => ⟨B.trans (hw.mono B.size), keepC hw x2⟩
        clear e1 e2 hwt e3 eo hO hi h8 IH HI hY
        generalize (ts.getD i zT).l = lt at *
        cases Y with
        | true =>
          obtain rfl : Z = true := by have := HZ.out; rw [oddS_take NX.out] at this; exact this.symm
          clear HZ NX
          go_wp2_with (first
            | (refine wpList_load_mid rfl _ _ rfl b' (o' + i * 3) rfl _ _ R1.out Try.underlying29 rfl size_it ?_)
            | ((with_reducible refine (MC.out _ (Below.refl _ _)).mono ?_); rintro e1 w2 ⟨rfl, hw⟩; (obtain ⟨B2, y2⟩ := HS.out _ hw)))
          simp [bodyPost, results, Try.results52, go_sem]
          exact B2
        | false =>
          go_wp2_with (first
            | (refine wpList_load_mid rfl _ _ rfl b' (o' + i * 3) rfl _ _ R1.out Try.underlying29 rfl size_it ?_)
            | ((with_reducible refine (MC.out _ (Below.refl _ _)).mono ?_); rintro e1 w2 ⟨rfl, hw⟩; (obtain ⟨B2, y2⟩ := HS.out _ hw)))
          clear B x2
          go_roundg (ts.length - (i + 1))
          case measure => have := HK.out.1; omega
          case rel => exact ⟨i + 1, rfl, hlt, by go_num, NX.out, B2, y2⟩
end Go.Proofs.Ytdjjphcfobbipaa

/- Layer 7: the document's depth. -/
namespace Go.Proofs.Ytdjjphcfobbipaa
open Go.RowKit Go.Sort

set_option maxRecDepth 100000 in
set_option maxHeartbeats 8000000 in
theorem rdepth_any : ∀ (t : Tr) {d q : Value} (_ : wtT t < 4194304) (w : World) (_ : It w t d q),
    Calls Try.prog 53 #[itV t d q] w fun e w' => e = .returned (.int .i64 (dpT t)) ∧ Below w.heap.size w w' := by
  refine Tr.ind fun l X ts ih d q hn w h => ?_
  rw [It] at h
  obtain ⟨⟨a, b, o, c, rfl, h2, h3, h4⟩, a', b', o', c', rfl, k2, k3, k4⟩ := h
  rw [wtT] at hn
  show Calls Try.prog 53 #[.agg #[.bool l, .slice a X.length c, .slice a' ts.length c']] w _
  rw [dpT]
  have HI : Hid (∀ W, Below w.heap.size w W → Its W b' o' ts) := fun W B => Its.of fun i hi => by
    obtain ⟨d, q, e1, e2⟩ := k4.at i hi
    exact ⟨d, q, rangeT_keep e1 B, It.keep B _ e2⟩
  have HN : Hid (wtS ts < 4194304 ∧ ts.length ≤ c' ∧ (ts = [] ∨ a' = some ⟨b', o', none⟩)) := ⟨by omega, k2.1, k3⟩
  have IH : Hid _ := @ih
  have hl : (ts.length : Int) ≤ 4194304 := by have := len_wt ts; omega
  clear h2 h3 h4 k2 k3 k4 hn ih
  generalize X.length = n at *
  cases l with
  | false =>
    clear IH HN HI hl
    generalize ts.length = m at *
    go_enter Try.func53, Try.ntmps53
    go_wp2_with fail
    simp [bodyPost, results, Try.results53, go_sem]
    exact (Below.refl _ _).alloc (Nat.le_refl _) _
  | true =>
    rw [if_pos rfl]
    go_enter Try.func53, Try.ntmps53
    refine wp_seq_k fun K h => ?_
    have H : Hid _ := h
    clear h
    go_wp2_with fail
    refine H.out _ _ ?_
    clear H K
    refine wp_world (fun W => Below w.heap.size w W ∧ Bx W w.heap.size true (.slice a n c) (.slice a' ts.length c')) ⟨(Below.refl _ _).alloc (Nat.le_refl _) _, ⟨by simp [go_sem], by simp [go_sem], by simp [go_sem]⟩⟩ ?_
    rintro W ⟨B, x0, x1, x2⟩
    clear x1
    go_wp2_with fail
    clear x0
    go_loopg [3, 4] ts.length (fun k mv iv wr => ∃ i : Nat, k = ts.length - i ∧ i ≤ ts.length ∧ mv = .int .i64 (dpS (ts.take i)) ∧ iv = .int .i64 (i : Int) ∧ Below w.heap.size w wr ∧ wr.cell? ⟨w.heap.size, 2, none⟩ = some (.slice a' ts.length c'))
    case atStart => exact ⟨0, rfl, Nat.zero_le _, by simp [dpS], rfl, B, x2⟩
    case round =>
      clear B x2 W
      obtain ⟨i, hk, hi, rfl, rfl, B, x2⟩ := hrel
      have HK : Hid (gk = ts.length - i ∧ i ≤ ts.length) := ⟨hk, hi⟩
      clear hk
      by_cases h8 : i = ts.length
      · subst h8
        rw [List.take_length]
        have hd := dpS_le ts
        have HD : Hid (dpS ts < 4194304) := (by have := HN.out.1; omega : dpS ts < 4194304)
        clear HN IH HI HK hi hl hd
        generalize ts.length = m at *
        generalize hD : dpS ts = D at *
        go_wp2
        simp [bodyPost, results, Try.results53, go_sem]
        have := HD.out
        exact ⟨by rw [hD]; unfold wrap64; omega, B⟩
      · have hlt : i < ts.length := by omega
        have hlt' : (i : Int) < (ts.length : Int) := by omega
        have ha : a' = some ⟨b', o', none⟩ := by
          rcases HN.out.2.2 with e | e
          · rw [e] at hlt; exact absurd hlt (Nat.not_lt_zero _)
          · exact e
        subst ha
        obtain ⟨d, q, e1, e2⟩ := (HI.out wr B).at i hlt
        have hwt := wt_item hlt
        have e3 := take_snoc hlt
        have ed : dpS (ts.take (i + 1)) = max (dpS (ts.take i)) (dpT (ts.getD i zT)) := by rw [e3, dpS_snoc]
        have R1 : Hid (wr.rangeAt b' (o' + i * 3) [.bool (ts.getD i zT).l, d, q]) := e1
        have MC : Hid (∀ W, Below wr.heap.size wr W → Calls Try.prog 53 #[.agg #[.bool (ts.getD i zT).l, d, q]] W fun e w' => e = .returned (.int .i64 (dpT (ts.getD i zT))) ∧ Below W.heap.size W w') := fun W B => IH.out _ (getT_mem hlt) (by have := HN.out.1; omega) W (It.keep B _ e2)
        have NX : Hid (dpS (ts.take (i + 1)) = max (dpS (ts.take i)) (dpT (ts.getD i zT))) := ed
        have HS : Hid (∀ w2, Below wr.heap.size wr w2 → Below w.heap.size w w2 ∧ w2.cell? ⟨w.heap.size, 2, none⟩ = some (.slice (some ⟨b', o', none⟩) ts.length c')) := fun w2 hw => ⟨B.trans (hw.mono B.size), keepC hw x2⟩
        clear e1 e2 hwt e3 ed hi h8 IH HI
        generalize (ts.getD i zT).l = lt at *
        generalize dpT (ts.getD i zT) = D1 at *
        generalize dpS (ts.take i) = D at *
        go_wp2_with (first
          | (refine wpList_load_mid rfl _ _ rfl b' (o' + i * 3) rfl _ _ R1.out Try.underlying29 rfl size_it ?_)
          | ((with_reducible refine (MC.out _ (Below.refl _ _)).mono ?_); rintro e1 w2 ⟨rfl, hw⟩; (obtain ⟨B2, y2⟩ := HS.out _ hw)))
        clear B x2
        go_roundg (ts.length - (i + 1))
        case measure => have := HK.out.1; omega
        case rel => exact ⟨i + 1, rfl, hlt, by rw [NX.out]; congr 1; omega, by go_num, B2, y2⟩
end Go.Proofs.Ytdjjphcfobbipaa

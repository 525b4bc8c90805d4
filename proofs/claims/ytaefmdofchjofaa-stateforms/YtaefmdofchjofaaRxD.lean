import Derived.Test.YtaefmdofchjofaaRxC
import Derived.Test.YtaefmdofchjofaaRjA
/- Layer 7: Size, Check of the program. -/
namespace Go.Proofs.Ytaefmdofchjofaa
open Go.RowKit Go.Sort

/-- The error of a tree. -/
def errT (t : Tr) : Int := if oddT t then 78 else if 1024 < dpT t then 74 else 0
/-- Its size, where there is no error. -/
def sizT (t : Tr) : Int := if errT t = 0 then ((encT t).length : Int) else 0
set_option maxRecDepth 100000 in
set_option maxHeartbeats 4000000 in
theorem Size_any {t : Tr} {d q : Value} (hw : wtT t < 4194304) (w : World) (h : It w t d q) :
    Calls Try.prog 32 #[itV t d q] w fun e w' => e = .returned (.tuple #[.int .i64 (sizT t), .int .i64 (errT t)]) ∧ Below w.heap.size w w' := by
  have M : Hid (∀ W, Below w.heap.size w W → Calls Try.prog 49 #[.agg #[.bool t.l, d, q]] W fun e w' => e = .returned (mV t) ∧ Below W.heap.size W w') := fun W B => measured_any t hw W (It.keep B t h)
  have hE := encT_len t
  have b3 : decide ((16777216 : Int) < ((encT t).length : Int)) = false := decide_eq_false (by omega)
  have dq : ∃ k1 k2 k3 k4 k5 k6, d = .slice k1 k2 k3 ∧ q = .slice k4 k5 k6 := by
    revert h
    cases t with
    | mk l' X' ts' =>
      intro e2
      rw [It] at e2
      obtain ⟨⟨k1, _, _, k3, h1, _⟩, k4, _, _, k6, h2, _⟩ := e2
      exact ⟨_, _, _, _, _, _, h1, h2⟩
  obtain ⟨k1, k2, k3, k4, k5, k6, rfl, rfl⟩ := dq
  have MZ : mV t = if oddT t then .agg #[.bool true, .int .i64 0, .int .i64 0] else .agg #[.bool false, .int .i64 (dpT t), .int .i64 (encT t).length] := rfl
  unfold itV
  clear hE hw h
  by_cases ho : oddT t = true
  · have es : sizT t = 0 := by unfold sizT errT; rw [if_pos ho]; rfl
    have ee : errT t = 78 := by unfold errT; rw [if_pos ho]
    rw [if_pos ho] at MZ
    rw [MZ] at M
    rw [es, ee]
    generalize t.l = l at *
    clear b3 ho es ee MZ t
    go_enter Try.func32, Try.ntmps32
    go_wp2_with ((with_reducible refine (M.out _ ((Below.refl _ _).alloc (Nat.le_refl _) _)).mono ?_); rintro e1 w1 ⟨rfl, hw⟩; (have B1 : Below w.heap.size w w1 := ((Below.refl w.heap.size w).alloc (Nat.le_refl _) _).trans (hw.mono (by simp))); (clear hw))
    all_goals simp [bodyPost, results, Try.results32, go_sem]
    all_goals exact B1.alloc B1.size _
  · rw [if_neg ho] at MZ
    rw [MZ] at M
    clear MZ
    by_cases hd : 1024 < dpT t
    · have ee : errT t = 74 := by unfold errT; rw [if_neg ho, if_pos hd]
      have es : sizT t = 0 := by unfold sizT; rw [ee]; rfl
      have hd' : (1024 : Int) < (dpT t : Int) := by omega
      rw [es, ee]
      generalize t.l = l at *
      generalize dpT t = D at *
      generalize (encT t).length = E at *
      clear b3 ho es ee t hd
      go_enter Try.func32, Try.ntmps32
      go_wp2_with ((with_reducible refine (M.out _ ((Below.refl _ _).alloc (Nat.le_refl _) _)).mono ?_); rintro e1 w1 ⟨rfl, hw⟩; (have B1 : Below w.heap.size w w1 := ((Below.refl w.heap.size w).alloc (Nat.le_refl _) _).trans (hw.mono (by simp))); (clear hw))
      all_goals simp [bodyPost, results, Try.results32, go_sem]
      all_goals exact B1.alloc B1.size _
    · have ee : errT t = 0 := by unfold errT; rw [if_neg ho, if_neg hd]
      have es : sizT t = ((encT t).length : Int) := by unfold sizT; rw [ee]; rfl
      have hd' : decide ((1024 : Int) < (dpT t : Int)) = false := decide_eq_false (by omega)
      rw [es, ee]
      generalize t.l = l at *
      generalize dpT t = D at *
      generalize (encT t).length = E at *
      clear ho es ee t hd
      go_enter Try.func32, Try.ntmps32
      go_wp2_with ((with_reducible refine (M.out _ ((Below.refl _ _).alloc (Nat.le_refl _) _)).mono ?_); rintro e1 w1 ⟨rfl, hw⟩; (have B1 : Below w.heap.size w w1 := ((Below.refl w.heap.size w).alloc (Nat.le_refl _) _).trans (hw.mono (by simp))); (clear hw))
      all_goals simp [bodyPost, results, Try.results32, go_sem]
      all_goals exact B1.alloc B1.size _
end Go.Proofs.Ytaefmdofchjofaa

/- Layer 7: the document's odd, oddly, depth. -/
namespace Go.Proofs.Ytaefmdofchjofaa
open Go.RowKit Go.Sort

set_option maxRecDepth 100000 in
theorem rodd_any {l : Bool} {X : List Int} {ts : List Tr} {a1 a2 : Option Addr} {c1 c2 : Nat} (w : World) :
    Calls Try.prog 80 #[.agg #[.bool l, .slice a1 X.length c1, .slice a2 ts.length c2]] w fun e w' => e = .returned (.bool (odd1 l X ts)) ∧ Below w.heap.size w w' := by
  unfold odd1
  generalize X.length = n at *
  generalize ts.length = m at *
  cases l
  · go_enter Try.func80, Try.ntmps80
    go_wp2
    go_ret
    exact ⟨by simp, (Below.refl _ _).alloc (Nat.le_refl _) _⟩
  · go_enter Try.func80, Try.ntmps80
    go_wp2
    go_ret
    exact ⟨by simp, (Below.refl _ _).alloc (Nat.le_refl _) _⟩
set_option maxRecDepth 100000 in
set_option maxHeartbeats 8000000 in
theorem roddly_any : ∀ (t : Tr) {d q : Value} (_ : wtT t < 4194304) (w : World) (_ : It w t d q),
    Calls Try.prog 74 #[itV t d q] w fun e w' => e = .returned (.bool (oddT t)) ∧ Below w.heap.size w w' := by
  refine Tr.ind fun l X ts ih d q hn w h => ?_
  rw [It] at h
  obtain ⟨⟨a, b, o, c, rfl, h2, h3, h4⟩, a', b', o', c', rfl, k2, k3, k4⟩ := h
  rw [wtT] at hn
  show Calls Try.prog 74 #[.agg #[.bool l, .slice a X.length c, .slice a' ts.length c']] w _
  rw [oddT]
  have C := fun w => rodd_any (l := l) (X := X) (ts := ts) (a1 := a) (a2 := a') (c1 := c) (c2 := c') w
  have HI : Hid (∀ W, Below w.heap.size w W → Its W b' o' ts) := fun W B => Its.of fun i hi => by
    obtain ⟨d, q, e1, e2⟩ := k4.at i hi
    exact ⟨d, q, rangeT_keep e1 B, It.keep B _ e2⟩
  have HN : Hid (wtS ts < 4194304 ∧ ts.length ≤ c' ∧ (ts = [] ∨ a' = some ⟨b', o', none⟩)) := ⟨by omega, k2.1, k3⟩
  have IH : Hid _ := @ih
  have hl : (ts.length : Int) ≤ 4194304 := by have := len_wt ts; omega
  clear h2 h3 h4 k2 k3 k4 hn ih
  obtain ⟨Z, hZ⟩ : ∃ Z : Bool, (odd1 l X ts || oddS ts) = Z := ⟨_, rfl⟩
  rw [hZ]
  have HZ : Hid _ := hZ
  clear hZ
  cases ho : odd1 l X ts with
  | true =>
    rw [ho] at HZ C
    obtain rfl : Z = true := by have := HZ.out; simpa using this.symm
    clear HZ IH HN HI ho hl
    generalize X.length = n at *
    generalize ts.length = m at *
    go_enter Try.func74, Try.ntmps74
    go_wp2_with ((with_reducible refine (C _).mono ?_); rintro e1 w1 ⟨rfl, hw⟩; (have B1 : Below w.heap.size w w1 := ((Below.refl w.heap.size w).alloc (Nat.le_refl _) _).trans (hw.mono (by simp))); (clear hw))
    simp [bodyPost, results, Try.results74, go_sem]
    exact B1
  | false =>
    rw [ho, Bool.false_or] at HZ
    rw [ho] at C
    clear ho
    generalize X.length = n at *
    go_enter Try.func74, Try.ntmps74
    refine wp_seq_k fun K h => ?_
    have H : Hid _ := h
    clear h
    go_wp2_with fail
    refine H.out _ _ ?_
    clear H K
    refine wp_world (fun W => Below w.heap.size w W ∧ Bx W w.heap.size l (.slice a n c) (.slice a' ts.length c')) ⟨(Below.refl _ _).alloc (Nat.le_refl _) _, ⟨by simp [go_sem], by simp [go_sem], by simp [go_sem]⟩⟩ ?_
    rintro W ⟨B, x0, x1, x2⟩
    refine wp_seq_k fun K h => ?_
    have H : Hid _ := h
    clear h
    go_wp2_with ((with_reducible refine (C _).mono ?_); rintro e1 w1 ⟨rfl, hw⟩; (replace B := B.trans (hw.mono B.size)); (replace x2 := keepC hw x2); (clear x1 x0))
    refine H.out _ _ ?_
    clear H K C hw W
    go_wp2_with fail
    go_loopg [3] ts.length (fun k iv wr => ∃ i : Nat, k = ts.length - i ∧ i ≤ ts.length ∧ iv = .int .i64 (i : Int) ∧ oddS (ts.take i) = false ∧ Below w.heap.size w wr ∧ wr.cell? ⟨w.heap.size, 2, none⟩ = some (.slice a' ts.length c'))
    case atStart => exact ⟨0, rfl, Nat.zero_le _, rfl, by simp [oddS], B, x2⟩
    case round =>
      clear B x2 w1
      obtain ⟨i, hk, hi, rfl, hO, B, x2⟩ := hrel
      have HK : Hid (gk = ts.length - i ∧ i ≤ ts.length) := ⟨hk, hi⟩
      clear hk
      by_cases h8 : i = ts.length
      · subst h8
        rw [List.take_length] at hO
        obtain rfl : Z = false := by have := HZ.out; rw [hO] at this; exact this.symm
        clear HZ HN IH HI HK hi hl hO
        generalize ts.length = m at *
        go_wp2
        simp [bodyPost, results, Try.results74, go_sem]
        exact B
      · have hlt : i < ts.length := by omega
        have hlt' : (i : Int) < (ts.length : Int) := by omega
        have ha : a' = some ⟨b', o', none⟩ := by
          rcases HN.out.2.2 with e | e
          · rw [e] at hlt; exact absurd hlt (Nat.not_lt_zero _)
          · exact e
        subst ha
        obtain ⟨d, q, e1, e2⟩ := (HI.out wr B).at i hlt
        have hwt := wt_item hlt
        have e3 := take_snoc hlt
        have eo : oddS (ts.take (i + 1)) = oddT (ts.getD i zT) := by rw [e3, oddS_snoc, hO]; rfl
        have R1 : Hid (wr.rangeAt b' (o' + i * 3) [.bool (ts.getD i zT).l, d, q]) := e1
        have MC : Hid (∀ W, Below wr.heap.size wr W → Calls Try.prog 74 #[.agg #[.bool (ts.getD i zT).l, d, q]] W fun e w' => e = .returned (.bool (oddT (ts.getD i zT))) ∧ Below W.heap.size W w') := fun W B => IH.out _ (getT_mem hlt) (by have := HN.out.1; omega) W (It.keep B _ e2)
        obtain ⟨Y, hY⟩ : ∃ Y : Bool, oddT (ts.getD i zT) = Y := ⟨_, rfl⟩
        rw [hY] at eo MC
        have NX : Hid (oddS (ts.take (i + 1)) = Y) := eo
        have HS : Hid (∀ w2, Below wr.heap.size wr w2 → Below w.heap.size w w2 ∧ w2.cell? ⟨w.heap.size, 2, none⟩ = some (.slice (some ⟨b', o', none⟩) ts.length c')) := fun w2 hw => ⟨B.trans (hw.mono B.size), keepC hw x2⟩
        clear e1 e2 hwt e3 eo hO hi h8 IH HI hY
        generalize (ts.getD i zT).l = lt at *
        cases Y with
        | true =>
          obtain rfl : Z = true := by have := HZ.out; rw [oddS_take NX.out] at this; exact this.symm
          clear HZ NX
          go_wp2_with (first
            | (refine wpList_load_mid rfl _ _ rfl b' (o' + i * 3) rfl _ _ R1.out Try.underlying48 rfl size_it ?_)
            | ((with_reducible refine (MC.out _ (Below.refl _ _)).mono ?_); rintro e1 w2 ⟨rfl, hw⟩; (obtain ⟨B2, y2⟩ := HS.out _ hw)))
          simp [bodyPost, results, Try.results74, go_sem]
          exact B2
        | false =>
          go_wp2_with (first
            | (refine wpList_load_mid rfl _ _ rfl b' (o' + i * 3) rfl _ _ R1.out Try.underlying48 rfl size_it ?_)
            | ((with_reducible refine (MC.out _ (Below.refl _ _)).mono ?_); rintro e1 w2 ⟨rfl, hw⟩; (obtain ⟨B2, y2⟩ := HS.out _ hw)))
          clear B x2
          go_roundg (ts.length - (i + 1))
          case measure => have := HK.out.1; omega
          case rel => exact ⟨i + 1, rfl, hlt, by go_num, NX.out, B2, y2⟩
end Go.Proofs.Ytaefmdofchjofaa

/- Layer 7: the document's depth. -/
namespace Go.Proofs.Ytaefmdofchjofaa
open Go.RowKit Go.Sort

set_option maxRecDepth 100000 in
set_option maxHeartbeats 8000000 in
theorem rdepth_any : ∀ (t : Tr) {d q : Value} (_ : wtT t < 4194304) (w : World) (_ : It w t d q),
    Calls Try.prog 75 #[itV t d q] w fun e w' => e = .returned (.int .i64 (dpT t)) ∧ Below w.heap.size w w' := by
  refine Tr.ind fun l X ts ih d q hn w h => ?_
  rw [It] at h
  obtain ⟨⟨a, b, o, c, rfl, h2, h3, h4⟩, a', b', o', c', rfl, k2, k3, k4⟩ := h
  rw [wtT] at hn
  show Calls Try.prog 75 #[.agg #[.bool l, .slice a X.length c, .slice a' ts.length c']] w _
  rw [dpT]
  have HI : Hid (∀ W, Below w.heap.size w W → Its W b' o' ts) := fun W B => Its.of fun i hi => by
    obtain ⟨d, q, e1, e2⟩ := k4.at i hi
    exact ⟨d, q, rangeT_keep e1 B, It.keep B _ e2⟩
  have HN : Hid (wtS ts < 4194304 ∧ ts.length ≤ c' ∧ (ts = [] ∨ a' = some ⟨b', o', none⟩)) := ⟨by omega, k2.1, k3⟩
  have IH : Hid _ := @ih
  have hl : (ts.length : Int) ≤ 4194304 := by have := len_wt ts; omega
  clear h2 h3 h4 k2 k3 k4 hn ih
  generalize X.length = n at *
  cases l with
  | false =>
    clear IH HN HI hl
    generalize ts.length = m at *
    go_enter Try.func75, Try.ntmps75
    go_wp2_with fail
    simp [bodyPost, results, Try.results75, go_sem]
    exact (Below.refl _ _).alloc (Nat.le_refl _) _
  | true =>
    rw [if_pos rfl]
    go_enter Try.func75, Try.ntmps75
    refine wp_seq_k fun K h => ?_
    have H : Hid _ := h
    clear h
    go_wp2_with fail
    refine H.out _ _ ?_
    clear H K
    refine wp_world (fun W => Below w.heap.size w W ∧ Bx W w.heap.size true (.slice a n c) (.slice a' ts.length c')) ⟨(Below.refl _ _).alloc (Nat.le_refl _) _, ⟨by simp [go_sem], by simp [go_sem], by simp [go_sem]⟩⟩ ?_
    rintro W ⟨B, x0, x1, x2⟩
    clear x1
    go_wp2_with fail
    clear x0
    go_loopg [3, 4] ts.length (fun k mv iv wr => ∃ i : Nat, k = ts.length - i ∧ i ≤ ts.length ∧ mv = .int .i64 (dpS (ts.take i)) ∧ iv = .int .i64 (i : Int) ∧ Below w.heap.size w wr ∧ wr.cell? ⟨w.heap.size, 2, none⟩ = some (.slice a' ts.length c'))
    case atStart => exact ⟨0, rfl, Nat.zero_le _, by simp [dpS], rfl, B, x2⟩
    case round =>
      clear B x2 W
      obtain ⟨i, hk, hi, rfl, rfl, B, x2⟩ := hrel
      have HK : Hid (gk = ts.length - i ∧ i ≤ ts.length) := ⟨hk, hi⟩
      clear hk
      by_cases h8 : i = ts.length
      · subst h8
        rw [List.take_length]
        have hd := dpS_le ts
        have HD : Hid (dpS ts < 4194304) := (by have := HN.out.1; omega : dpS ts < 4194304)
        clear HN IH HI HK hi hl hd
        generalize ts.length = m at *
        generalize hD : dpS ts = D at *
        go_wp2
        simp [bodyPost, results, Try.results75, go_sem]
        have := HD.out
        exact ⟨by rw [hD]; unfold wrap64; omega, B⟩
      · have hlt : i < ts.length := by omega
        have hlt' : (i : Int) < (ts.length : Int) := by omega
        have ha : a' = some ⟨b', o', none⟩ := by
          rcases HN.out.2.2 with e | e
          · rw [e] at hlt; exact absurd hlt (Nat.not_lt_zero _)
          · exact e
        subst ha
        obtain ⟨d, q, e1, e2⟩ := (HI.out wr B).at i hlt
        have hwt := wt_item hlt
        have e3 := take_snoc hlt
        have ed : dpS (ts.take (i + 1)) = max (dpS (ts.take i)) (dpT (ts.getD i zT)) := by rw [e3, dpS_snoc]
        have R1 : Hid (wr.rangeAt b' (o' + i * 3) [.bool (ts.getD i zT).l, d, q]) := e1
        have MC : Hid (∀ W, Below wr.heap.size wr W → Calls Try.prog 75 #[.agg #[.bool (ts.getD i zT).l, d, q]] W fun e w' => e = .returned (.int .i64 (dpT (ts.getD i zT))) ∧ Below W.heap.size W w') := fun W B => IH.out _ (getT_mem hlt) (by have := HN.out.1; omega) W (It.keep B _ e2)
        have NX : Hid (dpS (ts.take (i + 1)) = max (dpS (ts.take i)) (dpT (ts.getD i zT))) := ed
        have HS : Hid (∀ w2, Below wr.heap.size wr w2 → Below w.heap.size w w2 ∧ w2.cell? ⟨w.heap.size, 2, none⟩ = some (.slice (some ⟨b', o', none⟩) ts.length c')) := fun w2 hw => ⟨B.trans (hw.mono B.size), keepC hw x2⟩
        clear e1 e2 hwt e3 ed hi h8 IH HI
        generalize (ts.getD i zT).l = lt at *
        generalize dpT (ts.getD i zT) = D1 at *
        generalize dpS (ts.take i) = D at *
        go_wp2_with (first
          | (refine wpList_load_mid rfl _ _ rfl b' (o' + i * 3) rfl _ _ R1.out Try.underlying48 rfl size_it ?_)
          | ((with_reducible refine (MC.out _ (Below.refl _ _)).mono ?_); rintro e1 w2 ⟨rfl, hw⟩; (obtain ⟨B2, y2⟩ := HS.out _ hw)))
        clear B x2
        go_roundg (ts.length - (i + 1))
        case measure => have := HK.out.1; omega
        case rel => exact ⟨i + 1, rfl, hlt, by rw [NX.out]; congr 1; omega, by go_num, B2, y2⟩
end Go.Proofs.Ytaefmdofchjofaa

/- Layer 7: the document's head of a text; its size. -/
namespace Go.Proofs.Ytaefmdofchjofaa
open Go.RowKit Go.Sort

set_option maxRecDepth 100000 in
set_option maxHeartbeats 4000000 in
theorem before_text {n : Nat} (hn2 : n < 16777216) (w : World) :
    Calls Try.prog 77 #[.int .i64 (n : Int), .int .i64 128] w fun e w' => ∃ v', e = .returned v' ∧ OwnB w.heap.size w' v' (hdR 128 n) ∧ Below w.heap.size w w' := by
  by_cases k : n ≤ 55
  · have hk : (n : Int) ≤ 55 := by omega
    have e : hdR 128 n = [128 + (n : Int)] := by unfold hdR; rw [if_pos k]
    rw [e]
    clear e
    go_enter Try.func77, Try.ntmps77
    go_wp2
    go_ret
    exact ⟨_, rfl, own_one w _, (Below.refl _ _).alloc (Nat.le_refl _) _⟩
  · have hk : ¬ ((n : Int) ≤ 55) := by omega
    have hn3 : (n : Int) < 16777216 := by omega
    have e : hdR 128 n = [128 + 55 + ((beN n).length : Int)] ++ beN n := by unfold hdR; rw [if_neg k]; rfl
    have FR : Hid (∀ w, Calls Try.prog 38 #[.int .u64 (n : Int)] w fun e w' => e = .returned (.agg #[.int .u64 (l0 (n : Int)), .int .u64 (l1 (n : Int)), .int .u64 (l2 (n : Int)), .int .u64 (l3 (n : Int))]) ∧ Below w.heap.size w w') := fun w => rfrom_small hn2 w
    have BY : Hid (∀ w, Calls Try.prog 39 #[.agg #[.int .u64 (l0 (n : Int)), .int .u64 (l1 (n : Int)), .int .u64 (l2 (n : Int)), .int .u64 (l3 (n : Int))]] w fun e w' => ∃ v, e = .returned v ∧ OwnB w.heap.size w' v (beN n) ∧ Below w.heap.size w w') := fun w => by
      have h := rbytes_any (n := (n : Int)) w
      rw [strip_be (by omega) hn2] at h
      exact h
    have hl := beN_len n
    rw [e]
    clear e
    generalize beN n = bn at *
    go_enter Try.func77, Try.ntmps77
    go_wp2_with fail
    with_reducible refine (FR.out w).mono ?_
    rintro e w1 ⟨rfl, b1⟩
    go_wp2_with fail
    with_reducible refine (BY.out w1).mono ?_
    rintro e w2 ⟨v2, rfl, o2, b2⟩
    replace b1 := b1.trans (b2.mono b1.size)
    obtain ⟨a2, g2, c2, rfl, q2, z2, y2, _, _, nc2⟩ := o2.lies
    have s2 := b2.size
    have hl3 : (bn.length : Int) ≤ 3 := by omega
    clear b2
    have b1' : ∀ ob, Below w.heap.size w (w2.alloc ob) := fun ob => b1.alloc b1.size ob
    have z2' : Hid (∀ ob, Bz (w2.alloc ob) g2 0 bn) := fun ob => y2.keep ((Below.refl _ _).alloc (Nat.le_refl _) ob)
    have O1 : Hid (∀ x : Int, OwnB w.heap.size (w2.alloc (.cells #[.int .u8 x] 5)) (.slice (some ⟨w2.heap.size, 0, none⟩) 1 1) [x]) := fun x => (own_one w2 x).base b1.size
    have HQ : Hid (Az a2 g2 0 bn ∧ bn.length ≤ 3 ∧ (a2 = none → c2 = 0) ∧ w.heap.size ≤ w2.heap.size) := ⟨z2, hl.2, nc2, b1.size⟩
    clear z2 y2 nc2 hl o2
    go_wp2_with ((refine wpList_append_rd rfl _ _ rfl rfl rfl rfl (O1.out _) HQ.out.1 HQ.out.2.2.1 (z2'.out _) (by have := HQ.out.2.1; simp; omega) (by have := HQ.out.2.2.2; simp; omega) ?_); intro v3 w3 o3 g3)
    go_ret
    exact ⟨_, rfl, o3, (b1' _).grown g3 (by have := HQ.out.2.2.2; simp; omega) (fun k hk => by cases hk; exact HQ.out.2.2.2)⟩
theorem odd_item {ts : List Tr} (h : oddS ts = false) {i : Nat} (hi : i < ts.length) : oddT (ts.getD i zT) = false := by
  cases e : oddT (ts.getD i zT) with
  | false => rfl
  | true =>
    have k : oddS (ts.take (i + 1)) = true := by rw [take_snoc hi, oddS_snoc, e, Bool.or_true]
    rw [oddS_take k] at h
    cases h
set_option maxRecDepth 100000 in
set_option maxHeartbeats 8000000 in
theorem rsize_list {ts : List Tr} {a a' : Option Addr} {b' o' c c' : Nat} (ho : oddS ts = false) (hn : wtS ts < 4194304) (k2 : ts.length ≤ c') (k3 : ts = [] ∨ a' = some ⟨b', o', none⟩) (w : World) (k4 : Its w b' o' ts)
    (ih : ∀ t ∈ ts, ∀ {d q : Value} (_ : oddT t = false) (_ : wtT t < 4194304) (w : World) (_ : It w t d q), Calls Try.prog 76 #[itV t d q] w fun e w' => e = .returned (.int .i64 ((encT t).length : Int)) ∧ Below w.heap.size w w') :
    Calls Try.prog 76 #[.agg #[.bool true, .slice a 0 c, .slice a' ts.length c']] w fun e w' => e = .returned (.int .i64 ((hdR 128 (encS ts).length).length + (encS ts).length : Nat)) ∧ Below w.heap.size w w' := by
  have HI : Hid (∀ W, Below w.heap.size w W → Its W b' o' ts) := fun W B => Its.of fun i hi => by
    obtain ⟨d, q, e1, e2⟩ := k4.at i hi
    exact ⟨d, q, rangeT_keep e1 B, It.keep B _ e2⟩
  have HN : Hid (wtS ts < 4194304 ∧ ts.length ≤ c' ∧ (ts = [] ∨ a' = some ⟨b', o', none⟩)) := ⟨hn, k2, k3⟩
  have HO : Hid (oddS ts = false) := ho
  have IH : Hid _ := @ih
  have hl : (ts.length : Int) ≤ 4194304 := by have := len_wt ts; omega
  clear k2 k3 k4 hn ih ho
  go_enter Try.func76, Try.ntmps76
  refine wp_seq_k fun K h => ?_
  have H : Hid _ := h
  clear h
  go_wp2_with fail
  refine H.out _ _ ?_
  clear H K
  refine wp_world (fun W => Below w.heap.size w W ∧ Bx W w.heap.size true (.slice a 0 c) (.slice a' ts.length c')) ⟨(Below.refl _ _).alloc (Nat.le_refl _) _, ⟨by simp [go_sem], by simp [go_sem], by simp [go_sem]⟩⟩ ?_
  rintro W ⟨B, x0, x1, x2⟩
  go_wp2_with fail
  clear x0 x1
  go_loopg [3, 4] ts.length (fun k mv iv wr => ∃ i : Nat, k = ts.length - i ∧ i ≤ ts.length ∧ mv = .int .i64 ((encS (ts.take i)).length : Int) ∧ iv = .int .i64 (i : Int) ∧ Below w.heap.size w wr ∧ wr.cell? ⟨w.heap.size, 2, none⟩ = some (.slice a' ts.length c'))
  case atStart => exact ⟨0, rfl, Nat.zero_le _, by simp [encS], rfl, B, x2⟩
  case round =>
    clear B x2 W
    obtain ⟨i, hk, hi, rfl, rfl, B, x2⟩ := hrel
    have HK : Hid (gk = ts.length - i ∧ i ≤ ts.length) := ⟨hk, hi⟩
    clear hk
    by_cases h8 : i = ts.length
    · subst h8
      rw [List.take_length]
      have hE := encS_len ts
      have h4 := hdR_len 128 (encS ts).length
      have HB : Hid ((hdR 128 (encS ts).length).length ≤ 4 ∧ (encS ts).length < 16777216) := ⟨h4, by have := HN.out.1; omega⟩
      have BF : Hid (∀ w, Calls Try.prog 77 #[.int .i64 ((encS ts).length : Int), .int .i64 128] w fun e w' => ∃ v', e = .returned v' ∧ OwnB w.heap.size w' v' (hdR 128 (encS ts).length) ∧ Below w.heap.size w w') := fun w => before_text HB.out.2 w
      clear HN IH HI HK hi hl hE h4
      generalize ts.length = m at *
      go_wp2_with ((with_reducible refine (BF.out _).mono ?_); rintro e1 w2 ⟨v2, rfl, o2, b2⟩; (obtain ⟨a2, g2, c2, rfl, _⟩ := o2.lies); (replace B := B.trans (b2.mono B.size)))
      simp [bodyPost, results, Try.results76, go_sem]
      have := HB.out
      exact ⟨by unfold wrap64; omega, B⟩
    · have hlt : i < ts.length := by omega
      have hlt' : (i : Int) < (ts.length : Int) := by omega
      have ha : a' = some ⟨b', o', none⟩ := by
        rcases HN.out.2.2 with e | e
        · rw [e] at hlt; exact absurd hlt (Nat.not_lt_zero _)
        · exact e
      subst ha
      obtain ⟨d, q, e1, e2⟩ := (HI.out wr B).at i hlt
      have hwt := wt_item hlt
      have e3 := take_snoc hlt
      have ee : (encS (ts.take (i + 1))).length = (encS (ts.take i)).length + (encT (ts.getD i zT)).length := by rw [e3, encS_app, List.length_append, encS, encS, List.append_nil]
      have hE := encS_len (ts.take i)
      have hE2 := encT_len (ts.getD i zT)
      have R1 : Hid (wr.rangeAt b' (o' + i * 3) [.bool (ts.getD i zT).l, d, q]) := e1
      have MC : Hid (∀ W, Below wr.heap.size wr W → Calls Try.prog 76 #[.agg #[.bool (ts.getD i zT).l, d, q]] W fun e w' => e = .returned (.int .i64 ((encT (ts.getD i zT)).length : Int)) ∧ Below W.heap.size W w') := fun W B => IH.out _ (getT_mem hlt) (odd_item HO.out hlt) (by have := HN.out.1; omega) W (It.keep B _ e2)
      have NX : Hid ((encS (ts.take (i + 1))).length = (encS (ts.take i)).length + (encT (ts.getD i zT)).length ∧ (encS (ts.take i)).length + (encT (ts.getD i zT)).length < 16777216) := ⟨ee, by have := HN.out.1; omega⟩
      have HS : Hid (∀ w2, Below wr.heap.size wr w2 → Below w.heap.size w w2 ∧ w2.cell? ⟨w.heap.size, 2, none⟩ = some (.slice (some ⟨b', o', none⟩) ts.length c')) := fun w2 hw => ⟨B.trans (hw.mono B.size), keepC hw x2⟩
      clear e1 e2 hwt e3 ee hE hE2 hi h8 IH HI
      generalize (ts.getD i zT).l = lt at *
      generalize (encT (ts.getD i zT)).length = D1 at *
      generalize (encS (ts.take i)).length = D at *
      go_wp2_with (first
        | (refine wpList_load_mid rfl _ _ rfl b' (o' + i * 3) rfl _ _ R1.out Try.underlying48 rfl size_it ?_)
        | ((with_reducible refine (MC.out _ (Below.refl _ _)).mono ?_); rintro e1 w2 ⟨rfl, hw⟩; (obtain ⟨B2, y2⟩ := HS.out _ hw)))
      clear B x2
      go_roundg (ts.length - (i + 1))
      case measure => have := HK.out.1; omega
      case rel => exact ⟨i + 1, rfl, hlt, by rw [NX.out.1]; congr 1; have := NX.out.2; unfold wrap64; omega, by go_num, B2, y2⟩
set_option maxRecDepth 100000 in
set_option maxHeartbeats 8000000 in
theorem rsize_bare {x : Int} {a' : Option Addr} {b o c c' : Nat} (hx : x < 128) (w : World) (h : w.cell? ⟨b, o, none⟩ = some (.int .u8 x)) :
    Calls Try.prog 76 #[.agg #[.bool false, .slice (some ⟨b, o, none⟩) 1 c, .slice a' 0 c']] w fun e w' => e = .returned (.int .i64 1) ∧ Below w.heap.size w w' := by
  go_enter Try.func76, Try.ntmps76
  refine wp_seq_k fun K h => ?_
  have H : Hid _ := h
  clear h
  go_wp2_with fail
  refine H.out _ _ ?_
  clear H K
  refine wp_world (fun W => Below w.heap.size w W ∧ Bx W w.heap.size false (.slice (some ⟨b, o, none⟩) 1 c) (.slice a' 0 c') ∧ W.cell? ⟨b, o, none⟩ = some (.int .u8 x)) ⟨(Below.refl _ _).alloc (Nat.le_refl _) _, ⟨by simp [go_sem], by simp [go_sem], by simp [go_sem]⟩, keepC ((Below.refl _ _).alloc (Nat.le_refl _) _) h⟩ ?_
  rintro W ⟨B, ⟨x0, x1, x2⟩, y0⟩
  clear h
  go_wp2
  simp [bodyPost, results, Try.results76, go_sem]
  exact B
set_option maxRecDepth 100000 in
set_option maxHeartbeats 8000000 in
theorem rsize_one {x : Int} {a' : Option Addr} {b o c c' : Nat} (hx : ¬ x < 128) (w : World) (h : w.cell? ⟨b, o, none⟩ = some (.int .u8 x)) :
    Calls Try.prog 76 #[.agg #[.bool false, .slice (some ⟨b, o, none⟩) 1 c, .slice a' 0 c']] w fun e w' => e = .returned (.int .i64 2) ∧ Below w.heap.size w w' := by
  have hx' : decide (x < 128) = false := decide_eq_false hx
  have BF : Hid (∀ w, Calls Try.prog 77 #[.int .i64 1, .int .i64 128] w fun e w' => ∃ v', e = .returned v' ∧ OwnB w.heap.size w' v' (hdR 128 1) ∧ Below w.heap.size w w') := fun w => before_text (n := 1) (by decide) w
  have HB : Hid ((hdR 128 1).length = 1) := rfl
  go_enter Try.func76, Try.ntmps76
  refine wp_seq_k fun K h => ?_
  have H : Hid _ := h
  clear h
  go_wp2_with fail
  refine H.out _ _ ?_
  clear H K
  refine wp_world (fun W => Below w.heap.size w W ∧ Bx W w.heap.size false (.slice (some ⟨b, o, none⟩) 1 c) (.slice a' 0 c') ∧ W.cell? ⟨b, o, none⟩ = some (.int .u8 x)) ⟨(Below.refl _ _).alloc (Nat.le_refl _) _, ⟨by simp [go_sem], by simp [go_sem], by simp [go_sem]⟩, keepC ((Below.refl _ _).alloc (Nat.le_refl _) _) h⟩ ?_
  rintro W ⟨B, ⟨x0, x1, x2⟩, y0⟩
  clear h hx
  go_wp2_with fail
  clear x0 x1 y0 hx'
  go_loopg [3, 4] 1 (fun k nv iv wr => k = 1 ∧ nv = .int .i64 1 ∧ iv = .int .i64 0 ∧ Below w.heap.size w wr ∧ wr.cell? ⟨w.heap.size, 2, none⟩ = some (.slice a' 0 c'))
  case atStart => exact ⟨rfl, rfl, rfl, B, x2⟩
  case round =>
    clear B x2 W
    obtain ⟨_, rfl, rfl, B, x2⟩ := hrel
    go_wp2_with ((with_reducible refine (BF.out _).mono ?_); rintro e1 w2 ⟨v2, rfl, o2, b2⟩; (obtain ⟨a2, g2, c2, rfl, _⟩ := o2.lies); (replace B := B.trans (b2.mono B.size)))
    simp [bodyPost, results, Try.results76, go_sem]
    have := HB.out
    exact ⟨by rw [this]; unfold wrap64; omega, B⟩
set_option maxRecDepth 100000 in
set_option maxHeartbeats 8000000 in
theorem rsize_text {X : List Int} {a a' : Option Addr} {c c' : Nat} (hn : X.length < 4194304) (h1 : X.length ≠ 1) (w : World) :
    Calls Try.prog 76 #[.agg #[.bool false, .slice a X.length c, .slice a' 0 c']] w fun e w' => e = .returned (.int .i64 ((hdR 128 X.length).length + X.length : Nat)) ∧ Below w.heap.size w w' := by
  have BF : Hid (∀ w, Calls Try.prog 77 #[.int .i64 (X.length : Int), .int .i64 128] w fun e w' => ∃ v', e = .returned v' ∧ OwnB w.heap.size w' v' (hdR 128 X.length) ∧ Below w.heap.size w w') := fun w => before_text (by omega) w
  have h4 := hdR_len 128 X.length
  have HB : Hid ((hdR 128 X.length).length ≤ 4 ∧ X.length < 4194304) := ⟨h4, hn⟩
  have h1' : ((X.length : Int) == 1) = false := by
    have : ¬ ((X.length : Int) = 1) := by omega
    simpa using this
  have h1'' : ¬ ((X.length : Int) = 1) := by omega
  clear hn h1 h4
  go_enter Try.func76, Try.ntmps76
  refine wp_seq_k fun K h => ?_
  have H : Hid _ := h
  clear h
  go_wp2_with fail
  refine H.out _ _ ?_
  clear H K
  refine wp_world (fun W => Below w.heap.size w W ∧ Bx W w.heap.size false (.slice a X.length c) (.slice a' 0 c')) ⟨(Below.refl _ _).alloc (Nat.le_refl _) _, ⟨by simp [go_sem], by simp [go_sem], by simp [go_sem]⟩⟩ ?_
  rintro W ⟨B, ⟨x0, x1, x2⟩⟩
  go_wp2_with fail
  clear x0 x1 h1' h1''
  go_loopg [3, 4] 1 (fun k nv iv wr => k = 1 ∧ nv = .int .i64 (X.length : Int) ∧ iv = .int .i64 0 ∧ Below w.heap.size w wr ∧ wr.cell? ⟨w.heap.size, 2, none⟩ = some (.slice a' 0 c'))
  case atStart => exact ⟨rfl, rfl, rfl, B, x2⟩
  case round =>
    clear B x2 W
    obtain ⟨_, rfl, rfl, B, x2⟩ := hrel
    go_wp2_with ((with_reducible refine (BF.out _).mono ?_); rintro e1 w2 ⟨v2, rfl, o2, b2⟩; (obtain ⟨a2, g2, c2, rfl, _⟩ := o2.lies); (replace B := B.trans (b2.mono B.size)))
    simp [bodyPost, results, Try.results76, go_sem]
    have := HB.out
    exact ⟨by unfold wrap64; omega, B⟩
/-- The document's size, of any tree in which nothing is odd. -/
theorem rsize_any : ∀ (t : Tr) {d q : Value} (_ : oddT t = false) (_ : wtT t < 4194304) (w : World) (_ : It w t d q),
    Calls Try.prog 76 #[itV t d q] w fun e w' => e = .returned (.int .i64 ((encT t).length : Int)) ∧ Below w.heap.size w w' := by
  refine Tr.ind fun l X ts ih d q ho hw w h => ?_
  rw [It] at h
  obtain ⟨⟨a, b, o, c, rfl, h2, h3, h4⟩, a', b', o', c', rfl, k2, k3, k4⟩ := h
  rw [wtT] at hw
  show Calls Try.prog 76 #[.agg #[.bool l, .slice a X.length c, .slice a' ts.length c']] w _
  rw [oddT, Bool.or_eq_false_iff] at ho
  rw [encT]
  cases l with
  | true =>
    have e : X.length = 0 := by have := ho.1; unfold odd1 at this; simpa using this
    rw [e]
    have := rsize_list (a := a) (c := c) ho.2 (by omega) k2.1 k3 w k4 ih
    refine this.mono fun e w' h => ⟨?_, h.2⟩
    rw [h.1, ← hdR_same 192 128, ← List.length_append]
    rfl
  | false =>
    have e : ts.length = 0 := by have := ho.1; unfold odd1 at this; simpa using this
    rw [e, if_neg Bool.false_ne_true]
    unfold encX bareB
    by_cases h1 : X.length = 1
    · obtain ⟨x, rfl⟩ := List.length_eq_one_iff.1 h1
      have ea : a = some ⟨b, o, none⟩ := h3.cons (by simp)
      subst ea
      have hc : w.cell? ⟨b, o, none⟩ = some (.int .u8 x) := by have := h4 0 (by simp); simpa using this
      by_cases hx : x < 128
      · have := rsize_bare (a' := a') (c := c) (c' := c') hx w hc
        refine this.mono fun e w' h => ⟨?_, h.2⟩
        rw [h.1]
        simp [hx]
      · have := rsize_one (a' := a') (c := c) (c' := c') hx w hc
        refine this.mono fun e w' h => ⟨?_, h.2⟩
        rw [h.1]
        simp [hx, hdR]
    · have := rsize_text (a := a) (a' := a') (c := c) (c' := c') (by omega) h1 w
      refine this.mono fun e w' h => ⟨?_, h.2⟩
      rw [h.1]
      simp [h1]
end Go.Proofs.Ytaefmdofchjofaa

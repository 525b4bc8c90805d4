import Derived.Test.YtdjjphcfobbipaaRxD
import Derived.Test.YtdjjphcfobbipaaRjC
/- Layer 7: the document's head of a text; its size. -/
namespace Go.Proofs.Ytdjjphcfobbipaa
open Go.RowKit Go.Sort

set_option maxRecDepth 100000 in
set_option maxHeartbeats 4000000 in
theorem before_text {n : Nat} (hn2 : n < 16777216) (w : World) :
    Calls Try.prog 66 #[.int .i64 (n : Int), .int .i64 128] w fun e w' => ∃ v', e = .returned v' ∧ OwnB w.heap.size w' v' (hdR 128 n) ∧ Below w.heap.size w w' := by
  by_cases k : n ≤ 55
  · have hk : (n : Int) ≤ 55 := by omega
    have e : hdR 128 n = [128 + (n : Int)] := by unfold hdR; rw [if_pos k]
    rw [e]
    clear e
    go_enter Try.func66, Try.ntmps66
    go_wp2
    go_ret
    exact ⟨_, rfl, own_one w _, (Below.refl _ _).alloc (Nat.le_refl _) _⟩
  · have hk : ¬ ((n : Int) ≤ 55) := by omega
    have hn3 : (n : Int) < 16777216 := by omega
    have e : hdR 128 n = [128 + 55 + ((beN n).length : Int)] ++ beN n := by unfold hdR; rw [if_neg k]; rfl
    have FR : Hid (∀ w, Calls Try.prog 45 #[.int .u64 (n : Int)] w fun e w' => e = .returned (.agg #[.int .u64 (l0 (n : Int)), .int .u64 (l1 (n : Int)), .int .u64 (l2 (n : Int)), .int .u64 (l3 (n : Int))]) ∧ Below w.heap.size w w') := fun w => rfrom_small hn2 w
    have BY : Hid (∀ w, Calls Try.prog 43 #[.agg #[.int .u64 (l0 (n : Int)), .int .u64 (l1 (n : Int)), .int .u64 (l2 (n : Int)), .int .u64 (l3 (n : Int))]] w fun e w' => ∃ v, e = .returned v ∧ OwnB w.heap.size w' v (beN n) ∧ Below w.heap.size w w') := fun w => by
      have h := rbytes_any (n := (n : Int)) w
      rw [strip_be (by omega) hn2] at h
      exact h
    have hl := beN_len n
    rw [e]
    clear e
    generalize beN n = bn at *
    go_enter Try.func66, Try.ntmps66
    go_wp2_with fail
    with_reducible refine (FR.out w).mono ?_
    rintro e w1 ⟨rfl, b1⟩
    go_wp2_with fail
    with_reducible refine (BY.out w1).mono ?_
    rintro e w2 ⟨v2, rfl, o2, b2⟩
    replace b1 := b1.trans (b2.mono b1.size)
    obtain ⟨a2, g2, c2, rfl, q2, z2, y2, _, _, nc2⟩ := o2.lies
    have s2 := b2.size
    have hl3 : (bn.length : Int) ≤ 3 := by omega
    clear b2
    have b1' : ∀ ob, Below w.heap.size w (w2.alloc ob) := fun ob => b1.alloc b1.size ob
    have z2' : Hid (∀ ob, Bz (w2.alloc ob) g2 0 bn) := fun ob => y2.keep ((Below.refl _ _).alloc (Nat.le_refl _) ob)
    have O1 : Hid (∀ x : Int, OwnB w.heap.size (w2.alloc (.cells #[.int .u8 x] 5)) (.slice (some ⟨w2.heap.size, 0, none⟩) 1 1) [x]) := fun x => (own_one w2 x).base b1.size
    have HQ : Hid (Az a2 g2 0 bn ∧ bn.length ≤ 3 ∧ (a2 = none → c2 = 0) ∧ w.heap.size ≤ w2.heap.size) := ⟨z2, hl.2, nc2, b1.size⟩
    clear z2 y2 nc2 hl o2
    go_wp2_with ((refine wpList_append_rd rfl _ _ rfl rfl rfl rfl (O1.out _) HQ.out.1 HQ.out.2.2.1 (z2'.out _) (by have := HQ.out.2.1; simp; omega) (by have := HQ.out.2.2.2; simp; omega) ?_); intro v3 w3 o3 g3)
    go_ret
    exact ⟨_, rfl, o3, (b1' _).grown g3 (by have := HQ.out.2.2.2; simp; omega) (fun k hk => by cases hk; exact HQ.out.2.2.2)⟩
theorem odd_item {ts : List Tr} (h : oddS ts = false) {i : Nat} (hi : i < ts.length) : oddT (ts.getD i zT) = false := by
  cases e : oddT (ts.getD i zT) with
  | false => rfl
  | true =>
    have k : oddS (ts.take (i + 1)) = true := by rw [take_snoc hi, oddS_snoc, e, Bool.or_true]
    rw [oddS_take k] at h
    cases h
set_option maxRecDepth 100000 in
set_option maxHeartbeats 8000000 in
theorem rsize_list {ts : List Tr} {a a' : Option Addr} {b' o' c c' : Nat} (ho : oddS ts = false) (hn : wtS ts < 4194304) (k2 : ts.length ≤ c') (k3 : ts = [] ∨ a' = some ⟨b', o', none⟩) (w : World) (k4 : Its w b' o' ts)
    (ih : ∀ t ∈ ts, ∀ {d q : Value} (_ : oddT t = false) (_ : wtT t < 4194304) (w : World) (_ : It w t d q), Calls Try.prog 54 #[itV t d q] w fun e w' => e = .returned (.int .i64 ((encT t).length : Int)) ∧ Below w.heap.size w w') :
    Calls Try.prog 54 #[.agg #[.bool true, .slice a 0 c, .slice a' ts.length c']] w fun e w' => e = .returned (.int .i64 ((hdR 128 (encS ts).length).length + (encS ts).length : Nat)) ∧ Below w.heap.size w w' := by
  have HI : Hid (∀ W, Below w.heap.size w W → Its W b' o' ts) := fun W B => Its.of fun i hi => by
    obtain ⟨d, q, e1, e2⟩ := k4.at i hi
    exact ⟨d, q, rangeT_keep e1 B, It.keep B _ e2⟩
  have HN : Hid (wtS ts < 4194304 ∧ ts.length ≤ c' ∧ (ts = [] ∨ a' = some ⟨b', o', none⟩)) := ⟨hn, k2, k3⟩
  have HO : Hid (oddS ts = false) := ho
  have IH : Hid _ := @ih
  have hl : (ts.length : Int) ≤ 4194304 := by have := len_wt ts; omega
  clear k2 k3 k4 hn ih ho
  go_enter Try.func54, Try.ntmps54
  refine wp_seq_k fun K h => ?_
  have H : Hid _ := h
  clear h
  go_wp2_with fail
  refine H.out _ _ ?_
  clear H K
  refine wp_world (fun W => Below w.heap.size w W ∧ Bx W w.heap.size true (.slice a 0 c) (.slice a' ts.length c')) ⟨(Below.refl _ _).alloc (Nat.le_refl _) _, ⟨by simp [go_sem], by simp [go_sem], by simp [go_sem]⟩⟩ ?_
  rintro W ⟨B, x0, x1, x2⟩
  go_wp2_with fail
  clear x0 x1
  go_loopg [3, 4] ts.length (fun k mv iv wr => ∃ i : Nat, k = ts.length - i ∧ i ≤ ts.length ∧ mv = .int .i64 ((encS (ts.take i)).length : Int) ∧ iv = .int .i64 (i : Int) ∧ Below w.heap.size w wr ∧ wr.cell? ⟨w.heap.size, 2, none⟩ = some (.slice a' ts.length c'))
  case atStart => exact ⟨0, rfl, Nat.zero_le _, by simp [encS], rfl, B, x2⟩
  case round =>
    clear B x2 W
    obtain ⟨i, hk, hi, rfl, rfl, B, x2⟩ := hrel
    have HK : Hid (gk = ts.length - i ∧ i ≤ ts.length) := ⟨hk, hi⟩
    clear hk
    by_cases h8 : i = ts.length
    · subst h8
      rw [List.take_length]
      have hE := encS_len ts
      have h4 := hdR_len 128 (encS ts).length
      have HB : Hid ((hdR 128 (encS ts).length).length ≤ 4 ∧ (encS ts).length < 16777216) := ⟨h4, by have := HN.out.1; omega⟩
      have BF : Hid (∀ w, Calls Try.prog 66 #[.int .i64 ((encS ts).length : Int), .int .i64 128] w fun e w' => ∃ v', e = .returned v' ∧ OwnB w.heap.size w' v' (hdR 128 (encS ts).length) ∧ Below w.heap.size w w') := fun w => before_text HB.out.2 w
      clear HN IH HI HK hi hl hE h4
      generalize ts.length = m at *
      go_wp2_with ((with_reducible refine (BF.out _).mono ?_); rintro e1 w2 ⟨v2, rfl, o2, b2⟩; (obtain ⟨a2, g2, c2, rfl, _⟩ := o2.lies); (replace B := B.trans (b2.mono B.size)))
      simp [bodyPost, results, Try.results54, go_sem]
      have := HB.out
      exact ⟨by unfold wrap64; omega, B⟩
    · have hlt : i < ts.length := by omega
      have hlt' : (i : Int) < (ts.length : Int) := by omega
      have ha : a' = some ⟨b', o', none⟩ := by
        rcases HN.out.2.2 with e | e
        · rw [e] at hlt; exact absurd hlt (Nat.not_lt_zero _)
        · exact e
      subst ha
      obtain ⟨d, q, e1, e2⟩ := (HI.out wr B).at i hlt
      have hwt := wt_item hlt
      have e3 := take_snoc hlt
      have ee : (encS (ts.take (i + 1))).length = (encS (ts.take i)).length + (encT (ts.getD i zT)).length := by rw [e3, encS_app, List.length_append, encS, encS, List.append_nil]
      have hE := encS_len (ts.take i)
      have hE2 := encT_len (ts.getD i zT)
      have R1 : Hid (wr.rangeAt b' (o' + i * 3) [.bool (ts.getD i zT).l, d, q]) := e1
      have MC : Hid (∀ W, Below wr.heap.size wr W → Calls Try.prog 54 #[.agg #[.bool (ts.getD i zT).l, d, q]] W fun e w' => e = .returned (.int .i64 ((encT (ts.getD i zT)).length : Int)) ∧ Below W.heap.size W w') := fun W B => IH.out _ (getT_mem hlt) (odd_item HO.out hlt) (by have := HN.out.1; omega) W (It.keep B _ e2)
      have NX : Hid ((encS (ts.take (i + 1))).length = (encS (ts.take i)).length + (encT (ts.getD i zT)).length ∧ (encS (ts.take i)).length + (encT (ts.getD i zT)).length < 16777216) := ⟨ee, by have := HN.out.1; omega⟩
      have HS : Hid (∀ w2, Below wr.heap.size wr w2 → Below w.heap.size w w2 ∧ w2.cell? ⟨w.heap.size, 2, none⟩ = some (.slice (some ⟨b', o', none⟩) ts.length c')) := fun w2 hw => ⟨B.trans (hw.mono B.size), keepC hw x2⟩
      clear e1 e2 hwt e3 ee hE hE2 hi h8 IH HI
      generalize (ts.getD i zT).l = lt at *
      generalize (encT (ts.getD i zT)).length = D1 at *
      generalize (encS (ts.take i)).length = D at *
      go_wp2_with (first
        | (refine wpList_load_mid rfl _ _ rfl b' (o' + i * 3) rfl _ _ R1.out Try.underlying29 rfl size_it ?_)
        | ((with_reducible refine (MC.out _ (Below.refl _ _)).mono ?_); rintro e1 w2 ⟨rfl, hw⟩; (obtain ⟨B2, y2⟩ := HS.out _ hw)))
      clear B x2
      go_roundg (ts.length - (i + 1))
      case measure => have := HK.out.1; omega
      case rel => exact ⟨i + 1, rfl, hlt, by rw [NX.out.1]; congr 1; have := NX.out.2; unfold wrap64; omega, by go_num, B2, y2⟩
set_option maxRecDepth 100000 in
set_option maxHeartbeats 8000000 in
theorem rsize_bare {x : Int} {a' : Option Addr} {b o c c' : Nat} (hx : x < 128) (w : World) (h : w.cell? ⟨b, o, none⟩ = some (.int .u8 x)) :
    Calls Try.prog 54 #[.agg #[.bool false, .slice (some ⟨b, o, none⟩) 1 c, .slice a' 0 c']] w fun e w' => e = .returned (.int .i64 1) ∧ Below w.heap.size w w' := by
  go_enter Try.func54, Try.ntmps54
  refine wp_seq_k fun K h => ?_
  have H : Hid _ := h
  clear h
  go_wp2_with fail
  refine H.out _ _ ?_
  clear H K
  refine wp_world (fun W => Below w.heap.size w W ∧ Bx W w.heap.size false (.slice (some ⟨b, o, none⟩) 1 c) (.slice a' 0 c') ∧ W.cell? ⟨b, o, none⟩ = some (.int .u8 x)) ⟨(Below.refl _ _).alloc (Nat.le_refl _) _, ⟨by simp [go_sem], by simp [go_sem], by simp [go_sem]⟩, keepC ((Below.refl _ _).alloc (Nat.le_refl _) _) h⟩ ?_
  rintro W ⟨B, ⟨x0, x1, x2⟩, y0⟩
  clear h
  go_wp2
  simp [bodyPost, results, Try.results54, go_sem]
  exact B
set_option maxRecDepth 100000 in
set_option maxHeartbeats 8000000 in
theorem rsize_one {x : Int} {a' : Option Addr} {b o c c' : Nat} (hx : ¬ x < 128) (w : World) (h : w.cell? ⟨b, o, none⟩ = some (.int .u8 x)) :
    Calls Try.prog 54 #[.agg #[.bool false, .slice (some ⟨b, o, none⟩) 1 c, .slice a' 0 c']] w fun e w' => e = .returned (.int .i64 2) ∧ Below w.heap.size w w' := by
  have hx' : decide (x < 128) = false := decide_eq_false hx
  have BF : Hid (∀ w, Calls Try.prog 66 #[.int .i64 1, .int .i64 128] w fun e w' => ∃ v', e = .returned v' ∧ OwnB w.heap.size w' v' (hdR 128 1) ∧ Below w.heap.size w w') := fun w => before_text (n := 1) (by decide) w
  have HB : Hid ((hdR 128 1).length = 1) := rfl
  go_enter Try.func54, Try.ntmps54
  refine wp_seq_k fun K h => ?_
  have H : Hid _ := h
  clear h
  go_wp2_with fail
  refine H.out _ _ ?_
  clear H K
  refine wp_world (fun W => Below w.heap.size w W ∧ Bx W w.heap.size false (.slice (some ⟨b, o, none⟩) 1 c) (.slice a' 0 c') ∧ W.cell? ⟨b, o, none⟩ = some (.int .u8 x)) ⟨(Below.refl _ _).alloc (Nat.le_refl _) _, ⟨by simp [go_sem], by simp [go_sem], by simp [go_sem]⟩, keepC ((Below.refl _ _).alloc (Nat.le_refl _) _) h⟩ ?_
  rintro W ⟨B, ⟨x0, x1, x2⟩, y0⟩
  clear h hx
  go_wp2_with fail
  clear x0 x1 y0 hx'
  go_loopg [3, 4] 1 (fun k nv iv wr => k = 1 ∧ nv = .int .i64 1 ∧ iv = .int .i64 0 ∧ Below w.heap.size w wr ∧ wr.cell? ⟨w.heap.size, 2, none⟩ = some (.slice a' 0 c'))
  case atStart => exact ⟨rfl, rfl, rfl, B, x2⟩
  case round =>
    clear B x2 W
    obtain ⟨_, rfl, rfl, B, x2⟩ := hrel
    go_wp2_with ((with_reducible refine (BF.out _).mono ?_); rintro e1 w2 ⟨v2, rfl, o2, b2⟩; (obtain ⟨a2, g2, c2, rfl, _⟩ := o2.lies); (replace B := B.trans (b2.mono B.size)))
    simp [bodyPost, results, Try.results54, go_sem]
    have := HB.out
    exact ⟨by rw [this]; unfold wrap64; omega, B⟩
set_option maxRecDepth 100000 in
set_option maxHeartbeats 8000000 in
theorem rsize_text {X : List Int} {a a' : Option Addr} {c c' : Nat} (hn : X.length < 4194304) (h1 : X.length ≠ 1) (w : World) :
    Calls Try.prog 54 #[.agg #[.bool false, .slice a X.length c, .slice a' 0 c']] w fun e w' => e = .returned (.int .i64 ((hdR 128 X.length).length + X.length : Nat)) ∧ Below w.heap.size w w' := by
  have BF : Hid (∀ w, Calls Try.prog 66 #[.int .i64 (X.length : Int), .int .i64 128] w fun e w' => ∃ v', e = .returned v' ∧ OwnB w.heap.size w' v' (hdR 128 X.length) ∧ Below w.heap.size w w') := fun w => before_text (by omega) w
  have h4 := hdR_len 128 X.length
  have HB : Hid ((hdR 128 X.length).length ≤ 4 ∧ X.length < 4194304) := ⟨h4, hn⟩
  have h1' : ((X.length : Int) == 1) = false := by
    have : ¬ ((X.length : Int) = 1) := by omega
    simpa using this
  have h1'' : ¬ ((X.length : Int) = 1) := by omega
  clear hn h1 h4
  go_enter Try.func54, Try.ntmps54
  refine wp_seq_k fun K h => ?_
  have H : Hid _ := h
  clear h
  go_wp2_with fail
  refine H.out _ _ ?_
  clear H K
  refine wp_world (fun W => Below w.heap.size w W ∧ Bx W w.heap.size false (.slice a X.length c) (.slice a' 0 c')) ⟨(Below.refl _ _).alloc (Nat.le_refl _) _, ⟨by simp [go_sem], by simp [go_sem], by simp [go_sem]⟩⟩ ?_
  rintro W ⟨B, ⟨x0, x1, x2⟩⟩
  go_wp2_with fail
  clear x0 x1 h1' h1''
  go_loopg [3, 4] 1 (fun k nv iv wr => k = 1 ∧ nv = .int .i64 (X.length : Int) ∧ iv = .int .i64 0 ∧ Below w.heap.size w wr ∧ wr.cell? ⟨w.heap.size, 2, none⟩ = some (.slice a' 0 c'))
  case atStart => exact ⟨rfl, rfl, rfl, B, x2⟩
  case round =>
    clear B x2 W
    obtain ⟨_, rfl, rfl, B, x2⟩ := hrel
    go_wp2_with ((with_reducible refine (BF.out _).mono ?_); rintro e1 w2 ⟨v2, rfl, o2, b2⟩; (obtain ⟨a2, g2, c2, rfl, _⟩ := o2.lies); (replace B := B.trans (b2.mono B.size)))
    simp [bodyPost, results, Try.results54, go_sem]
    have := HB.out
    exact ⟨by unfold wrap64; omega, B⟩
/-- The document's size, of any tree in which nothing is odd. -/
theorem rsize_any : ∀ (t : Tr) {d q : Value} (_ : oddT t = false) (_ : wtT t < 4194304) (w : World) (_ : It w t d q),
    Calls Try.prog 54 #[itV t d q] w fun e w' => e = .returned (.int .i64 ((encT t).length : Int)) ∧ Below w.heap.size w w' := by
  refine Tr.ind fun l X ts ih d q ho hw w h => ?_
  rw [It] at h
  obtain ⟨⟨a, b, o, c, rfl, h2, h3, h4⟩, a', b', o', c', rfl, k2, k3, k4⟩ := h
  rw [wtT] at hw
  show Calls Try.prog 54 #[.agg #[.bool l, .slice a X.length c, .slice a' ts.length c']] w _
  rw [oddT, Bool.or_eq_false_iff] at ho
  rw [encT]
  cases l with
  | true =>
    have e : X.length = 0 := by have := ho.1; unfold odd1 at this; simpa using this
    rw [e]
    have := rsize_list (a := a) (c := c) ho.2 (by omega) k2.1 k3 w k4 ih
    refine this.mono fun e w' h => ⟨?_, h.2⟩
    rw [h.1, ← hdR_same 192 128, ← List.length_append]
    rfl
  | false =>
    have e : ts.length = 0 := by have := ho.1; unfold odd1 at this; simpa using this
    rw [e, if_neg Bool.false_ne_true]
    unfold encX bareB
    by_cases h1 : X.length = 1
    · obtain ⟨x, rfl⟩ := List.length_eq_one_iff.1 h1
      have ea : a = some ⟨b, o, none⟩ := h3.cons (by simp)
      subst ea
      have hc : w.cell? ⟨b, o, none⟩ = some (.int .u8 x) := by have := h4 0 (by simp); simpa using this
      by_cases hx : x < 128
      · have := rsize_bare (a' := a') (c := c) (c' := c') hx w hc
        refine this.mono fun e w' h => ⟨?_, h.2⟩
        rw [h.1]
        simp [hx]
      · have := rsize_one (a' := a') (c := c) (c' := c') hx w hc
        refine this.mono fun e w' h => ⟨?_, h.2⟩
        rw [h.1]
        simp [hx, hdR]
    · have := rsize_text (a := a) (a' := a') (c := c) (c' := c') (by omega) h1 w
      refine this.mono fun e w' h => ⟨?_, h.2⟩
      rw [h.1]
      simp [h1]
end Go.Proofs.Ytdjjphcfobbipaa

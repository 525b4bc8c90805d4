import Derived.Test.YtaefmdofchjofaaRxA
import Derived.Test.YtaefmdofchjofaaQTail
/- Layer 7: measured, of any tree. -/
namespace Go.Proofs.Ytaefmdofchjofaa
open Go.RowKit Go.Sort

theorem oddS_app : ∀ (ts us : List Tr), oddS (ts ++ us) = (oddS ts || oddS us)
  | [], us => by simp [oddS]
  | t :: ts, us => by rw [List.cons_append, oddS, oddS, oddS_app ts us, Bool.or_assoc]
theorem oddS_take {ts : List Tr} {k : Nat} (h : oddS (ts.take k) = true) : oddS ts = true := by
  have := oddS_app (ts.take k) (ts.drop k)
  rw [List.take_append_drop, h] at this
  simpa using this
theorem size_it : (Try.prog.info? 48).map (·.size) = some 3 := by kernel_rfl
set_option maxRecDepth 100000 in
set_option maxHeartbeats 8000000 in
theorem measured_list {X : List Int} {ts : List Tr} {a1 a2 : Option Addr} {b o c1 c2 : Nat} (h : odd1 true X ts = false) (hn : wtS ts < 4194304) (hc : ts.length ≤ c2) (ha : ts = [] ∨ a2 = some ⟨b, o, none⟩) (w : World) (hI : Its w b o ts)
    (ih : ∀ t ∈ ts, ∀ {d q : Value} (_ : wtT t < 4194304) (w : World) (_ : It w t d q), Calls Try.prog 49 #[itV t d q] w fun e w' => e = .returned (mV t) ∧ Below w.heap.size w w') :
    Calls Try.prog 49 #[.agg #[.bool true, .slice a1 X.length c1, .slice a2 ts.length c2]] w fun e w' => e = .returned (if oddS ts then .agg #[.bool true, .int .i64 0, .int .i64 0] else .agg #[.bool false, .int .i64 (dpS ts + 1 : Nat), .int .i64 ((hdR 192 (encS ts).length).length + (encS ts).length : Nat)]) ∧ Below w.heap.size w w' := by
  have C := fun w => isOdd_any (l := true) (X := X) (ts := ts) (a1 := a1) (a2 := a2) (c1 := c1) (c2 := c2) w
  rw [h] at C
  have HI : Hid (∀ W, Below w.heap.size w W → Its W b o ts) := fun W B => Its.of fun i hi => by
    obtain ⟨d, q, e1, e2⟩ := hI.at i hi
    exact ⟨d, q, rangeT_keep e1 B, It.keep B _ e2⟩
  have HN : Hid (wtS ts < 4194304 ∧ ts.length ≤ c2 ∧ (ts = [] ∨ a2 = some ⟨b, o, none⟩)) := ⟨hn, hc, ha⟩
  have IH : Hid (∀ t ∈ ts, ∀ {d q : Value} (_ : wtT t < 4194304) (w : World) (_ : It w t d q), Calls Try.prog 49 #[itV t d q] w fun e w' => e = .returned (mV t) ∧ Below w.heap.size w w') := ih
  have hl : (ts.length : Int) ≤ 4194304 := by have := len_wt ts; omega
  clear h hn ha hI ih hc
  obtain ⟨Z, hZ⟩ : ∃ Z : Value, (if oddS ts then .agg #[.bool true, .int .i64 0, .int .i64 0] else .agg #[.bool false, .int .i64 (dpS ts + 1 : Nat), .int .i64 ((hdR 192 (encS ts).length).length + (encS ts).length : Nat)]) = Z := ⟨_, rfl⟩
  rw [hZ]
  have HZ : Hid _ := hZ
  clear hZ
  generalize X.length = n at *
  go_enter Try.func49, Try.ntmps49
  refine wp_seq_k fun K h => ?_
  have H : Hid _ := h
  clear h
  go_wp2_with fail
  refine H.out _ _ ?_
  clear H K
  refine wp_world (fun W => Below w.heap.size w W ∧ Bx W w.heap.size true (.slice a1 n c1) (.slice a2 ts.length c2) ∧ Hb W (w.heap.size + 1) false 0 0 ∧ Fr3 W (w.heap.size + 1)) ⟨((Below.refl _ _).alloc (Nat.le_refl _) _).alloc (by simp) _, ⟨by simp [go_sem], by simp [go_sem], by simp [go_sem]⟩, ⟨by simp [go_sem], by simp [go_sem], by simp [go_sem]⟩, ⟨by simp [go_sem], by simp [go_sem], by simp [go_sem]⟩⟩ ?_
  rintro W ⟨B, hX, hR, hF⟩
  obtain ⟨x0, x1, x2⟩ := hX
  refine wp_seq_k fun K h => ?_
  have H : Hid _ := h
  clear h
  go_wp2_with ((with_reducible refine (C _).mono ?_); rintro e1 w1 ⟨rfl, hw⟩; (replace B := B.trans (hw.mono B.size)); (replace hF := hF.keep hR.lt hw); (replace hR := hR.keep hw); (replace x0 := keepC hw x0); (replace x2 := keepC hw x2); (clear x1))
  refine H.out _ _ ?_
  clear H K C hw
  refine wp_seq_k fun K h => ?_
  have H : Hid _ := h
  clear h
  go_wp2_with fail
  refine H.out _ _ ?_
  clear H K x0
  refine wp_seq_k fun K h => ?_
  have H : Hid _ := h
  clear h
  go_wp2_with fail
  refine H.out _ _ ?_
  clear H K
  refine wp_world (fun V => Below w.heap.size w V ∧ Hb V (w.heap.size + 1) false 0 0 ∧ Fr3 V (w.heap.size + 1) ∧ Hb V w1.heap.size false 0 0 ∧ Fr3 V w1.heap.size ∧ w.heap.size + 1 < w1.heap.size ∧ V.cell? ⟨w.heap.size, 2, none⟩ = some (.slice a2 ts.length c2)) ⟨B.alloc B.size _, hR.keep ((Below.refl _ _).alloc (Nat.le_refl _) _), hF.keep hR.lt ((Below.refl _ _).alloc (Nat.le_refl _) _), Hb.new, Fr3.new, hR.lt, keepC ((Below.refl _ _).alloc (Nat.le_refl _) _) x2⟩ ?_
  clear B hR hF x2
  generalize w1.heap.size = s
  clear w1 W
  rintro V ⟨B, hR, hF, hS, hG, hs, x2⟩
  have hs' : s ≠ w.heap.size + 1 := by omega
  go_wp2_with fail
  go_loopg [20] ts.length (fun k iv wr => ∃ i : Nat, k = ts.length - i ∧ i ≤ ts.length ∧ iv = .int .i64 (i : Int) ∧ oddS (ts.take i) = false ∧ Below w.heap.size w wr ∧ Hb wr (w.heap.size + 1) false 0 0 ∧ Fr3 wr (w.heap.size + 1) ∧ Hb wr s false (dpS (ts.take i)) (encS (ts.take i)).length ∧ Fr3 wr s)
  case atStart => exact ⟨0, rfl, Nat.zero_le _, rfl, by simp [oddS], B, hR, hF, by simpa [dpS, encS] using hS, hG⟩
  case round =>
    clear B hR hF hS hG x2 V
    obtain ⟨i, hk, hi, rfl, hO, B, hR, hF, hS, hG⟩ := hrel
    have HK : Hid (gk = ts.length - i ∧ i ≤ ts.length) := ⟨hk, hi⟩
    clear hk
    by_cases h8 : i = ts.length
    · subst h8
      rw [List.take_length] at hO hS
      have hE := encS_len ts
      have hD := dpS_le ts
      have h4 := hdR_len 192 (encS ts).length
      have HS : Hid (∀ w, Calls Try.prog 69 #[.int .i64 ((encS ts).length : Int)] w fun e w' => e = .returned (.int .i64 ((hdR 192 (encS ts).length).length : Int)) ∧ Below w.heap.size w w') := fun w => (headSize_any (by have := HN.out.1; omega) w).mono fun e w' h => ⟨h.1, by rw [h.2]; exact Below.refl _ _⟩
      have HB : Hid ((hdR 192 (encS ts).length).length ≤ 4 ∧ (encS ts).length < 16777216 ∧ dpS ts < 16777216) := ⟨h4, by have := HN.out.1; omega, by have := HN.out.1; omega⟩
      have EZ : Hid (Z = .agg #[.bool false, .int .i64 (dpS ts + 1 : Nat), .int .i64 ((hdR 192 (encS ts).length).length + (encS ts).length : Nat)]) := by
        have := HZ.out
        rw [hO] at this
        exact this.symm
      clear HZ HN IH HI HK hE hD h4 hi hl hO
      generalize (hdR 192 (encS ts).length).length = r at *
      generalize (encS ts).length = E at *
      generalize dpS ts = D at *
      generalize ts.length = m at *
      have gS1 := fun d os => (hS.keep (below_regrown wr d os)).2.1
      have gS2 := fun d os => (hS.keep (below_regrown wr d os)).2.2
      clear hG
      refine wp_seq_k fun K h => ?_
      have H : Hid _ := h
      clear h
      go_wp2_with fail
      refine H.out _ _ ?_
      clear H K
      go_wp2_with fail
      refine below_tail 10 (by kernel_rfl) (by kernel_rfl) ?_
      simp only [List.take_succ_cons, List.take_zero, List.drop_succ_cons, List.drop_zero]
      repeat
        first
          | go_big_quiet_skip
          | (go_big_quiet_want; go_big_quiet_op; go_big_quiet_on)
          | (go_big_quiet_want
             go_big_quiet_op
             apply Exists.intro
             refine ⟨fun p => ?_, ?_⟩
             · (go_at_call 69; with_reducible exact Calls.regrown_of (HS.out _))
             go_big_quiet_on)
      refine wpQuiet_nil ?_
      rintro w2 ⟨p, rfl⟩
      have hb := below_regrown wr p.d p.os
      generalize grow (redrawn wr p.d) p.os = w2 at *
      replace B := B.trans (hb.mono B.size)
      replace hF := hF.keep hR.lt hb
      replace hR := hR.keep hb
      clear hb gS1 gS2 hS
      obtain ⟨r0, r1, r2⟩ := hR
      obtain ⟨z0, z1, z2⟩ := hF
      go_wp2
      simp [bodyPost, results, Try.results49, go_sem, r0, r1, r2]
      have := HB.out
      refine ⟨?_, ((B.setCell (by show w.heap.size ≤ w.heap.size + 1; omega) _).setCell (by show w.heap.size ≤ w.heap.size + 1; omega) _).setCell (by show w.heap.size ≤ w.heap.size + 1; omega) _⟩
      rw [EZ.out]
      have e1 : wrap64 ((D : Int) + 1) = ((D + 1 : Nat) : Int) := by unfold wrap64; omega
      have e2 : wrap64 ((r : Int) + E) = ((r + E : Nat) : Int) := by unfold wrap64; omega
      rw [e1, e2]
    · have hlt : i < ts.length := by omega
      have hlt' : (i : Int) < (ts.length : Int) := by omega
      have ha : a2 = some ⟨b, o, none⟩ := by
        rcases HN.out.2.2 with e | e
        · rw [e] at hlt; exact absurd hlt (Nat.not_lt_zero _)
        · exact e
      subst ha
      obtain ⟨d, q, e1, e2⟩ := (HI.out wr B).at i hlt
      have hwt := wt_item hlt
      have e3 := take_snoc hlt
      have eo : oddS (ts.take (i + 1)) = oddT (ts.getD i zT) := by rw [e3, oddS_snoc, hO]; rfl
      have ed : dpS (ts.take (i + 1)) = max (dpS (ts.take i)) (dpT (ts.getD i zT)) := by rw [e3, dpS_snoc]
      have ee : (encS (ts.take (i + 1))).length = (encS (ts.take i)).length + (encT (ts.getD i zT)).length := by rw [e3, encS_app, List.length_append, encS, encS, List.append_nil]
      have hE := encS_len (ts.take i)
      have hE2 := encT_len (ts.getD i zT)
      have R1 : Hid (wr.rangeAt b (o + i * 3) [.bool (ts.getD i zT).l, d, q]) := e1
      have MC : Hid (∀ W, Below wr.heap.size wr W → Calls Try.prog 49 #[.agg #[.bool (ts.getD i zT).l, d, q]] W fun e w' => e = .returned (mV (ts.getD i zT)) ∧ Below W.heap.size W w') := fun W B => IH.out _ (getT_mem hlt) (by have := HN.out.1; omega) W (It.keep B _ e2)
      have dq : ∃ k1 k2 k3 k4 k5 k6, d = .slice k1 k2 k3 ∧ q = .slice k4 k5 k6 := by
        revert e2
        cases ts.getD i zT with
        | mk l' X' ts' =>
          intro e2
          rw [It] at e2
          obtain ⟨⟨k1, _, _, k3, h1, _⟩, k4, _, _, k6, h2, _⟩ := e2
          exact ⟨_, _, _, _, _, _, h1, h2⟩
      obtain ⟨k1, k2, k3, k4, k5, k6, rfl, rfl⟩ := dq
      unfold mV at MC
      have fw := fun (V : World) (BV : Below wr.heap.size wr V) => (⟨B.trans (BV.mono B.size), hR.keep BV, hF.keep hR.lt BV, hS.keep BV, hG.keep hS.lt BV⟩ : Below w.heap.size w V ∧ Hb V (w.heap.size + 1) false 0 0 ∧ Fr3 V (w.heap.size + 1) ∧ Hb V s false (dpS (ts.take i)) (encS (ts.take i)).length ∧ Fr3 V s)
      have FW : Hid _ := fw
      cases hod : oddT (ts.getD i zT) with
      | true =>
        rw [hod] at MC eo
        have MC' : Hid (∀ W, Below wr.heap.size wr W → Calls Try.prog 49 #[.agg #[.bool (ts.getD i zT).l, .slice k1 k2 k3, .slice k4 k5 k6]] W fun e w' => e = .returned (.agg #[.bool true, .int .i64 0, .int .i64 0]) ∧ Below W.heap.size W w') := MC
        clear MC
        have EZ : Hid (Z = .agg #[.bool true, .int .i64 0, .int .i64 0]) := by
          have := HZ.out
          have e : oddS ts = true := oddS_take eo
          rw [e] at this
          exact this.symm
        clear e1 e2 hwt e3 eo ed ee hE hE2 fw hod hS hR hF hG HZ IH HI hO
        generalize (ts.getD i zT).l = lt at *
        generalize (encS (ts.take i)).length = E at *
        generalize dpS (ts.take i) = D at *
        generalize ts.length = m at *
        refine wp_seq_k fun K h => ?_
        have H : Hid _ := h
        clear h
        go_wp2_with fail
        refine H.out _ _ ?_
        clear H K
        refine wp_seq_k fun K h => ?_
        have H : Hid _ := h
        clear h
        go_wp2_with fail
        refine H.out _ _ ?_
        clear H K
        refine wp_seq_k fun K h => ?_
        have H14 : Hid _ := h
        clear h
        refine wp_block ?_
        refine wp_seq_k fun K h => ?_
        have H : Hid _ := h
        clear h
        go_wp2_with (refine wpList_load_mid rfl _ _ rfl b (o + i * 3) rfl _ _ R1.out Try.underlying48 rfl size_it ?_)
        refine H.out _ _ ?_
        clear H K R1
        refine wp_world (fun V => Below wr.heap.size wr V ∧ Bx V wr.heap.size lt (.slice k1 k2 k3) (.slice k4 k5 k6)) ⟨(Below.refl _ _).alloc (Nat.le_refl _) _, ⟨by simp [go_sem], by simp [go_sem], by simp [go_sem]⟩⟩ ?_
        rintro V ⟨BV, x0, x1, x2⟩
        refine wp_seq_k fun K h => ?_
        have H : Hid _ := h
        clear h
        go_wp2_with ((with_reducible refine (MC'.out _ BV).mono ?_); rintro e1 w2 ⟨rfl, hw⟩)
        refine H.out _ _ ?_
        clear H K
        replace BV := BV.trans (hw.mono BV.size)
        clear hw x0 x1 x2
        refine wp_world (fun U => Below wr.heap.size wr U ∧ Hb U w2.heap.size true 0 0) ⟨BV.alloc BV.size _, Hb.new⟩ ?_
        clear BV
        generalize w2.heap.size = v
        clear V w2
        rintro V ⟨BV, hV⟩
        obtain ⟨B2, hR, hF, hS, hG⟩ := FW.out V BV
        obtain ⟨v0, v1, v2⟩ := hV
        obtain ⟨r0, r1, r2⟩ := hR
        obtain ⟨z0, z1, z2⟩ := hF
        clear v1 v2 hS hG H14
        go_wp2
        simp [bodyPost, results, Try.results49, go_sem, r0, r1, r2]
        exact ⟨EZ.out.symm, ((B2.setCell (by show w.heap.size ≤ w.heap.size + 1; omega) _).setCell (by show w.heap.size ≤ w.heap.size + 1; omega) _).setCell (by show w.heap.size ≤ w.heap.size + 1; omega) _⟩
      | false =>
        rw [hod] at MC eo
        have MC' : Hid (∀ W, Below wr.heap.size wr W → Calls Try.prog 49 #[.agg #[.bool (ts.getD i zT).l, .slice k1 k2 k3, .slice k4 k5 k6]] W fun e w' => e = .returned (.agg #[.bool false, .int .i64 (dpT (ts.getD i zT)), .int .i64 (encT (ts.getD i zT)).length]) ∧ Below W.heap.size W w') := MC
        clear MC
        have NX : Hid (oddS (ts.take (i + 1)) = false ∧ dpS (ts.take (i + 1)) = max (dpS (ts.take i)) (dpT (ts.getD i zT)) ∧ (encS (ts.take (i + 1))).length = (encS (ts.take i)).length + (encT (ts.getD i zT)).length ∧ (encS (ts.take i)).length + (encT (ts.getD i zT)).length < 16777216) := ⟨eo, ed, ee, by have := HN.out.1; omega⟩
        have HP : Hid (Below w.heap.size w wr) := B
        clear e1 e2 hwt e3 eo ed ee hE hE2 fw hod hS hR hF hG IH HI hO B
        generalize (ts.getD i zT).l = lt at *
        generalize (encS (ts.take i)).length = E at *
        generalize dpS (ts.take i) = D at *
        generalize (encT (ts.getD i zT)).length = E1 at *
        generalize dpT (ts.getD i zT) = D1 at *
        refine wp_seq_k fun K h => ?_
        have H : Hid _ := h
        clear h
        go_wp2_with fail
        refine H.out _ _ ?_
        clear H K
        refine wp_seq_k fun K h => ?_
        have H : Hid _ := h
        clear h
        go_wp2_with fail
        refine H.out _ _ ?_
        clear H K
        refine wp_seq_k fun K h => ?_
        have H14 : Hid _ := h
        clear h
        refine wp_block ?_
        refine wp_seq_k fun K h => ?_
        have H : Hid _ := h
        clear h
        go_wp2_with (refine wpList_load_mid rfl _ _ rfl b (o + i * 3) rfl _ _ R1.out Try.underlying48 rfl size_it ?_)
        refine H.out _ _ ?_
        clear H K R1
        refine wp_world (fun V => Below wr.heap.size wr V ∧ Bx V wr.heap.size lt (.slice k1 k2 k3) (.slice k4 k5 k6)) ⟨(Below.refl _ _).alloc (Nat.le_refl _) _, ⟨by simp [go_sem], by simp [go_sem], by simp [go_sem]⟩⟩ ?_
        rintro V ⟨BV, x0, x1, x2⟩
        refine wp_seq_k fun K h => ?_
        have H : Hid _ := h
        clear h
        go_wp2_with ((with_reducible refine (MC'.out _ BV).mono ?_); rintro e1 w2 ⟨rfl, hw⟩)
        refine H.out _ _ ?_
        clear H K
        replace BV := BV.trans (hw.mono BV.size)
        clear hw x0 x1 x2
        refine wp_world (fun U => Below wr.heap.size wr U ∧ Hb U w2.heap.size false D1 E1 ∧ wr.heap.size ≤ w2.heap.size) ⟨BV.alloc BV.size _, Hb.new, BV.size⟩ ?_
        clear BV
        generalize w2.heap.size = v
        clear V w2
        rintro V ⟨BV, hV, hv⟩
        obtain ⟨B2, hR, hF, hS, hG⟩ := FW.out V BV
        obtain ⟨v0, v1, v2⟩ := hV
        have hsw : w.heap.size ≤ s := by omega
        have hS' := hS
        have hG' := hG
        obtain ⟨s0, s1, s2⟩ := hS'
        obtain ⟨g0, g1, g2⟩ := hG'
        go_wp2_with fail
        refine H14.out _ _ ?_
        have eE : wrap64 ((E : Int) + E1) = ((E + E1 : Nat) : Int) := by have := NX.out.2.2.2; unfold wrap64; omega
        have eD : max (D : Int) (D1 : Int) = ((max D D1 : Nat) : Int) := by omega
        rw [eE, eD]
        refine wp_world (fun U => Below w.heap.size w U ∧ Hb U (w.heap.size + 1) false 0 0 ∧ Fr3 U (w.heap.size + 1) ∧ Hb U s false (max D D1 : Nat) (E + E1 : Nat) ∧ Fr3 U s) ⟨(B2.setCell hsw _).setCell hsw _, (hR.other hs' _).other hs' _, (hF.set _ _).set _ _, (hS.size _).held _, (hG.set _ _).set _ _⟩ ?_
        clear B2 hR hF hS hG s0 s1 s2 g0 g1 g2 eE eD H14 v0 v1 v2 hv BV
        rintro U ⟨B2, hR, hF, hS, hG⟩
        clear V
        go_wp2_with fail
        go_roundg (ts.length - (i + 1))
        case measure => have := HK.out.1; omega
        case rel => exact ⟨i + 1, rfl, hlt, by go_num, NX.out.1, B2, hR, hF, by rw [NX.out.2.1, NX.out.2.2.1]; exact hS, hG⟩
/-- The program's measured, of any tree. -/
theorem measured_any : ∀ (t : Tr) {d q : Value} (_ : wtT t < 4194304) (w : World) (_ : It w t d q),
    Calls Try.prog 49 #[itV t d q] w fun e w' => e = .returned (mV t) ∧ Below w.heap.size w w' := by
  refine Tr.ind fun l X ts ih d q hw w h => ?_
  rw [It] at h
  obtain ⟨⟨a, b, o, c, rfl, h2, h3, h4⟩, a', b', o', c', rfl, k2, k3, k4⟩ := h
  rw [wtT] at hw
  show Calls Try.prog 49 #[.agg #[.bool l, .slice a X.length c, .slice a' ts.length c']] w _
  unfold mV
  rw [oddT]
  cases ho : odd1 l X ts with
  | true => exact measured_odd ho w
  | false =>
    rw [Bool.false_or, dpT, encT]
    cases l with
    | true =>
      have := measured_list (a1 := a) (c1 := c) ho (by omega) k2.1 k3 w k4 ih
      refine this.mono fun e w' h => ⟨?_, h.2⟩
      rw [h.1, ← List.length_append]
      rfl
    | false =>
      have e : ts = [] := by
        unfold odd1 at ho
        simp at ho
        exact List.eq_nil_of_length_eq_zero (by simpa using ho)
      have := measured_text (a2 := a') (c1 := c) (c2 := c') ho (by omega) h3 w h4
      refine this.mono fun e' w' h => ⟨?_, h.2⟩
      rw [h.1, e, oddS]
      rfl
end Go.Proofs.Ytaefmdofchjofaa

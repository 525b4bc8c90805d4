import Derived.Test.YtahekhamhdfkdaaRxD
/- Layer 7: the document's Same, of any two trees. -/
namespace Go.Proofs.Ytahekhamhdfkdaa
open Go.RowKit Go.Sort
theorem take_snocX {X : List Int} {i : Nat} (h : i < X.length) : X.take (i + 1) = X.take i ++ [X.getD i 0] := by
  rw [List.take_add_one, List.getD, List.getElem?_eq_getElem h]; rfl
/-- Are two trees one? -/
noncomputable def eqT (t t' : Tr) : Bool := @decide (t = t') (Classical.propDecidable _)
theorem eqT_yes {t t' : Tr} (h : t = t') : eqT t t' = true := by unfold eqT; exact @decide_eq_true _ (Classical.propDecidable _) h
theorem eqT_no {t t' : Tr} (h : t ≠ t') : eqT t t' = false := by unfold eqT; exact @decide_eq_false _ (Classical.propDecidable _) h
theorem eqT_iff {t t' : Tr} : eqT t t' = true ↔ t = t' := ⟨fun h => by
  by_cases k : t = t'
  · exact k
  · rw [eqT_no k] at h; exact absurd h (by decide), eqT_yes⟩
set_option maxRecDepth 100000 in
set_option maxHeartbeats 4000000 in
theorem rSame_head {l l' : Bool} {n n' m m' c c' r r' : Nat} {a a' p p' : Option Addr} (hne : l ≠ l' ∨ n ≠ n' ∨ m ≠ m') (w : World) : Calls Try.prog 13 #[.agg #[.bool l, .slice a n c, .slice p m r], .agg #[.bool l', .slice a' n' c', .slice p' m' r']] w fun e w' => e = .returned (.bool false) ∧ Below w.heap.size w w' := by
  by_cases k1 : l = l'
  · subst k1
    have hll : (l != l) = false := by simp
    by_cases k2 : n = n'
    · subst k2
      have k3 : m ≠ m' := by
        rcases hne with x | x | x
        · exact absurd rfl x
        · exact absurd rfl x
        · exact x
      have b1 : ((m : Int) == (m' : Int)) = false := beq_false_of_ne (by omega)
      have b2 : ((m : Int) != (m' : Int)) = true := bne_iff_ne.2 (by omega)
      have b3 : ((n : Int) != (n : Int)) = false := by simp
      clear hne
      go_enter Try.func13, Try.ntmps13
      go_wp2
      simp [bodyPost, results, Try.results13, go_sem]
      exact ((Below.refl _ _).alloc (Nat.le_refl _) _).alloc (by simp) _
    · have b1 : ((n : Int) == (n' : Int)) = false := beq_false_of_ne (by omega)
      have b2 : ((n : Int) != (n' : Int)) = true := bne_iff_ne.2 (by omega)
      clear hne
      go_enter Try.func13, Try.ntmps13
      go_wp2
      simp [bodyPost, results, Try.results13, go_sem]
      exact ((Below.refl _ _).alloc (Nat.le_refl _) _).alloc (by simp) _
  · have hll : (l != l') = true := bne_iff_ne.2 k1
    have hl2 : (l == l') = false := beq_false_of_ne k1
    clear hne
    go_enter Try.func13, Try.ntmps13
    go_wp2
    simp [bodyPost, results, Try.results13, go_sem]
    exact ((Below.refl _ _).alloc (Nat.le_refl _) _).alloc (by simp) _
set_option maxRecDepth 100000 in
set_option maxHeartbeats 8000000 in
/-- The document's Same, of any two trees. -/
theorem rSame_any : ∀ (t : Tr) (t' : Tr) {d q d' q' : Value} (_ : wtT t < 67108864) (w : World) (_ : It w t d q) (_ : It w t' d' q'),
    Calls Try.prog 13 #[itV t d q, itV t' d' q'] w fun e w' => e = .returned (.bool (eqT t t')) ∧ Below w.heap.size w w' := by
  refine Tr.ind fun l X ts ih t' d q d' q' hn w h h' => ?_
  obtain ⟨l', X', ts'⟩ := t'
  rw [It] at h h'
  obtain ⟨⟨a, b, o, c, rfl, h2, h3, h4⟩, p, g, z, r, rfl, k2, k3, k4⟩ := h
  obtain ⟨⟨a', b', o', c', rfl, h2', h3', h4'⟩, p', g', z', r', rfl, k2', k3', k4'⟩ := h'
  rw [wtT] at hn
  show Calls Try.prog 13 #[.agg #[.bool l, .slice a X.length c, .slice p ts.length r], .agg #[.bool l', .slice a' X'.length c', .slice p' ts'.length r']] w _
  by_cases hd : l ≠ l' ∨ X.length ≠ X'.length ∨ ts.length ≠ ts'.length
  · rw [eqT_no (fun e => by
      injection e with e1 e2 e3
      rcases hd with x | x | x
      · exact x e1
      · exact x (by rw [e2])
      · exact x (by rw [e3]))]
    exact rSame_head hd w
  obtain ⟨hl1, hl2, hl3⟩ : l = l' ∧ X'.length = X.length ∧ ts'.length = ts.length := by
    refine ⟨Decidable.byContradiction fun x => hd (.inl x), ?_, ?_⟩
    · exact Decidable.byContradiction fun x => hd (.inr (.inl fun y => x y.symm))
    · exact Decidable.byContradiction fun x => hd (.inr (.inr fun y => x y.symm))
  subst hl1
  rw [hl2, hl3]
  obtain ⟨R, hR⟩ : ∃ R, R = eqT (.mk l X ts) (.mk l X' ts') := ⟨_, rfl⟩
  rw [← hR]
  have HF : Hid ((X ≠ X' → R = false) ∧ (ts ≠ ts' → R = false) ∧ (X = X' → ts = ts' → R = true)) := ⟨fun x => by rw [hR]; exact eqT_no fun e => by injection e with _ e2 _; exact x e2, fun x => by rw [hR]; exact eqT_no fun e => by injection e with _ _ e3; exact x e3, fun x y => by rw [hR, x, y]; exact eqT_yes rfl⟩
  have HE : Hid (X'.length = X.length ∧ ts'.length = ts.length) := ⟨hl2, hl3⟩
  have HA : Hid (Az a b o X ∧ Az a' b' o' X' ∧ X.length < 67108864) := ⟨h3, h3', by omega⟩
  have HZ : Hid (∀ W, Below w.heap.size w W → Bz W b o X ∧ Bz W b' o' X') := fun W B => ⟨h4.keep B, h4'.keep B⟩
  have HI : Hid (Its w g z ts ∧ Its w g' z' ts') := ⟨k4, k4'⟩
  have HN : Hid (wtS ts < 67108864 ∧ (ts = [] ∨ p = some ⟨g, z, none⟩) ∧ (ts' = [] ∨ p' = some ⟨g', z', none⟩)) := ⟨by omega, k3, k3'⟩
  have IH : Hid (∀ t ∈ ts, ∀ (t' : Tr) {d q d' q' : Value} (_ : wtT t < 67108864) (w : World) (_ : It w t d q) (_ : It w t' d' q'), Calls Try.prog 13 #[itV t d q, itV t' d' q'] w fun e w' => e = .returned (.bool (eqT t t')) ∧ Below w.heap.size w w') := @ih
  have hl : (ts.length : Int) ≤ 67108864 := by have := len_wt ts; omega
  have hx : (X.length : Int) ≤ 67108864 := by omega
  clear h2 h3 h4 k2 k3 k4 h2' h3' h4' k2' k3' k4' hn ih hd hl2 hl3 hR
  go_enter Try.func13, Try.ntmps13
  refine wp_seq_k fun K h => ?_
  have H : Hid _ := h
  clear h
  go_wp2_with fail
  refine H.out _ _ ?_
  clear H K
  refine wp_world (fun W => Below w.heap.size w W ∧ Bx W w.heap.size l (.slice a X.length c) (.slice p ts.length r) ∧ Bx W (w.heap.size + 1) l (.slice a' X.length c') (.slice p' ts.length r')) ⟨((Below.refl _ _).alloc (Nat.le_refl _) _).alloc (by simp) _, ⟨by simp [go_sem], by simp [go_sem], by simp [go_sem]⟩, ⟨by simp [go_sem], by simp [go_sem], by simp [go_sem]⟩⟩ ?_
  rintro W ⟨B, hX, hY⟩
  have FW : Hid (∀ V, Below W.heap.size W V → Below w.heap.size w V ∧ Bx V w.heap.size l (.slice a X.length c) (.slice p ts.length r) ∧ Bx V (w.heap.size + 1) l (.slice a' X.length c') (.slice p' ts.length r')) := fun V hV => ⟨B.trans (hV.mono B.size), hX.keep hV, hY.keep hV⟩
  refine wp_seq_k fun K h => ?_
  have H : Hid _ := h
  clear h
  obtain ⟨x0, x1, x2⟩ := hX
  obtain ⟨y0, y1, y2⟩ := hY
  clear B
  have hll : (l != l) = false := by simp
  go_wp2_with fail
  refine H.out _ _ ?_
  clear H K x0 x1 x2 y0 y1 y2 hll
  go_wp2_with fail
  go_loopg [5] X.length (fun k iv wr => ∃ i : Nat, k = X.length - i ∧ i ≤ X.length ∧ iv = .int .i64 (i : Int) ∧ Below W.heap.size W wr ∧ X.take i = X'.take i)
  case atStart => exact ⟨0, rfl, Nat.zero_le _, rfl, Below.refl _ _, by rw [List.take_zero, List.take_zero]⟩
  case round =>
    obtain ⟨i, hk, hi, rfl, B, hpre⟩ := hrel
    have HK : Hid (gk = X.length - i ∧ i ≤ X.length) := ⟨hk, hi⟩
    have HPX : Hid (X.take i = X'.take i) := hpre
    clear hk hpre
    obtain ⟨B0, hX, hY⟩ := FW.out wr B
    have hX' := hX
    obtain ⟨x0, x1, x2⟩ := hX'
    by_cases h8 : i = X.length
    · subst h8
      have EXX : Hid (X = X') := by
        have h := HPX.out
        rw [List.take_length, List.take_of_length_le (by rw [HE.out.1]; exact Nat.le_refl _)] at h
        exact h
      clear HK hi HPX
      go_wp2_with fail
      clear x0 x1 x2 hX hY B0
      go_loopg [6] ts.length (fun k iv wr => ∃ i : Nat, k = ts.length - i ∧ i ≤ ts.length ∧ iv = .int .i64 (i : Int) ∧ Below W.heap.size W wr ∧ ts.take i = ts'.take i)
      case atStart => exact ⟨0, rfl, Nat.zero_le _, rfl, B, by rw [List.take_zero, List.take_zero]⟩
      case round =>
        obtain ⟨wo, rfl⟩ : ∃ wo : World, wo = wr := ⟨wr, rfl⟩
        clear B
        obtain ⟨i, hk, hi, rfl, B, hpre⟩ := hrel
        have HK : Hid (gk = ts.length - i ∧ i ≤ ts.length) := ⟨hk, hi⟩
        have HPX : Hid (ts.take i = ts'.take i) := hpre
        clear hk hpre
        obtain ⟨B0, hX, hY⟩ := FW.out _ B
        have hX' := hX
        obtain ⟨x0, x1, x2⟩ := hX'
        by_cases h8 : i = ts.length
        · subst h8
          have hR : R = true := HF.out.2.2 EXX.out (by
            have h := HPX.out
            rw [List.take_length, List.take_of_length_le (by rw [HE.out.2]; exact Nat.le_refl _)] at h
            exact h)
          clear HK hi HPX HF
          subst hR
          go_wp2
          simp [bodyPost, results, Try.results13, go_sem]
          exact B0
        · have hlt : i < ts.length := by omega
          have hlt' : (i : Int) < (ts.length : Int) := by omega
          have ea : p = some ⟨g, z, none⟩ := by
            rcases HN.out.2.1 with e | e
            · rw [e] at hlt; exact absurd hlt (Nat.not_lt_zero _)
            · exact e
          have ea' : p' = some ⟨g', z', none⟩ := by
            rcases HN.out.2.2 with e | e
            · have h := HE.out.2; rw [e] at h; rw [← h] at hlt; exact absurd hlt (Nat.not_lt_zero _)
            · exact e
          subst ea ea'
          obtain ⟨d1, q1, e1, e2⟩ := HI.out.1.at i hlt
          obtain ⟨d2, q2, f1, f2⟩ := HI.out.2.at i (by rw [HE.out.2]; exact hlt)
          have hwt := wt_item hlt
          have ldA : ∀ w', (∃ p : Regrown, w' = grow (redrawn wo p.d) p.os) → w'.rangeAt g (z + i * 3) [.bool (ts.getD i zT).l, d1, q1] := by rintro w' ⟨rg, rfl⟩; exact rangeT_keep (rangeT_keep e1 B0) (below_regrown wo rg.d rg.os)
          have ldB : ∀ w', (∃ p : Regrown, w' = grow (redrawn wo p.d) p.os) → w'.rangeAt g' (z' + i * 3) [.bool (ts'.getD i zT).l, d2, q2] := by rintro w' ⟨rg, rfl⟩; exact rangeT_keep (rangeT_keep f1 B0) (below_regrown wo rg.d rg.os)
          have MC : Hid (∀ d os, Calls Try.prog 13 #[.agg #[.bool (ts.getD i zT).l, d1, q1], .agg #[.bool (ts'.getD i zT).l, d2, q2]] (grow (redrawn wo d) os) fun e w' => e = .returned (.bool (eqT (ts.getD i zT) (ts'.getD i zT))) ∧ Below (grow (redrawn wo d) os).heap.size (grow (redrawn wo d) os) w') := fun d os => IH.out _ (getT_mem hlt) _ (by have := HN.out.1; omega) _ (It.keep (below_regrown wo d os) _ (It.keep B0 _ e2)) (It.keep (below_regrown wo d os) _ (It.keep B0 _ f2))
          have gx2 := fun d os => (hX.keep (below_regrown wo d os)).2.2
          have gy2 := fun d os => (hY.keep (below_regrown wo d os)).2.2
          clear e1 e2 f1 f2 hwt hi h8
          have HNX : Hid ((eqT (ts.getD i zT) (ts'.getD i zT) = true → ts.take (i + 1) = ts'.take (i + 1)) ∧ (eqT (ts.getD i zT) (ts'.getD i zT) = false → R = false)) := ⟨fun x => by rw [take_snoc hlt, take_snoc (by rw [HE.out.2]; exact hlt), HPX.out, eqT_iff.1 x], fun x => HF.out.2.1 fun y => by rw [y, eqT_yes rfl] at x; cases x⟩
          generalize eqT (ts.getD i zT) (ts'.getD i zT) = bb at *
          generalize (ts.getD i zT).l = lt at *
          generalize (ts'.getD i zT).l = lt2 at *
          refine wp_seq_k fun K h => ?_
          have H5 : Hid _ := h
          clear h
          go_wp2_with fail
          refine H5.out _ _ ?_
          clear H5 K
          refine wp_seq_k fun K h => ?_
          have H5 : Hid _ := h
          clear h
          refine wp_block ?_
          refine wp_seq_k fun K h => ?_
          have H : Hid _ := h
          clear h
          clear x0 x1 x2
          refine wp_region_quiet_below (by kernel_rfl) (by kernel_rfl) ?_
          repeat
            first
              | go_big_quiet_skip
              | (go_big_quiet_want; refine quiet_load_midT 26 _ rfl g (z + i * 3) rfl _ _ ldA Try.underlying26 rfl size_it ?_; simp only [Act.put, List.setIfInBounds_toArray, List.set_cons_succ, List.set_cons_zero]; go_big_quiet_on)
              | (go_big_quiet_want; refine quiet_load_midT 26 _ rfl g' (z' + i * 3) rfl _ _ ldB Try.underlying26 rfl size_it ?_; simp only [Act.put, List.setIfInBounds_toArray, List.set_cons_succ, List.set_cons_zero]; go_big_quiet_on)
              | (go_big_quiet_want; go_big_quiet_op; go_big_quiet_on)
              | (go_big_quiet_want
                 go_big_quiet_op
                 apply Exists.intro
                 refine ⟨fun p => ?_, ?_⟩
                 · (go_at_call 13; with_reducible exact Calls.regrown_of (MC.out p.d p.os))
                 go_big_quiet_on)
          refine wpQuiet_nil ?_
          rintro w2 ⟨rg, rfl⟩
          have hb := below_regrown wo rg.d rg.os
          generalize grow (redrawn wo rg.d) rg.os = w2 at *
          clear gx2 gy2 ldA ldB MC
          have B2 := B.trans (hb.mono B.size)
          cases bb with
          | true =>
            have HX2 : Hid (ts.take (i + 1) = ts'.take (i + 1)) := HNX.out.1 rfl
            clear HNX HPX
            go_wp2_with fail
            refine H.out _ _ ?_
            clear H
            go_wp2_with fail
            refine H5.out _ _ ?_
            clear H5 hb hX hY B0
            go_wp2_with fail
            go_roundg (ts.length - (i + 1))
            case measure => have := HK.out.1; omega
            case rel => exact ⟨i + 1, rfl, hlt, by go_num, B2, HX2.out⟩
          | false =>
            have hR := HNX.out.2 rfl
            subst hR
            have BF := (FW.out _ B2).1
            clear HNX HPX HF
            go_wp2_with fail
            refine H.out _ _ ?_
            clear H
            go_wp2_with fail
            simp [bodyPost, results, Try.results13, go_sem]
            exact BF
    · have hlt : i < X.length := by omega
      have hlt' : (i : Int) < (X.length : Int) := by omega
      have ea := HA.out.1.cons (by omega)
      have ea' := HA.out.2.1.cons (by rw [HE.out.1]; omega)
      subst ea ea'
      obtain ⟨z1, z2⟩ := HZ.out wr B0
      have c1 := z1 i hlt
      have c2 := z2 i (by rw [HE.out.1]; exact hlt)
      have HNX : Hid ((X.getD i 0 = X'.getD i 0 → X.take (i + 1) = X'.take (i + 1)) ∧ (X.getD i 0 ≠ X'.getD i 0 → R = false)) := ⟨fun x => by rw [take_snocX hlt, take_snocX (by rw [HE.out.1]; exact hlt), HPX.out, x], fun x => HF.out.1 fun y => x (by rw [y])⟩
      generalize X.getD i 0 = u at *
      generalize X'.getD i 0 = u2 at *
      have gx1 := fun d os => (hX.keep (below_regrown wr d os)).2.1
      have gy1 := fun d os => (hY.keep (below_regrown wr d os)).2.1
      have gc1 := fun d os => keepC (below_regrown wr d os) c1
      have gc2 := fun d os => keepC (below_regrown wr d os) c2
      clear z1 z2 c1 c2 hi h8
      refine wp_seq_k fun K h => ?_
      have H5 : Hid _ := h
      clear h
      go_wp2_with fail
      refine H5.out _ _ ?_
      clear H5 K
      refine wp_seq_k fun K h => ?_
      have H5 : Hid _ := h
      clear h
      refine wp_block ?_
      refine wp_seq_k fun K h => ?_
      have H : Hid _ := h
      clear h
      clear x0 x1 x2
      refine wp_region_quiet_below (by kernel_rfl) (by kernel_rfl) ?_
      repeat
        first
          | go_big_quiet_skip
          | (go_big_quiet_want; go_big_quiet_op; go_big_quiet_on)
      refine wpQuiet_nil ?_
      rintro w2 ⟨rg, rfl⟩
      have hb := below_regrown wr rg.d rg.os
      generalize grow (redrawn wr rg.d) rg.os = w2 at *
      clear gx1 gy1 gc1 gc2
      have B2 := B.trans (hb.mono B.size)
      by_cases ku : u = u2
      · subst ku
        have HX2 : Hid (X.take (i + 1) = X'.take (i + 1)) := HNX.out.1 rfl
        clear HNX HPX
        go_wp2_with fail
        refine H.out _ _ ?_
        clear H
        have huu : (u != u) = false := by simp
        go_wp2_with fail
        refine H5.out _ _ ?_
        clear H5 huu hb hX hY B0
        go_wp2_with fail
        go_roundg (X.length - (i + 1))
        case measure => have := HK.out.1; omega
        case rel => exact ⟨i + 1, rfl, hlt, by go_num, B2, HX2.out⟩
      · have hR := HNX.out.2 ku
        subst hR
        have BF := (FW.out _ B2).1
        have hu1 : (u == u2) = false := beq_false_of_ne ku
        have hu2 : (u != u2) = true := bne_iff_ne.2 ku
        clear HNX HPX HF
        go_wp2_with fail
        refine H.out _ _ ?_
        clear H
        go_wp2_with fail
        simp [bodyPost, results, Try.results13, go_sem]
        exact BF
end Go.Proofs.Ytahekhamhdfkdaa

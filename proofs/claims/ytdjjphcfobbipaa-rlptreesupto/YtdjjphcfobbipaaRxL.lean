import Derived.Test.YtdjjphcfobbipaaRxK
/- Layer 7: the document's Same, of one tree in two places. -/
namespace Go.Proofs.Ytdjjphcfobbipaa
open Go.RowKit Go.Sort

theorem quiet_load_midT {P : Program} {C : World → Prop} {a : Act} {o : Oper} {K : Act → Prop} (ty : TypeId) (x : Operand) (ho : o.op = .load ty x)
    (b f : Nat) (hx : a.eval x = .pointer (some ⟨b, f, none⟩)) (cs : List Value) (d : TypeDesc) (hS : ∀ w, C w → w.rangeAt b f cs)
    (hu : P.underlying ty = some d) (hd : d.isRow = true) (hi : (P.info? ty).map (·.size) = some cs.length) (h : K (a.put o.dst (.agg cs.toArray))) : o.quiet P a C K :=
  ⟨.agg cs.toArray, fun w hw => by
    unfold Oper.quietAt execOp
    simp only [ho, hx, Instr.loadAt, Instr.sureAddr, Sem.run_bind, Sem.run_pure, Result.andThen_ok, run_loadVar_mid w b f ty cs d (hS w hw) hu hd hi]
    exact ⟨rfl, rfl⟩, h⟩
set_option maxRecDepth 100000 in
set_option maxHeartbeats 8000000 in
/-- The document's Same, of one tree that lies in two places. -/
theorem rSame_yes : ∀ (t : Tr) {d q d' q' : Value} (_ : wtT t < 4194304) (w : World) (_ : It w t d q) (_ : It w t d' q'),
    Calls Try.prog 9 #[itV t d q, itV t d' q'] w fun e w' => e = .returned (.bool true) ∧ Below w.heap.size w w' := by
  refine Tr.ind fun l X ts ih d q d' q' hn w h h' => ?_
  rw [It] at h h'
  obtain ⟨⟨a, b, o, c, rfl, h2, h3, h4⟩, p, g, z, r, rfl, k2, k3, k4⟩ := h
  obtain ⟨⟨a', b', o', c', rfl, h2', h3', h4'⟩, p', g', z', r', rfl, k2', k3', k4'⟩ := h'
  rw [wtT] at hn
  show Calls Try.prog 9 #[.agg #[.bool l, .slice a X.length c, .slice p ts.length r], .agg #[.bool l, .slice a' X.length c', .slice p' ts.length r']] w _
  have HA : Hid (Az a b o X ∧ Az a' b' o' X ∧ X.length < 4194304) := ⟨h3, h3', by omega⟩
  have HZ : Hid (∀ W, Below w.heap.size w W → Bz W b o X ∧ Bz W b' o' X) := fun W B => ⟨h4.keep B, h4'.keep B⟩
  have HI : Hid (Its w g z ts ∧ Its w g' z' ts) := ⟨k4, k4'⟩
  have HN : Hid (wtS ts < 4194304 ∧ (ts = [] ∨ p = some ⟨g, z, none⟩) ∧ (ts = [] ∨ p' = some ⟨g', z', none⟩)) := ⟨by omega, k3, k3'⟩
  have IH : Hid _ := @ih
  have hl : (ts.length : Int) ≤ 4194304 := by have := len_wt ts; omega
  have hx : (X.length : Int) ≤ 4194304 := by omega
  clear h2 h3 h4 k2 k3 k4 h2' h3' h4' k2' k3' k4' hn ih
  go_enter Try.func9, Try.ntmps9
  refine wp_seq_k fun K h => ?_
  have H : Hid _ := h
  clear h
  go_wp2_with fail
  refine H.out _ _ ?_
  clear H K
  refine wp_world (fun W => Below w.heap.size w W ∧ Bx W w.heap.size l (.slice a X.length c) (.slice p ts.length r) ∧ Bx W (w.heap.size + 1) l (.slice a' X.length c') (.slice p' ts.length r')) ⟨((Below.refl _ _).alloc (Nat.le_refl _) _).alloc (by simp) _, ⟨by simp [go_sem], by simp [go_sem], by simp [go_sem]⟩, ⟨by simp [go_sem], by simp [go_sem], by simp [go_sem]⟩⟩ ?_
  rintro W ⟨B, hX, hY⟩
  have FW : Hid (∀ V, Below W.heap.size W V → Below w.heap.size w V ∧ Bx V w.heap.size l (.slice a X.length c) (.slice p ts.length r) ∧ Bx V (w.heap.size + 1) l (.slice a' X.length c') (.slice p' ts.length r')) := fun V hV => ⟨B.trans (hV.mono B.size), hX.keep hV, hY.keep hV⟩
  refine wp_seq_k fun K h => ?_
  have H : Hid _ := h
  clear h
  obtain ⟨x0, x1, x2⟩ := hX
  obtain ⟨y0, y1, y2⟩ := hY
  clear B
  have hll : (l != l) = false := by simp
  go_wp2_with fail
  refine H.out _ _ ?_
  clear H K x0 x1 x2 y0 y1 y2 hll
  go_wp2_with fail
  go_loopg [5] X.length (fun k iv wr => ∃ i : Nat, k = X.length - i ∧ i ≤ X.length ∧ iv = .int .i64 (i : Int) ∧ Below W.heap.size W wr)
  case atStart => exact ⟨0, rfl, Nat.zero_le _, rfl, Below.refl _ _⟩
  case round =>
    obtain ⟨i, hk, hi, rfl, B⟩ := hrel
    have HK : Hid (gk = X.length - i ∧ i ≤ X.length) := ⟨hk, hi⟩
    clear hk
    obtain ⟨B0, hX, hY⟩ := FW.out wr B
    have hX' := hX
    obtain ⟨x0, x1, x2⟩ := hX'
    by_cases h8 : i = X.length
    · subst h8
      clear HK hi
      go_wp2_with fail
      clear x0 x1 x2 hX hY B0
      go_loopg [6] ts.length (fun k iv wr => ∃ i : Nat, k = ts.length - i ∧ i ≤ ts.length ∧ iv = .int .i64 (i : Int) ∧ Below W.heap.size W wr)
      case atStart => exact ⟨0, rfl, Nat.zero_le _, rfl, B⟩
      case round =>
        obtain ⟨wo, rfl⟩ : ∃ wo : World, wo = wr := ⟨wr, rfl⟩
        clear B
        obtain ⟨i, hk, hi, rfl, B⟩ := hrel
        have HK : Hid (gk = ts.length - i ∧ i ≤ ts.length) := ⟨hk, hi⟩
        clear hk
        obtain ⟨B0, hX, hY⟩ := FW.out _ B
        have hX' := hX
        obtain ⟨x0, x1, x2⟩ := hX'
        by_cases h8 : i = ts.length
        · subst h8
          clear HK hi
          go_wp2
          simp [bodyPost, results, Try.results9, go_sem]
          exact B0
        · have hlt : i < ts.length := by omega
          have hlt' : (i : Int) < (ts.length : Int) := by omega
          have ea : p = some ⟨g, z, none⟩ := by
            rcases HN.out.2.1 with e | e
            · rw [e] at hlt; exact absurd hlt (Nat.not_lt_zero _)
            · exact e
          have ea' : p' = some ⟨g', z', none⟩ := by
            rcases HN.out.2.2 with e | e
            · rw [e] at hlt; exact absurd hlt (Nat.not_lt_zero _)
            · exact e
          subst ea ea'
          obtain ⟨d1, q1, e1, e2⟩ := HI.out.1.at i hlt
          obtain ⟨d2, q2, f1, f2⟩ := HI.out.2.at i hlt
          have hwt := wt_item hlt
          have ldA : ∀ w', (∃ p : Regrown, w' = grow (redrawn wo p.d) p.os) → w'.rangeAt g (z + i * 3) [.bool (ts.getD i zT).l, d1, q1] := by rintro w' ⟨rg, rfl⟩; exact rangeT_keep (rangeT_keep e1 B0) (below_regrown wo rg.d rg.os)
          have ldB : ∀ w', (∃ p : Regrown, w' = grow (redrawn wo p.d) p.os) → w'.rangeAt g' (z' + i * 3) [.bool (ts.getD i zT).l, d2, q2] := by rintro w' ⟨rg, rfl⟩; exact rangeT_keep (rangeT_keep f1 B0) (below_regrown wo rg.d rg.os)
          have MC : Hid (∀ d os, Calls Try.prog 9 #[.agg #[.bool (ts.getD i zT).l, d1, q1], .agg #[.bool (ts.getD i zT).l, d2, q2]] (grow (redrawn wo d) os) fun e w' => e = .returned (.bool true) ∧ Below (grow (redrawn wo d) os).heap.size (grow (redrawn wo d) os) w') := fun d os => IH.out _ (getT_mem hlt) (by have := HN.out.1; omega) _ (It.keep (below_regrown wo d os) _ (It.keep B0 _ e2)) (It.keep (below_regrown wo d os) _ (It.keep B0 _ f2))
          have gx2 := fun d os => (hX.keep (below_regrown wo d os)).2.2
          have gy2 := fun d os => (hY.keep (below_regrown wo d os)).2.2
          clear e1 e2 f1 f2 hwt hi h8
          generalize (ts.getD i zT).l = lt at *
          refine wp_seq_k fun K h => ?_
          have H5 : Hid _ := h
          clear h
          go_wp2_with fail
          refine H5.out _ _ ?_
          clear H5 K
          refine wp_seq_k fun K h => ?_
          have H5 : Hid _ := h
          clear h
          refine wp_block ?_
          refine wp_seq_k fun K h => ?_
          have H : Hid _ := h
          clear h
          clear x0 x1 x2
          refine wp_region_quiet_below (by kernel_rfl) (by kernel_rfl) ?_
          repeat
            first
              | go_big_quiet_skip
              | (go_big_quiet_want; refine quiet_load_midT 29 _ rfl g (z + i * 3) rfl _ _ ldA Try.underlying29 rfl size_it ?_; simp only [Act.put, List.setIfInBounds_toArray, List.set_cons_succ, List.set_cons_zero]; go_big_quiet_on)
              | (go_big_quiet_want; refine quiet_load_midT 29 _ rfl g' (z' + i * 3) rfl _ _ ldB Try.underlying29 rfl size_it ?_; simp only [Act.put, List.setIfInBounds_toArray, List.set_cons_succ, List.set_cons_zero]; go_big_quiet_on)
              | (go_big_quiet_want; go_big_quiet_op; go_big_quiet_on)
              | (go_big_quiet_want
                 go_big_quiet_op
                 apply Exists.intro
                 refine ⟨fun p => ?_, ?_⟩
                 · (go_at_call 9; with_reducible exact Calls.regrown_of (MC.out p.d p.os))
                 go_big_quiet_on)
          refine wpQuiet_nil ?_
          rintro w2 ⟨rg, rfl⟩
          have hb := below_regrown wo rg.d rg.os
          generalize grow (redrawn wo rg.d) rg.os = w2 at *
          clear gx2 gy2 ldA ldB MC
          have B2 := B.trans (hb.mono B.size)
          go_wp2_with fail
          refine H.out _ _ ?_
          clear H
          go_wp2_with fail
          refine H5.out _ _ ?_
          clear H5 hb hX hY B0
          go_wp2_with fail
          go_roundg (ts.length - (i + 1))
          case measure => have := HK.out.1; omega
          case rel => exact ⟨i + 1, rfl, hlt, by go_num, B2⟩
    · have hlt : i < X.length := by omega
      have hlt' : (i : Int) < (X.length : Int) := by omega
      have ea := HA.out.1.cons (by omega)
      have ea' := HA.out.2.1.cons (by omega)
      subst ea ea'
      obtain ⟨z1, z2⟩ := HZ.out wr B0
      have c1 := z1 i hlt
      have c2 := z2 i hlt
      generalize X.getD i 0 = u at *
      have gx1 := fun d os => (hX.keep (below_regrown wr d os)).2.1
      have gy1 := fun d os => (hY.keep (below_regrown wr d os)).2.1
      have gc1 := fun d os => keepC (below_regrown wr d os) c1
      have gc2 := fun d os => keepC (below_regrown wr d os) c2
      clear z1 z2 c1 c2 hi h8
      refine wp_seq_k fun K h => ?_
      have H5 : Hid _ := h
      clear h
      go_wp2_with fail
      refine H5.out _ _ ?_
      clear H5 K
      refine wp_seq_k fun K h => ?_
      have H5 : Hid _ := h
      clear h
      refine wp_block ?_
      refine wp_seq_k fun K h => ?_
      have H : Hid _ := h
      clear h
      clear x0 x1 x2
      refine wp_region_quiet_below (by kernel_rfl) (by kernel_rfl) ?_
      repeat
        first
          | go_big_quiet_skip
          | (go_big_quiet_want; go_big_quiet_op; go_big_quiet_on)
      refine wpQuiet_nil ?_
      rintro w2 ⟨rg, rfl⟩
      have hb := below_regrown wr rg.d rg.os
      generalize grow (redrawn wr rg.d) rg.os = w2 at *
      clear gx1 gy1 gc1 gc2
      have B2 := B.trans (hb.mono B.size)
      go_wp2_with fail
      refine H.out _ _ ?_
      clear H
      have huu : (u != u) = false := by simp
      go_wp2_with fail
      refine H5.out _ _ ?_
      clear H5 huu hb hX hY B0
      go_wp2_with fail
      go_roundg (X.length - (i + 1))
      case measure => have := HK.out.1; omega
      case rel => exact ⟨i + 1, rfl, hlt, by go_num, B2⟩
end Go.Proofs.Ytdjjphcfobbipaa

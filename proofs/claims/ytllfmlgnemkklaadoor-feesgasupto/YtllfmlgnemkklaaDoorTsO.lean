import Derived.Test.YtllfmlgnemkklaaDoorTsN
/- waybillplay.StillTx of what was lent. -/
namespace Go.Proofs.YtllfmlgnemkklaaDoor.tq
open Go.RowKit Go.Sort
theorem flatU {W : World} {g : Nat} {P : List Aun} (hP : ∀ i, i < P.length → (aunC (P.getD i zAun)).length = 34) (h : W.rangeAt g 0 (flatC aunC (P ++ [mkU, mkU]))) : (∀ i, i < P.length → W.rangeAt g (i * 34) (aunC (P.getD i zAun))) ∧ W.cell? ⟨g, P.length * 34 + 24, none⟩ = some (.int .u64 165) ∧ W.cell? ⟨g, (P.length + 1) * 34 + 24, none⟩ = some (.int .u64 165) := by
  have ku : ∀ i, i < (P ++ [mkU, mkU]).length → (aunC ((P ++ [mkU, mkU]).getD i zAun)).length = 34 := fun i hi => by
    by_cases c : i < P.length
    · rw [getD_app c]; exact hP i c
    · rw [List.length_append] at hi
      have : i = P.length + 0 ∨ i = P.length + 1 := by simp at hi; omega
      rcases this with rfl | rfl <;> (rw [getD_appR]; rfl)
  have h0 := flat_at zAun _ 0 ku h (P.length + 0) (by simp)
  have h1 := flat_at zAun _ 0 ku h (P.length + 1) (by simp)
  rw [getD_appR, Nat.zero_add] at h0 h1
  refine ⟨fun i hi => ?_, h0 24 _ rfl, h1 24 _ rfl⟩
  have := flat_at zAun _ 0 ku h i (by rw [List.length_append]; omega)
  rw [getD_app hi, Nat.zero_add] at this
  exact this
theorem flatE {W : World} {g : Nat} {es : List En} (hP : ∀ i, i < es.length → (enC (es.getD i zEn)).length = 21) (h : W.rangeAt g 0 (flatC enC (es ++ [mkE, mkE]))) : (∀ i, i < es.length → W.rangeAt g (i * 21) (enC (es.getD i zEn))) ∧ W.rangeAt g (es.length * 21) (hC mkAd) ∧ W.rangeAt g ((es.length + 1) * 21) (hC mkAd) := by
  have ku : ∀ i, i < (es ++ [mkE, mkE]).length → (enC ((es ++ [mkE, mkE]).getD i zEn)).length = 21 := fun i hi => by
    by_cases c : i < es.length
    · rw [getD_app c]; exact hP i c
    · rw [List.length_append] at hi
      have : i = es.length + 0 ∨ i = es.length + 1 := by simp at hi; omega
      rcases this with rfl | rfl <;> (rw [getD_appR]; rfl)
  have h0 := flat_at zEn _ 0 ku h (es.length + 0) (by simp)
  have h1 := flat_at zEn _ 0 ku h (es.length + 1) (by simp)
  rw [getD_appR, Nat.zero_add] at h0 h1
  refine ⟨fun i hi => ?_, (range_app.1 h0).1, (range_app.1 h1).1⟩
  have := flat_at zEn _ 0 ku h i (by rw [List.length_append]; omega)
  rw [getD_app hi, Nat.zero_add] at this
  exact this
set_option maxRecDepth 100000 in
set_option maxHeartbeats 40000000 in
theorem stillTx_yes {u t : Txv} (hn : Hid (t.Dl.length < 1000000000 ∧ t.Hsl.length < 1000000000 ∧ t.Ul.length < 100000000 ∧ t.El.length < 1000000000 ∧ ∀ i, i < t.El.length → (t.El.getD i zEn).ks.length < 1000000000)) (w : World) (hM : MkH w) (hA : MkA w) (hG : TxG w t) (hL : LtT w u t) :
    Calls Tryd.prog 18 #[.agg (txC u).toArray, .agg (txC t).toArray] w fun e w' => e = .returned (.bool true) ∧ Below w.heap.size w w' := by
  have F1 : Hid (∀ (W : World) (b : Nat), W.rangeAt b 0 (txC u) → W.cell? ⟨b, 41, none⟩ = some (.slice (some ⟨u.Db, 0, none⟩) t.Dl.length u.Dc) ∧ W.cell? ⟨b, 42, none⟩ = some (.slice (some ⟨u.Eb, 0, none⟩) t.El.length u.Ec) ∧ W.cell? ⟨b, 47, none⟩ = some (.slice (some ⟨u.Hsb, 0, none⟩) t.Hsl.length u.Hsc) ∧ W.cell? ⟨b, 48, none⟩ = some (.slice (some ⟨u.Ub, 0, none⟩) t.Ul.length u.Uc)) := fun W b h => by
    have f := TxB.facts (t := u) ⟨h, by rw [hL.sc.2.2.2.2.2]; exact hG.to.1⟩
    refine ⟨?_, ?_, ?_, ?_⟩
    · rw [← hL.D.2.1, ← hL.D.1]; exact f.D
    · rw [← hL.E.2.1, ← hL.E.1]; exact f.E
    · rw [← hL.Hs.2.1, ← hL.Hs.1]; exact f.Hs
    · rw [← hL.U.2.1, ← hL.U.1]; exact f.U
  have F2 : Hid (∀ (W : World) (b : Nat), W.rangeAt b 0 (txC t) → W.cell? ⟨b, 41, none⟩ = some (.slice t.Da t.Dl.length t.Dc) ∧ W.cell? ⟨b, 42, none⟩ = some (.slice t.Ea t.El.length t.Ec) ∧ W.cell? ⟨b, 47, none⟩ = some (.slice t.Hsa t.Hsl.length t.Hsc) ∧ W.cell? ⟨b, 48, none⟩ = some (.slice t.Ua t.Ul.length t.Uc)) := fun W b h => by
    have f := TxB.facts (t := t) ⟨h, hG.to.1⟩
    exact ⟨f.D, f.E, f.Hs, f.U⟩
  have KD : Hid (∀ W, Below w.heap.size w W → Calls Tryd.prog 31 #[.slice (some ⟨u.Db, 0, none⟩) t.Dl.length u.Dc, .slice t.Da t.Dl.length t.Dc] W fun e w' => e = .returned (.bool true) ∧ Below W.heap.size W w') := fun W B => still_yes hn.out.1 hL.D.2.2.2.1 W (hG.D.keep B) (range_keep hL.D.2.2.2.2.1 B)
  have KH : Hid (∀ W, Below w.heap.size w W → Calls Tryd.prog 32 #[.slice (some ⟨u.Hsb, 0, none⟩) t.Hsl.length u.Hsc, .slice t.Hsa t.Hsl.length t.Hsc] W fun e w' => e = .returned (.bool true) ∧ Below W.heap.size W w') := fun W B => stillH_yes hn.out.2.1 hL.Hs.2.2.2.1 W (hM.keep B) (hG.Hs.keep B) (range_keep hL.Hs.2.2.2.2 B)
  have GU : Hid (UsG w t.Ua t.Ub t.Uo t.Uc t.Ul) := hG.U
  have GE : Hid (EsG w t.Ea t.Eb t.Eo t.Ec t.El) := hG.E
  have RU : Hid (∀ W, Below w.heap.size w W → (∀ i, i < t.Ul.length → W.rangeAt u.Ub (i * 34) (aunC (t.Ul.getD i zAun))) ∧ W.cell? ⟨u.Ub, t.Ul.length * 34 + 24, none⟩ = some (.int .u64 165) ∧ W.cell? ⟨u.Ub, (t.Ul.length + 1) * 34 + 24, none⟩ = some (.int .u64 165)) := fun W B => flatU hG.U.len (range_keep hL.U.2.2.2.2 B)
  have EL : Hid (∀ i, i < t.El.length → (enC (u.El.getD i zEn)).length = 21) := fun i hi => enC_len (by rw [(hL.ks i hi).adr]; exact (hG.E.2.2 i hi).1.1.1)
  have RE : Hid (∀ W, Below w.heap.size w W → (∀ i, i < t.El.length → W.rangeAt u.Eb (i * 21) (enC (u.El.getD i zEn))) ∧ W.rangeAt u.Eb (t.El.length * 21) (hC mkAd) ∧ W.rangeAt u.Eb ((t.El.length + 1) * 21) (hC mkAd) ∧ W.rangeAt 0 0 (hC mkAd)) := fun W B => by
    have h := flatE (es := u.El) (fun i hi => EL.out i (by rw [← hL.E.1]; exact hi)) (range_keep hL.E.2.2.2.2 B)
    rw [hL.E.1] at h
    exact ⟨h.1, h.2.1, h.2.2, range_keep hA B⟩
  have KE : Hid (∀ i, i < t.El.length → ∀ W, Below w.heap.size w W → Calls Tryd.prog 32 #[.slice (u.El.getD i zEn).a (u.El.getD i zEn).ks.length (u.El.getD i zEn).c, .slice (t.El.getD i zEn).a (t.El.getD i zEn).ks.length (t.El.getD i zEn).c] W fun e w' => e = .returned (.bool true) ∧ Below W.heap.size W w') := fun i hi W B => by
    have k := hL.ks i hi
    have := stillH_yes (g := (u.El.getD i zEn).b) (cap := (u.El.getD i zEn).c) (hn.out.2.2.2.2 i hi) (by rw [← k.ks]; exact k.c) W (hM.keep B) ((hG.E.2.2 i hi).1.keep B).2 (by have := range_keep k.r B; rw [k.ks] at this; exact this)
    rw [k.a, k.ks]; exact this
  have KA : Hid (∀ i, i < t.El.length → (u.El.getD i zEn).adr = (t.El.getD i zEn).adr) := fun i hi => (hL.ks i hi).adr
  have n1 : (t.Ul.length : Int) < 100000000 := by have := hn.out.2.2.1; omega
  have n2 : (t.El.length : Int) < 1000000000 := by have := hn.out.2.2.2.1; omega
  have n3 : (t.Ul.length : Int) + 2 ≤ (u.Uc : Int) := by have := hL.U.2.2.2.1; omega
  have n4 : (t.El.length : Int) + 2 ≤ (u.Ec : Int) := by have := hL.E.2.2.2.1; omega
  have EM : Hid (∀ w, (Op.equalIn 10000 26 (.agg (hC mkAd).toArray) (.agg (hC mkAd).toArray)).run Tryd.prog w = .ok true w) := fun w => by
    have h := eq_ad (X := mkAd) (Y := mkAd) rfl rfl w
    rw [decide_eq_true rfl] at h; exact h
  have IM : Hid ((Tryd.prog.info? 26).map (·.size) = some (hC mkAd).length) := size_ad
  generalize hC mkAd = ma at *
  generalize txC u = C1 at *
  generalize txC t = C2 at *
  clear hM hA hG hL hn
  go_enter Tryd.func18, Tryd.ntmps18
  go_wp2_with first
    | (refine wpList_boxT rfl 32 _ rfl C1 rfl ?_; intro b1 W1 hb1 B1 r1)
    | (refine wpList_boxT rfl 32 _ rfl C2 rfl ?_; intro b2 W2 hb2 B2 r2; replace r1 := range_keep r1 B2; have BB : Below w.heap.size w W2 := B1.trans (B2.mono B1.size); clear B1 B2)
    | (refine wpList_load_cellT rfl 27 _ rfl b1 41 rfl _ _ (F1.out _ _ r1).1 Tryd.underlying27 rfl ?_)
    | (refine wpList_load_cellT rfl 27 _ rfl b2 41 rfl _ _ (F2.out _ _ r2).1 Tryd.underlying27 rfl ?_)
    | (refine wpList_load_cellT rfl 28 _ rfl b1 42 rfl _ _ (F1.out _ _ r1).2.1 Tryd.underlying28 rfl ?_)
    | (refine wpList_load_cellT rfl 28 _ rfl b2 42 rfl _ _ (F2.out _ _ r2).2.1 Tryd.underlying28 rfl ?_)
    | (refine wpList_load_cellT rfl 29 _ rfl b1 47 rfl _ _ (F1.out _ _ r1).2.2.1 Tryd.underlying29 rfl ?_)
    | (refine wpList_load_cellT rfl 29 _ rfl b2 47 rfl _ _ (F2.out _ _ r2).2.2.1 Tryd.underlying29 rfl ?_)
    | (refine wpList_load_cellT rfl 30 _ rfl b1 48 rfl _ _ (F1.out _ _ r1).2.2.2 Tryd.underlying30 rfl ?_)
    | (refine wpList_load_cellT rfl 30 _ rfl b2 48 rfl _ _ (F2.out _ _ r2).2.2.2 Tryd.underlying30 rfl ?_)
    | (go_at_call 31; refine (KD.out _ BB).mono ?_; rintro x9 W9KD ⟨rfl, B9⟩; replace BB := BB.trans (B9.mono BB.size); replace r1 := range_keep r1 B9; replace r2 := range_keep r2 B9; clear B9)
    | (go_at_call 32; refine (KH.out _ BB).mono ?_; rintro x9 W9KH ⟨rfl, B9⟩; replace BB := BB.trans (B9.mono BB.size); replace r1 := range_keep r1 B9; replace r2 := range_keep r2 B9; clear B9)
  go_loopg [6] t.Ul.length (fun k iv wr => ∃ i : Nat, k = t.Ul.length - i ∧ i ≤ t.Ul.length ∧ iv = .int .i64 (i : Int) ∧ Below w.heap.size w wr ∧ wr.rangeAt b1 0 C1 ∧ wr.rangeAt b2 0 C2)
  case atStart => exact ⟨0, rfl, Nat.zero_le _, rfl, BB, r1, r2⟩
  case round =>
    clear BB r1 r2
    obtain ⟨i, hk, hi, rfl, B, r1, r2⟩ := hrel
    have HK : Hid (gk = t.Ul.length - i) := hk
    clear hk
    have cU := (F2.out _ _ r2).2.2.2
    by_cases h8 : i = t.Ul.length
    · subst h8
      have q1 := (RU.out wr B).2.1
      have q2 := (RU.out wr B).2.2
      have cE := (F1.out _ _ r1).2.1
      have cE2 := (F2.out _ _ r2).2.1
      have m1 : (t.Ul.length : Int) < (u.Uc : Int) := by omega
      have m2 : (t.Ul.length : Int) < (t.Ul.length : Int) + 2 := by omega
      have m3 : (t.Ul.length : Int) + 1 < (t.Ul.length : Int) + 2 := by omega
      have m4 : (0 : Int) ≤ (t.Ul.length : Int) + 1 := by omega
      have HS : Hid (Below w.heap.size w wr ∧ wr.rangeAt b1 0 C1 ∧ wr.rangeAt b2 0 C2) := ⟨B, r1, r2⟩
      clear B r1 r2 hi HK RU
      go_wp2_with fail
      go_loopg [8] t.El.length (fun k iv wr => ∃ i : Nat, k = t.El.length - i ∧ i ≤ t.El.length ∧ iv = .int .i64 (i : Int) ∧ Below w.heap.size w wr ∧ wr.rangeAt b1 0 C1 ∧ wr.rangeAt b2 0 C2)
      case atStart => exact ⟨0, rfl, Nat.zero_le _, rfl, HS.out⟩
      case round =>
        clear HS cU q1 q2 cE cE2
        obtain ⟨i, hk, hi, rfl, B, r1, r2⟩ := hrel
        have HK : Hid (gk = t.El.length - i) := hk
        clear hk
        have cE2 := (F2.out _ _ r2).2.1
        have B3 : Hid (∀ d os, Below w.heap.size w (grow (redrawn wr d) os)) := fun d os => B.trans ((below_regrown wr d os).mono B.size)
        have RR : Hid (∀ d os, (grow (redrawn wr d) os).rangeAt b1 0 C1 ∧ (grow (redrawn wr d) os).rangeAt b2 0 C2) := fun d os => ⟨range_keep r1 (below_regrown wr d os), range_keep r2 (below_regrown wr d os)⟩
        have g2 := fun d os => cell_regrown cE2 d os
        by_cases h8 : i = t.El.length
        · subst h8
          have rb : ∀ w', (∃ q : Regrown, w' = grow (redrawn wr q.d) q.os) → w'.rangeAt u.Eb (t.El.length * 21) ma := by rintro w' ⟨q, rfl⟩; exact (RE.out _ (B3.out q.d q.os)).2.1
          have rc : ∀ w', (∃ q : Regrown, w' = grow (redrawn wr q.d) q.os) → w'.rangeAt u.Eb ((t.El.length + 1) * 21) ma := by rintro w' ⟨q, rfl⟩; exact (RE.out _ (B3.out q.d q.os)).2.2.1
          have rd : ∀ w', (∃ q : Regrown, w' = grow (redrawn wr q.d) q.os) → w'.rangeAt 0 0 ma := by rintro w' ⟨q, rfl⟩; exact (RE.out _ (B3.out q.d q.os)).2.2.2
          have eq := EM.out
          have ib := IM.out
          have m1 : (t.El.length : Int) < (u.Ec : Int) := by omega
          have m2 : (t.El.length : Int) < (t.El.length : Int) + 2 := by omega
          have m3 : (t.El.length : Int) + 1 < (t.El.length : Int) + 2 := by omega
          have m4 : (0 : Int) ≤ (t.El.length : Int) + 1 := by omega
          clear hi EM IM
          go_wp2_with fail
          refine wp_region_quiet_below (by kernel_rfl) (by kernel_rfl) ?_
          repeat
            first
              | go_big_quiet_skip
              | (go_big_quiet_want; refine quiet_load_midT 26 _ rfl u.Eb (t.El.length * 21) rfl ma _ rb Tryd.underlying26 rfl ib ?_; simp only [Act.put, List.setIfInBounds_toArray, List.set_cons_succ, List.set_cons_zero]; go_big_quiet_on)
              | (go_big_quiet_want; refine quiet_load_midT 26 _ rfl 0 0 rfl ma _ rd Tryd.underlying26 rfl ib ?_; simp only [Act.put, List.setIfInBounds_toArray, List.set_cons_succ, List.set_cons_zero]; go_big_quiet_on)
              | (go_big_quiet_want; refine quiet_load_midT 26 _ rfl u.Eb ((t.El.length + 1) * 21) rfl ma _ rc Tryd.underlying26 rfl ib ?_; simp only [Act.put, List.setIfInBounds_toArray, List.set_cons_succ, List.set_cons_zero]; go_big_quiet_on)
              | (go_big_quiet_want; go_big_quiet_op; go_big_quiet_on)
          refine wpQuiet_nil ?_
          rintro w2 ⟨q, rfl⟩
          have hb := B3.out q.d q.os
          have hr := RR.out q.d q.os
          generalize grow (redrawn wr q.d) q.os = w2 at *
          clear rb rc rd eq ib B3 RR g2 hr
          go_wp2
          simp [bodyPost, results, Tryd.results18, go_sem]
          exact hb
        · have hlt : i < t.El.length := by omega
          have hlt' : (i : Int) < (t.El.length : Int) := by omega
          have eA : t.Ea = some ⟨t.Eb, t.Eo, none⟩ := by
            rcases GE.out.2.1 with h | h
            · rw [h] at hlt; exact absurd hlt (Nat.not_lt_zero _)
            · exact h
          rw [eA] at g2 cE2
          have R1 : Hid (∀ W, Below w.heap.size w W → W.rangeAt u.Eb (i * 21) (hC (t.El.getD i zEn).adr) ∧ W.cell? ⟨u.Eb, i * 21 + 20, none⟩ = some (.slice (u.El.getD i zEn).a (u.El.getD i zEn).ks.length (u.El.getD i zEn).c)) := fun W BW => by
            have := range_app.1 ((RE.out W BW).1 i hlt)
            rw [hC_len, KA.out i hlt, (GE.out.2.2 i hlt).1.1.1] at this
            exact ⟨this.1, this.2 0 _ rfl⟩
          have R2 : Hid (∀ W, Below w.heap.size w W → W.rangeAt t.Eb (t.Eo + i * 21) (hC (t.El.getD i zEn).adr) ∧ W.cell? ⟨t.Eb, t.Eo + i * 21 + 20, none⟩ = some (.slice (t.El.getD i zEn).a (t.El.getD i zEn).ks.length (t.El.getD i zEn).c)) := fun W BW => by
            have := range_app.1 (range_keep (GE.out.2.2 i hlt).2 BW)
            rw [hC_len, (GE.out.2.2 i hlt).1.1.1] at this
            exact ⟨this.1, this.2 0 _ rfl⟩
          have rb : ∀ w', (∃ q : Regrown, w' = grow (redrawn wr q.d) q.os) → w'.rangeAt u.Eb (i * 21) (hC (t.El.getD i zEn).adr) := by rintro w' ⟨q, rfl⟩; exact (R1.out _ (B3.out q.d q.os)).1
          have rc : ∀ w', (∃ q : Regrown, w' = grow (redrawn wr q.d) q.os) → w'.rangeAt t.Eb (t.Eo + i * 21) (hC (t.El.getD i zEn).adr) := by rintro w' ⟨q, rfl⟩; exact (R2.out _ (B3.out q.d q.os)).1
          have g3 := fun d os => (R1.out _ (B3.out d os)).2
          have g4 := fun d os => (R2.out _ (B3.out d os)).2
          have ib : (Tryd.prog.info? 26).map (·.size) = some (hC (t.El.getD i zEn).adr).length := by rw [hC_len, (GE.out.2.2 i hlt).1.1.1]; exact size_ad
          have eq : ∀ w, (Op.equalIn 10000 26 (.agg (hC (t.El.getD i zEn).adr).toArray) (.agg (hC (t.El.getD i zEn).adr).toArray)).run Tryd.prog w = .ok true w := fun w => by
            have h := eq_ad (GE.out.2.2 i hlt).1.1.1 (GE.out.2.2 i hlt).1.1.1 w
            rw [decide_eq_true rfl] at h; exact h
          have sk : Hid (∀ d os, Calls Tryd.prog 32 #[.slice (u.El.getD i zEn).a (u.El.getD i zEn).ks.length (u.El.getD i zEn).c, .slice (t.El.getD i zEn).a (t.El.getD i zEn).ks.length (t.El.getD i zEn).c] (grow (redrawn wr d) os) fun e w' => e = .returned (.bool true) ∧ Below (grow (redrawn wr d) os).heap.size (grow (redrawn wr d) os) w') := fun d os => KE.out i hlt _ (B3.out d os)
          have m1 : (i : Int) < (u.Ec : Int) := by omega
          have m2 : (i : Int) < (t.El.length : Int) + 2 := by omega
          clear h8 hi eA R1 R2
          generalize hC (t.El.getD i zEn).adr = ci at *
          generalize u.El.getD i zEn = e1 at *
          generalize t.El.getD i zEn = e2 at *
          generalize e1.a = a1 at *
          generalize e1.ks.length = k1 at *
          generalize e1.c = c1 at *
          generalize e2.a = a2 at *
          generalize e2.ks.length = k2 at *
          generalize e2.c = c2 at *
          go_wp2_with fail
          refine wp_region_quiet_below (by kernel_rfl) (by kernel_rfl) ?_
          repeat
            first
              | go_big_quiet_skip
              | (go_big_quiet_want; refine quiet_load_midT 26 _ rfl u.Eb (i * 21) rfl ci _ rb Tryd.underlying26 rfl ib ?_; simp only [Act.put, List.setIfInBounds_toArray, List.set_cons_succ, List.set_cons_zero]; go_big_quiet_on)
              | (go_big_quiet_want; refine quiet_load_midT 26 _ rfl t.Eb (t.Eo + i * 21) rfl ci _ rc Tryd.underlying26 rfl ib ?_; simp only [Act.put, List.setIfInBounds_toArray, List.set_cons_succ, List.set_cons_zero]; go_big_quiet_on)
              | (go_big_quiet_want; go_big_quiet_op; go_big_quiet_on)
              | (go_big_quiet_want
                 go_big_quiet_op
                 apply Exists.intro
                 refine ⟨fun p => ?_, ?_⟩
                 · (go_at_call 32; with_reducible exact Calls.regrown_of (sk.out _ _))
                 go_big_quiet_on)
          refine wpQuiet_nil ?_
          rintro w2 ⟨q, rfl⟩
          have hb := B3.out q.d q.os
          have hr := RR.out q.d q.os
          generalize grow (redrawn wr q.d) q.os = w2 at *
          clear rb rc eq ib B3 RR g2 g3 g4 cE2 sk r1 r2
          have HR : Hid (w2.rangeAt b1 0 C1 ∧ w2.rangeAt b2 0 C2) := hr
          clear hr
          go_wp2
          go_roundg (t.El.length - (i + 1))
          case measure => have := HK.out; omega
          case rel => exact ⟨i + 1, rfl, hlt, by go_num, hb, HR.out⟩
    · have hlt : i < t.Ul.length := by omega
      have hlt' : (i : Int) < (t.Ul.length : Int) := by omega
      have eA : t.Ua = some ⟨t.Ub, t.Uo, none⟩ := by
        rcases GU.out.2.1 with h | h
        · rw [h] at hlt; exact absurd hlt (Nat.not_lt_zero _)
        · exact h
      have B3 : Hid (∀ d os, Below w.heap.size w (grow (redrawn wr d) os)) := fun d os => B.trans ((below_regrown wr d os).mono B.size)
      have RR : Hid (∀ d os, (grow (redrawn wr d) os).rangeAt b1 0 C1 ∧ (grow (redrawn wr d) os).rangeAt b2 0 C2) := fun d os => ⟨range_keep r1 (below_regrown wr d os), range_keep r2 (below_regrown wr d os)⟩
      rw [eA] at cU
      have g2 := fun d os => cell_regrown cU d os
      have rb : ∀ w', (∃ q : Regrown, w' = grow (redrawn wr q.d) q.os) → w'.rangeAt u.Ub (i * 34) (aunC (t.Ul.getD i zAun)) := by rintro w' ⟨q, rfl⟩; exact (RU.out _ (B3.out q.d q.os)).1 i hlt
      have rc : ∀ w', (∃ q : Regrown, w' = grow (redrawn wr q.d) q.os) → w'.rangeAt t.Ub (t.Uo + i * 34) (aunC (t.Ul.getD i zAun)) := by rintro w' ⟨q, rfl⟩; exact range_keep (GU.out.2.2 i hlt).2 (B3.out q.d q.os)
      have ib : (Tryd.prog.info? 56).map (·.size) = some (aunC (t.Ul.getD i zAun)).length := by rw [GU.out.len i hlt]; exact size_aun
      have eq : ∀ w, (Op.equalIn 10000 56 (.agg (aunC (t.Ul.getD i zAun)).toArray) (.agg (aunC (t.Ul.getD i zAun)).toArray)).run Tryd.prog w = .ok true w := fun w => by
        have h := eq_aun (GU.out.2.2 i hlt).1 (GU.out.2.2 i hlt).1 w
        rw [sameA_iff.2 rfl] at h; exact h
      have m1 : (i : Int) < (u.Uc : Int) := by omega
      have m2 : (i : Int) < (t.Ul.length : Int) + 2 := by omega
      clear h8 hi eA
      generalize aunC (t.Ul.getD i zAun) = ci at *
      go_wp2_with fail
      refine wp_region_quiet_below (by kernel_rfl) (by kernel_rfl) ?_
      repeat
        first
          | go_big_quiet_skip
          | (go_big_quiet_want; refine quiet_load_midT 56 _ rfl u.Ub (i * 34) rfl ci _ rb Tryd.underlying56 rfl ib ?_; simp only [Act.put, List.setIfInBounds_toArray, List.set_cons_succ, List.set_cons_zero]; go_big_quiet_on)
          | (go_big_quiet_want; refine quiet_load_midT 56 _ rfl t.Ub (t.Uo + i * 34) rfl ci _ rc Tryd.underlying56 rfl ib ?_; simp only [Act.put, List.setIfInBounds_toArray, List.set_cons_succ, List.set_cons_zero]; go_big_quiet_on)
          | (go_big_quiet_want; go_big_quiet_op; go_big_quiet_on)
      refine wpQuiet_nil ?_
      rintro w2 ⟨q, rfl⟩
      have hb := B3.out q.d q.os
      have hr := RR.out q.d q.os
      generalize grow (redrawn wr q.d) q.os = w2 at *
      clear rb rc eq ib B3 RR g2 cU r1 r2
      have HR : Hid (w2.rangeAt b1 0 C1 ∧ w2.rangeAt b2 0 C2) := hr
      clear hr
      go_wp2
      go_roundg (t.Ul.length - (i + 1))
      case measure => have := HK.out; omega
      case rel => exact ⟨i + 1, rfl, hlt, by go_num, hb, HR.out⟩
end Go.Proofs.YtllfmlgnemkklaaDoor.tq

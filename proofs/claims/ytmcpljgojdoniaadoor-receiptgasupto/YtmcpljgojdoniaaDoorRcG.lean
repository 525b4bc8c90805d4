import Derived.Test.YtmcpljgojdoniaaDoorRcF
/- waybillplay.StillReceipt. -/
namespace Go.Proofs.YtmcpljgojdoniaaDoor.tq
open Go.RowKit Go.Sort
theorem lgs_len {ls : List Lg} (h : ∀ i, i < ls.length → (ls.getD i zLg).adr.length = 20) (i : Nat) (hi : i < (ls ++ [mkL, mkL]).length) : (lgC ((ls ++ [mkL, mkL]).getD i zLg)).length = 22 := by
  by_cases c : i < ls.length
  · rw [getD_app c]; exact lgC_len (h i c)
  · rw [List.length_append] at hi
    have : i = ls.length + 0 ∨ i = ls.length + 1 := by simp at hi; omega
    rcases this with rfl | rfl <;> (rw [getD_appR]; rfl)
set_option maxRecDepth 100000 in
set_option maxHeartbeats 16000000 in
theorem stillR_yes {u r : Rc} (hn : Hid (BdR r)) (w : World) (hM : MkH w) (hA : MkA w) (hu : RcM w u r) (gr : RcG w r) :
    Calls Tryd.prog 11 #[.agg (rcC u).toArray, .agg (rcC r).toArray] w fun e w' => e = .returned (.bool true) ∧ Below w.heap.size w w' := by
  have uR : u.root.length = 32 ∧ u.bl.length = 256 := ⟨by rw [hu.sc.2.2.1]; exact gr.root.1, by rw [hu.sc.2.2.2.2.2]; exact gr.bl.1⟩
  have aL : ∀ i, i < u.Ll.length → (u.Ll.getD i zLg).adr.length = 20 := fun i hi => by rw [(hu.ls i (by rw [← hu.L.1]; exact hi)).adr]; exact (gr.L.2.2 i (by rw [← hu.L.1]; exact hi)).1.adr.1
  have P1 : Hid (∀ (W : World) b, W.rangeAt b 0 (rcC u) → W.cell? ⟨b, 292, none⟩ = some (.slice (some ⟨u.Lb, 0, none⟩) r.Ll.length u.Lc)) := fun W b h => by
    have := rc_last uR.1 uR.2 h
    rwa [Nat.zero_add, hu.L.2.1, hu.L.1] at this
  have P2 : Hid (∀ (W : World) b, W.rangeAt b 0 (rcC r) → W.cell? ⟨b, 292, none⟩ = some (.slice r.La r.Ll.length r.Lc)) := fun W b h => by
    have := rc_last gr.root.1 gr.bl.1 h
    rwa [Nat.zero_add] at this
  obtain ⟨m, em⟩ : ∃ m, m = r.Ll.length := ⟨_, rfl⟩
  have n1 : (m : Int) < 100000000 := by have := hn.out.1; omega
  have n2 : (m : Int) + 2 ≤ (u.Lc : Int) := by have := hu.L.2.2.2.1; omega
  have KT : Hid (∀ i, i < m → ∀ W, Below w.heap.size w W → Calls Tryd.prog 17 #[.slice (u.Ll.getD i zLg).Ta (r.Ll.getD i zLg).Tl.length (u.Ll.getD i zLg).Tc, .slice (r.Ll.getD i zLg).Ta (r.Ll.getD i zLg).Tl.length (r.Ll.getD i zLg).Tc] W fun e w' => e = .returned (.bool true) ∧ Below W.heap.size W w') := fun i hi W B => by
    have k := hu.ls i (by omega)
    rw [k.T.1]
    exact stillH_yes (hn.out.2 i (by omega)).1 k.T.2.2.1 W (hM.keep B) ((gr.L.2.2 i (by omega)).1.T.keep B) (range_keep k.T.2.2.2 B)
  have KD : Hid (∀ i, i < m → ∀ W, Below w.heap.size w W → Calls Tryd.prog 25 #[.slice (u.Ll.getD i zLg).Da (r.Ll.getD i zLg).Dl.length (u.Ll.getD i zLg).Dc, .slice (r.Ll.getD i zLg).Da (r.Ll.getD i zLg).Dl.length (r.Ll.getD i zLg).Dc] W fun e w' => e = .returned (.bool true) ∧ Below W.heap.size W w') := fun i hi W B => by
    have k := hu.ls i (by omega)
    rw [k.D.1]
    exact still_yes (hn.out.2 i (by omega)).2 k.D.2.2.1 W ((gr.L.2.2 i (by omega)).1.D.keep B) (range_keep k.D.2.2.2 B)
  have RE : Hid (∀ W, Below w.heap.size w W → (∀ i, i < m → W.rangeAt u.Lb (i * 22) (hC (r.Ll.getD i zLg).adr) ∧ W.cell? ⟨u.Lb, i * 22 + 20, none⟩ = some (.slice (u.Ll.getD i zLg).Ta (r.Ll.getD i zLg).Tl.length (u.Ll.getD i zLg).Tc) ∧ W.cell? ⟨u.Lb, i * 22 + 21, none⟩ = some (.slice (u.Ll.getD i zLg).Da (r.Ll.getD i zLg).Dl.length (u.Ll.getD i zLg).Dc)) ∧ W.rangeAt u.Lb (m * 22) (hC mkAd) ∧ W.rangeAt u.Lb ((m + 1) * 22) (hC mkAd) ∧ W.rangeAt 0 0 (hC mkAd)) := fun W B => by
    have fl := flat_at zLg _ 0 (lgs_len aL) (range_keep hu.L.2.2.2.2 B)
    refine ⟨fun i hi => ?_, ?_, ?_, range_keep hA B⟩
    · have h := fl i (by rw [List.length_append, hu.L.1]; omega)
      rw [getD_app (by rw [hu.L.1]; omega), Nat.zero_add] at h
      have k := hu.ls i (by omega)
      have p := lg_parts (aL i (by rw [hu.L.1]; omega)) h
      rw [k.adr, k.Tl, k.Dl] at p
      exact p
    · have h := fl (u.Ll.length + 0) (by simp)
      rw [getD_appR, hu.L.1, ← em, Nat.zero_add, Nat.add_zero] at h
      exact (lg_parts (l := mkL) rfl h).1
    · have h := fl (u.Ll.length + 1) (by simp)
      rw [getD_appR, hu.L.1, ← em, Nat.zero_add] at h
      exact (lg_parts (l := mkL) rfl h).1
  have RX : Hid (∀ W, Below w.heap.size w W → ∀ i, i < m → W.rangeAt r.Lb (r.Lo + i * 22) (hC (r.Ll.getD i zLg).adr) ∧ W.cell? ⟨r.Lb, r.Lo + i * 22 + 20, none⟩ = some (.slice (r.Ll.getD i zLg).Ta (r.Ll.getD i zLg).Tl.length (r.Ll.getD i zLg).Tc) ∧ W.cell? ⟨r.Lb, r.Lo + i * 22 + 21, none⟩ = some (.slice (r.Ll.getD i zLg).Da (r.Ll.getD i zLg).Dl.length (r.Ll.getD i zLg).Dc)) := fun W B i hi => lg_parts (gr.L.2.2 i (by omega)).1.adr.1 (range_keep (gr.L.2.2 i (by omega)).2 B)
  have AA : Hid (0 < m → r.La = some ⟨r.Lb, r.Lo, none⟩) := fun h => gr.L.cons (by omega)
  have EA : Hid (∀ i, i < m → (Tryd.prog.info? 54).map (·.size) = some (hC (r.Ll.getD i zLg).adr).length ∧ ∀ w, (Op.equalIn 10000 54 (.agg (hC (r.Ll.getD i zLg).adr).toArray) (.agg (hC (r.Ll.getD i zLg).adr).toArray)).run Tryd.prog w = .ok true w) := fun i hi => by
    have hl := (gr.L.2.2 i (by omega)).1.adr.1
    exact ⟨by rw [hC_len, hl]; exact size_ad, eq_self fun w => eq_ad hl hl w⟩
  have EM : Hid (∀ w, (Op.equalIn 10000 54 (.agg (hC mkAd).toArray) (.agg (hC mkAd).toArray)).run Tryd.prog w = .ok true w) := eq_self fun w => eq_ad (X := mkAd) (Y := mkAd) rfl rfl w
  have IM : Hid ((Tryd.prog.info? 54).map (·.size) = some (hC mkAd).length) := size_ad
  rw [← em] at P1 P2
  generalize hC mkAd = ma at *
  obtain ⟨C1, hC1⟩ : ∃ C, C = rcC u := ⟨_, rfl⟩
  obtain ⟨C2, hC2⟩ : ∃ C, C = rcC r := ⟨_, rfl⟩
  rw [← hC1] at P1 ⊢
  rw [← hC2] at P2 ⊢
  clear hC1 hC2 hn hM hA hu gr uR aL em
  go_enter Tryd.func11, Tryd.ntmps11
  go_wp2_with first
    | (refine wpList_boxT rfl 30 _ rfl C1 rfl ?_; intro b1 W1 h1 B1 r1)
    | (refine wpList_boxT rfl 30 _ rfl C2 rfl ?_; intro b2 W2 h2 B2 r2; (have BB : Below w.heap.size w W2 := B1.trans (B2.mono B1.size)); (have RR : Hid (∀ V, Below W2.heap.size W2 V → V.rangeAt b1 0 C1 ∧ V.rangeAt b2 0 C2) := fun V h => ⟨range_keep (range_keep r1 B2) h, range_keep r2 h⟩); (have c1 := P1.out W2 b1 (range_keep r1 B2)); (have c2 := P2.out W2 b2 r2); clear r1 r2 B1 B2 h1 h2)
  go_loopg [6] m (fun k iv wr => ∃ i : Nat, k = m - i ∧ i ≤ m ∧ iv = .int .i64 i ∧ Below W2.heap.size W2 wr)
  case atStart => exact ⟨0, rfl, Nat.zero_le _, rfl, Below.refl _ _⟩
  case round =>
    clear c1 c2
    obtain ⟨i, hk, hi, rfl, B⟩ := hrel
    have HK : Hid (gk = m - i) := hk
    have c2 := P2.out _ b2 (RR.out _ B).2
    have HB : Hid (Below W2.heap.size W2 wr ∧ Below w.heap.size w wr) := ⟨B, BB.trans (B.mono BB.size)⟩
    have B3 : Hid (∀ d os, Below w.heap.size w (grow (redrawn wr d) os)) := fun d os => HB.out.2.trans ((below_regrown wr d os).mono HB.out.2.size)
    have g2 := fun d os => cell_regrown c2 d os
    clear hk B
    by_cases h8 : i = m
    · subst h8
      have rb : ∀ w', (∃ q : Regrown, w' = grow (redrawn wr q.d) q.os) → w'.rangeAt u.Lb (i * 22) ma := by rintro w' ⟨q, rfl⟩; exact (RE.out _ (B3.out q.d q.os)).2.1
      have rc : ∀ w', (∃ q : Regrown, w' = grow (redrawn wr q.d) q.os) → w'.rangeAt u.Lb ((i + 1) * 22) ma := by rintro w' ⟨q, rfl⟩; exact (RE.out _ (B3.out q.d q.os)).2.2.1
      have rd : ∀ w', (∃ q : Regrown, w' = grow (redrawn wr q.d) q.os) → w'.rangeAt 0 0 ma := by rintro w' ⟨q, rfl⟩; exact (RE.out _ (B3.out q.d q.os)).2.2.2
      have eq := EM.out
      have ib := IM.out
      have m1 : (i : Int) < (u.Lc : Int) := by omega
      have m2 : (i : Int) < (i : Int) + 2 := by omega
      have m3 : (i : Int) + 1 < (i : Int) + 2 := by omega
      have m4 : (0 : Int) ≤ (i : Int) + 1 := by omega
      clear hi EM IM RE RX KT KD EA
      go_wp2_with fail
      refine wp_region_quiet_below (by kernel_rfl) (by kernel_rfl) ?_
      repeat
        first
          | go_big_quiet_skip
          | (go_big_quiet_want; refine quiet_load_midT 54 _ rfl u.Lb (i * 22) rfl ma _ rb Tryd.underlying54 rfl ib ?_; simp only [Act.put, List.setIfInBounds_toArray, List.set_cons_succ, List.set_cons_zero]; go_big_quiet_on)
          | (go_big_quiet_want; refine quiet_load_midT 54 _ rfl 0 (0) rfl ma _ rd Tryd.underlying54 rfl ib ?_; simp only [Act.put, List.setIfInBounds_toArray, List.set_cons_succ, List.set_cons_zero]; go_big_quiet_on)
          | (go_big_quiet_want; refine quiet_load_midT 54 _ rfl u.Lb ((i + 1) * 22) rfl ma _ rc Tryd.underlying54 rfl ib ?_; simp only [Act.put, List.setIfInBounds_toArray, List.set_cons_succ, List.set_cons_zero]; go_big_quiet_on)
          | (go_big_quiet_want; go_big_quiet_op; go_big_quiet_on)
      refine wpQuiet_nil ?_
      rintro w2 ⟨p, rfl⟩
      have hb : Hid (Below w.heap.size w (grow (redrawn wr p.d) p.os)) := B3.out p.d p.os
      generalize grow (redrawn wr p.d) p.os = w2 at *
      clear rb rc rd eq ib B3 g2 c2
      go_wp2
      simp [bodyPost, results, Tryd.results11, go_sem]
      exact hb.out
    · have hlt : i < m := by omega
      have hlt' : (i : Int) < (m : Int) := by omega
      have eA := AA.out (by omega)
      rw [eA] at g2 c2
      have rb : ∀ w', (∃ q : Regrown, w' = grow (redrawn wr q.d) q.os) → w'.rangeAt u.Lb (i * 22) (hC (r.Ll.getD i zLg).adr) := by rintro w' ⟨q, rfl⟩; exact ((RE.out _ (B3.out q.d q.os)).1 i hlt).1
      have rc : ∀ w', (∃ q : Regrown, w' = grow (redrawn wr q.d) q.os) → w'.rangeAt r.Lb (r.Lo + i * 22) (hC (r.Ll.getD i zLg).adr) := by rintro w' ⟨q, rfl⟩; exact (RX.out _ (B3.out q.d q.os) i hlt).1
      have g3 := fun d os => ((RE.out _ (B3.out d os)).1 i hlt).2.1
      have g4 := fun d os => ((RE.out _ (B3.out d os)).1 i hlt).2.2
      have g5 := fun d os => (RX.out _ (B3.out d os) i hlt).2.1
      have g6 := fun d os => (RX.out _ (B3.out d os) i hlt).2.2
      have ib := (EA.out i hlt).1
      have eq := (EA.out i hlt).2
      have sk : Hid (∀ d os, Calls Tryd.prog 17 #[.slice (u.Ll.getD i zLg).Ta (r.Ll.getD i zLg).Tl.length (u.Ll.getD i zLg).Tc, .slice (r.Ll.getD i zLg).Ta (r.Ll.getD i zLg).Tl.length (r.Ll.getD i zLg).Tc] (grow (redrawn wr d) os) fun e w' => e = .returned (.bool true) ∧ Below (grow (redrawn wr d) os).heap.size (grow (redrawn wr d) os) w') := fun d os => KT.out i hlt _ (B3.out d os)
      have sd : Hid (∀ d os, Calls Tryd.prog 25 #[.slice (u.Ll.getD i zLg).Da (r.Ll.getD i zLg).Dl.length (u.Ll.getD i zLg).Dc, .slice (r.Ll.getD i zLg).Da (r.Ll.getD i zLg).Dl.length (r.Ll.getD i zLg).Dc] (grow (redrawn wr d) os) fun e w' => e = .returned (.bool true) ∧ Below (grow (redrawn wr d) os).heap.size (grow (redrawn wr d) os) w') := fun d os => KD.out i hlt _ (B3.out d os)
      have m1 : (i : Int) < (u.Lc : Int) := by omega
      have m2 : (i : Int) < (m : Int) + 2 := by omega
      clear h8 hi eA KT KD RE RX EA EM IM AA
      generalize hC (r.Ll.getD i zLg).adr = ci at *
      generalize u.Ll.getD i zLg = e1 at *
      generalize r.Ll.getD i zLg = e2 at *
      generalize e1.Ta = a1 at *
      generalize e1.Tc = c1 at *
      generalize e1.Da = a3 at *
      generalize e1.Dc = c3 at *
      generalize e2.Ta = a2 at *
      generalize e2.Tl.length = k2 at *
      generalize e2.Tc = c4 at *
      generalize e2.Da = a5 at *
      generalize e2.Dl.length = k5 at *
      generalize e2.Dc = c5 at *
      go_wp2_with fail
      refine wp_region_quiet_below (by kernel_rfl) (by kernel_rfl) ?_
      repeat
        first
          | go_big_quiet_skip
          | (go_big_quiet_want; refine quiet_load_midT 54 _ rfl u.Lb (i * 22) rfl ci _ rb Tryd.underlying54 rfl ib ?_; simp only [Act.put, List.setIfInBounds_toArray, List.set_cons_succ, List.set_cons_zero]; go_big_quiet_on)
          | (go_big_quiet_want; refine quiet_load_midT 54 _ rfl r.Lb (r.Lo + i * 22) rfl ci _ rc Tryd.underlying54 rfl ib ?_; simp only [Act.put, List.setIfInBounds_toArray, List.set_cons_succ, List.set_cons_zero]; go_big_quiet_on)
          | (go_big_quiet_want; go_big_quiet_op; go_big_quiet_on)
          | (go_big_quiet_want
             go_big_quiet_op
             apply Exists.intro
             refine ⟨fun p => ?_, ?_⟩
             · (go_at_call 17; with_reducible exact Calls.regrown_of (sk.out _ _))
             go_big_quiet_on)
          | (go_big_quiet_want
             go_big_quiet_op
             apply Exists.intro
             refine ⟨fun p => ?_, ?_⟩
             · (go_at_call 25; with_reducible exact Calls.regrown_of (sd.out _ _))
             go_big_quiet_on)
      refine wpQuiet_nil ?_
      rintro w2 ⟨p, rfl⟩
      have hb : Hid (Below W2.heap.size W2 (grow (redrawn wr p.d) p.os)) := HB.out.1.trans ((below_regrown wr p.d p.os).mono HB.out.1.size)
      generalize grow (redrawn wr p.d) p.os = w2 at *
      clear rb rc eq ib B3 g2 g3 g4 g5 g6 sk sd c2
      go_wp2
      go_roundg (m - (i + 1))
      case measure => have := HK.out; omega
      case rel => exact ⟨i + 1, rfl, by omega, by go_num, hb.out⟩
end Go.Proofs.YtmcpljgojdoniaaDoor.tq

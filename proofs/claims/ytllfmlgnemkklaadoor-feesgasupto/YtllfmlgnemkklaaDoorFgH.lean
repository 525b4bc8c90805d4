import Derived.Test.YtllfmlgnemkklaaDoorFgG
import Derived.Test.YtllfmlgnemkklaaDoorFgI
/- Layer 18: FeesGas: the law. -/
namespace Go.Proofs.YtllfmlgnemkklaaDoor
open Go.RowKit Go.Sort
open tq
theorem sm_same {u t : Txv} {W : World} (h : LtT W u t) : SmT u t := by
  obtain ⟨s1, s2, s3, s4, s5, s6⟩ := h.sc
  obtain ⟨m1, m2, m3, m4, m5, m6, m7, m8⟩ := h.nu
  exact ⟨s1, s2, s3, s4, m1, m2, m3, m5, s5, s6, m4, h.D.1, eqL_yes h.E.1 (fun j hj => by have k := h.ks j (by have := h.E.1; omega); unfold sameE; rw [k.adr, k.ks, decide_eq_true rfl, Bool.true_and]; exact (eqL_iff eqB_iff).2 rfl), h.Hs.1, h.U.1, m6, m7, m8⟩
set_option maxRecDepth 100000 in
set_option maxHeartbeats 16000000 in
theorem feesGas_any {t : Txv} (hn : Hid (BdTF t)) (hd : Hid (BdG t)) (w : World) (hM : MkH w) (hA : MkA w) (hR : Rws w) (hG : TxG w t) :
    Calls Tryd.prog 4 #[.agg (txC t).toArray] w fun e w' => e = .returned (.bool true) ∧ Below w.heap.size w w' := by
  have h20 := hG.to.1
  have sz := size_tx h20
  have GR : Hid (∀ V, Below w.heap.size w V → MkH V ∧ MkA V ∧ Rws V ∧ TxG V t) := fun V BV => ⟨hM.keep BV, hA.keep BV, hR.keep BV, hG.keep BV⟩
  have TW : Hid (∀ V, Below w.heap.size w V → Calls Tryd.prog 8 #[.agg (txC t).toArray] V fun e w' => ∃ u, e = .returned (.agg (txC u).toArray) ∧ LtT w' u t ∧ (LtN u t ∧ V.heap.size ≤ u.Db) ∧ Below V.heap.size V w') := fun V BV => twinG_any hn V (hM.keep BV) (hA.keep BV) (hG.keep BV)
  have NU : Hid (∀ (v : Int) W, Calls Tryd.prog 13 #[.int .i64 v] W fun e w' => e = .returned (.int .i64 v) ∧ Below W.heap.size W w') := fun v W => numF_any v W
  have hX0 := TxB.new (W := w) (ty := 32) h20
  have TO : Hid (t.to.length = 20) := h20
  obtain ⟨M, hMM⟩ : ∃ M, M = txC t := ⟨_, rfl⟩
  have HM : Hid (M = txC t) := hMM
  rw [← hMM] at sz hX0 TW ⊢
  clear hMM h20 hM hA hR hG
  go_enter Tryd.func4, Tryd.ntmps4
  refine wp_seq_k fun K0 h0 => ?_
  have H0 : Hid _ := h0
  clear h0
  go_wp2
  refine H0.out _ _ ?_
  clear H0
  refine wp_world (fun W => Below w.heap.size w W ∧ TxB W w.heap.size t) ⟨(Below.refl _ _).alloc (Nat.le_refl _) _, hX0⟩ ?_
  clear hX0
  rintro W ⟨B, hX⟩
  refine wp_seq_k fun K1 h1 => ?_
  have H1 : Hid _ := h1
  clear h1
  have rM0 : W.rangeAt w.heap.size 0 M := by have h := hX.all; rw [← HM.out] at h; exact h
  go_wp2_with first
    | (refine wpList_load_midT rfl 32 _ rfl w.heap.size 0 rfl M _ rM0 Tryd.underlying32 rfl sz ?_)
    | (go_at_call 8; refine (TW.out _ B).mono ?_; rintro e w2 ⟨u, rfl, lt, ln, hb⟩; (have HL : Hid (LtT w2 u t ∧ Below W.heap.size W w2 ∧ (txC u).length = 61 ∧ LtN u t ∧ W.heap.size ≤ u.Db) := ⟨lt, hb, txC_len (by rw [lt.sc.2.2.2.2.2]; exact TO.out), ln⟩); clear lt ln hb rM0)
    | (refine wpList_allocT rfl 32 rfl (some 3) rfl 61 408 rI_t ?_; intro b5 W5 h5 B5 t5)
    | (refine wpList_storeT rfl 32 _ _ rfl b5 (txC u) rfl rfl (by rw [HL.out.2.2.1]; exact t5) (by rw [HL.out.2.2.1]; exact size_txT) (txC_one u) ?_; intro W6 u9 r9 t9)
  refine H1.out _ _ ?_
  clear H1
  have hl := HL.out
  have B26 : Below w2.heap.size w2 W6 := u9.below (by have := h5.out; omega) B5
  have BW6 : Below W.heap.size W W6 := hl.2.1.trans (B26.mono hl.2.1.size)
  have B06 : Below w.heap.size w W6 := B.trans (BW6.mono B.size)
  have DB : Hid (u.Db < b5 ∧ b5 < W6.heap.size ∧ w.heap.size < u.Db) := by
    refine ⟨?_, ?_, Nat.lt_of_lt_of_le hX.lt hl.2.2.2.2⟩
    · have := h5.out
      have l := range_ltT hl.1.D.2.2.2.2.1 (by rw [hC_len, lentT_len]; omega)
      omega
    · have := h5.out; rw [u9.size]; omega
  have FT : Hid (∀ V, Below W6.heap.size W6 V → TxG V t ∧ LtT V u t ∧ V.rangeAt w.heap.size 0 M ∧ V.rangeAt b5 0 (txC u) ∧ Below w.heap.size w V ∧ Rws V ∧ MkH V ∧ MkA V) := fun V BV => by
    have bw := B06.trans (BV.mono B06.size)
    obtain ⟨g1, g2, g3, g4⟩ := GR.out V bw
    exact ⟨g4, (hl.1.keep B26).keep BV, by have h := ((hX.keep BW6).keep BV).all; rw [← HM.out] at h; exact h, fun j v hv => cell_keep BV (r9 j v hv), bw, g3, g1, g2⟩
  have L61 : Hid ((txC u).length = 61) := hl.2.2.1
  have LN : Hid (LtN u t) := hl.2.2.2.1
  clear hl HL u9 r9 t9 t5 h5 B5 B26 BW6 hX B W TW
  obtain ⟨CU, hCU⟩ : ∃ C, C = txC u := ⟨_, rfl⟩
  have HCU : Hid (CU = txC u) := hCU
  have szu : (Tryd.prog.info? 32).map (·.size) = some CU.length := by rw [hCU, L61.out]; exact size_txT
  have ev : Hid (∀ V, LtT V u t → igV u = igV t ∧ flV u = flV t ∧ dfN u = dfN t ∧ enV u = enV t ∧ bgT u = bgT t ∧ BdG u ∧ u.Hsl.length < 1000000000) := fun V h => same_vals hd hn h
  obtain ⟨I, hI⟩ : ∃ x, x = igV t := ⟨_, rfl⟩
  obtain ⟨L, hL⟩ : ∃ x, x = flV t := ⟨_, rfl⟩
  obtain ⟨Q, hQ⟩ : ∃ x, x = dfN t := ⟨_, rfl⟩
  obtain ⟨E, hE⟩ : ∃ x, x = enV t := ⟨_, rfl⟩
  obtain ⟨G, hG⟩ : ∃ x, x = bgT t := ⟨_, rfl⟩
  have C0 : Hid (∀ V, Below W6.heap.size W6 V → Calls Tryd.prog 7 #[.agg CU.toArray] V fun e w' => e = .returned (.tuple #[.int .u64 I, .int .i64 Q]) ∧ Below V.heap.size V w') := fun V BV => by
    obtain ⟨f1, f2, f3, f4, f5, f6, f7, f8⟩ := FT.out V BV
    have d := ev.out V f2
    have h := Intrinsic_any d.2.2.2.2.2.1 d.2.2.2.2.2.2 V (f2.good f1) f6
    rw [d.1, d.2.2.1] at h
    rw [hCU, hI, hQ]
    exact h
  have C1 : Hid (∀ V, Below W6.heap.size W6 V → Calls Tryd.prog 11 #[.agg M.toArray] V fun e w' => e = .returned (.tuple #[.int .u64 I, .int .i64 Q]) ∧ Below V.heap.size V w') := fun V BV => by
    obtain ⟨f1, f2, f3, f4, f5, f6, f7, f8⟩ := FT.out V BV
    have d := ev.out V f2
    have h := rIntrinsic_any hd hn.out.2.1 V f1
    rw [HM.out, hI, hQ]
    exact h
  have C2 : Hid (∀ V, Below W6.heap.size W6 V → Calls Tryd.prog 9 #[.agg CU.toArray] V fun e w' => e = .returned (.tuple #[.int .u64 L, .int .i64 Q]) ∧ Below V.heap.size V w') := fun V BV => by
    obtain ⟨f1, f2, f3, f4, f5, f6, f7, f8⟩ := FT.out V BV
    have d := ev.out V f2
    have h := Floor_any d.2.2.2.2.2.1 d.2.2.2.2.2.2 V (f2.good f1) f6
    rw [d.2.1, d.2.2.1] at h
    rw [hCU, hL, hQ]
    exact h
  have C3 : Hid (∀ V, Below W6.heap.size W6 V → Calls Tryd.prog 12 #[.agg M.toArray] V fun e w' => e = .returned (.tuple #[.int .u64 L, .int .i64 Q]) ∧ Below V.heap.size V w') := fun V BV => by
    obtain ⟨f1, f2, f3, f4, f5, f6, f7, f8⟩ := FT.out V BV
    have d := ev.out V f2
    have h := rFloor_any hd hn.out.2.1 V f1
    rw [HM.out, hL, hQ]
    exact h
  have C4 : Hid (∀ V, Below W6.heap.size W6 V → Calls Tryd.prog 14 #[.agg CU.toArray] V fun e w' => e = .returned (.int .i64 E) ∧ Below V.heap.size V w') := fun V BV => by
    obtain ⟨f1, f2, f3, f4, f5, f6, f7, f8⟩ := FT.out V BV
    have d := ev.out V f2
    have h := Enough_any d.2.2.2.2.2.1 d.2.2.2.2.2.2 V (f2.good f1) f6
    rw [d.2.2.2.1] at h
    rw [hCU, hE]
    exact h
  have C5 : Hid (∀ V, Below W6.heap.size W6 V → Calls Tryd.prog 15 #[.agg CU.toArray] V fun e w' => e = .returned (.int .u64 G) ∧ Below V.heap.size V w') := fun V BV => by
    obtain ⟨f1, f2, f3, f4, f5, f6, f7, f8⟩ := FT.out V BV
    have d := ev.out V f2
    have h := blobGas_any (by rw [f2.sc.2.2.2.2.2]; exact TO.out) d.2.2.2.2.2.2 V
    rw [d.2.2.2.2.1] at h
    rw [hCU, hG]
    exact h
  have C6 : Hid (∀ V, Below W6.heap.size W6 V → Calls Tryd.prog 16 #[.agg M.toArray] V fun e w' => e = .returned (.int .i64 E) ∧ Below V.heap.size V w') := fun V BV => by
    obtain ⟨f1, f2, f3, f4, f5, f6, f7, f8⟩ := FT.out V BV
    have d := ev.out V f2
    have h := rEnough_any hd hn.out.2.1 V f1
    rw [HM.out, hE]
    exact h
  have C7 : Hid (∀ V, Below W6.heap.size W6 V → Calls Tryd.prog 17 #[.agg M.toArray] V fun e w' => e = .returned (.int .u64 G) ∧ Below V.heap.size V w') := fun V BV => by
    obtain ⟨f1, f2, f3, f4, f5, f6, f7, f8⟩ := FT.out V BV
    have d := ev.out V f2
    have h := rblobGas_any TO.out hn.out.2.1 V
    rw [HM.out, hG]
    exact h
  have C8 : Hid (∀ V, Below W6.heap.size W6 V → Calls Tryd.prog 18 #[.agg CU.toArray, .agg M.toArray] V fun e w' => e = .returned (.bool true) ∧ Below V.heap.size V w') := fun V BV => by
    obtain ⟨f1, f2, f3, f4, f5, f6, f7, f8⟩ := FT.out V BV
    rw [hCU, HM.out]; exact stillTx_yes hn V f7 f8 f1 f2
  have C9 : Hid (∀ V, Below W6.heap.size W6 V → Calls Tryd.prog 19 #[.agg CU.toArray, .agg M.toArray] V fun e w' => e = .returned (.bool true) ∧ Below V.heap.size V w') := fun V BV => by
    obtain ⟨f1, f2, f3, f4, f5, f6, f7, f8⟩ := FT.out V BV
    rw [hCU, HM.out]
    refine (rsameTx_any (bdT_of hn.out f2) V (f2.good f1) f1).mono fun e w' ⟨⟨r, h1, h2⟩, h3⟩ => ⟨?_, h3⟩
    rw [h1, h2.2 (sm_same f2)]
  have FX : Hid (∀ V, Below W6.heap.size W6 V → V.rangeAt w.heap.size 0 M ∧ V.rangeAt b5 0 CU ∧ Below w.heap.size w V) := fun V BV => by
    obtain ⟨f1, f2, f3, f4, f5, f6, f7, f8⟩ := FT.out V BV
    exact ⟨f3, by rw [hCU]; exact f4, f5⟩
  clear hCU hI hL hQ hE hG
  obtain ⟨W, hWW⟩ : ∃ W, W = W6 := ⟨_, rfl⟩
  have BW : Hid (Below W6.heap.size W6 W) := by rw [hWW]; exact Below.refl _ _
  rw [← hWW]
  clear hWW
  have rM := (FX.out _ BW.out).1
  have rU := (FX.out _ BW.out).2.1
  refine wp_seq_k fun K2 h2 => ?_
  have H2 : Hid _ := h2
  clear h2
  go_wp2_with first
    | (refine wpList_load_midT (by rfl) 32 _ rfl w.heap.size 0 rfl M _ rM Tryd.underlying32 rfl sz ?_)
    | (refine wpList_load_midT (by rfl) 32 _ rfl b5 0 rfl CU _ rU Tryd.underlying32 rfl szu ?_)
    | (go_at_call 7; refine (C0.out _ BW.out).mono ?_; rintro e wn ⟨rfl, hb⟩; replace BW : Hid (Below W6.heap.size W6 wn) := BW.out.trans (hb.mono BW.out.size); clear hb rM rU; have rM := (FX.out _ BW.out).1; have rU := (FX.out _ BW.out).2.1)
  refine H2.out _ _ ?_
  clear H2
  refine wp_seq_k fun K3 h3 => ?_
  have H3 : Hid _ := h3
  clear h3
  go_wp2_with first
    | (refine wpList_load_midT (by rfl) 32 _ rfl w.heap.size 0 rfl M _ rM Tryd.underlying32 rfl sz ?_)
    | (refine wpList_load_midT (by rfl) 32 _ rfl b5 0 rfl CU _ rU Tryd.underlying32 rfl szu ?_)
    | (go_at_call 11; refine (C1.out _ BW.out).mono ?_; rintro e wn ⟨rfl, hb⟩; replace BW : Hid (Below W6.heap.size W6 wn) := BW.out.trans (hb.mono BW.out.size); clear hb rM rU; have rM := (FX.out _ BW.out).1; have rU := (FX.out _ BW.out).2.1)
  refine H3.out _ _ ?_
  clear H3
  refine wp_seq_k fun K4 h4 => ?_
  have H4 : Hid _ := h4
  clear h4
  go_wp2_with first
    | (refine wpList_load_midT (by rfl) 32 _ rfl w.heap.size 0 rfl M _ rM Tryd.underlying32 rfl sz ?_)
    | (refine wpList_load_midT (by rfl) 32 _ rfl b5 0 rfl CU _ rU Tryd.underlying32 rfl szu ?_)
    | (go_at_call 9; refine (C2.out _ BW.out).mono ?_; rintro e wn ⟨rfl, hb⟩; replace BW : Hid (Below W6.heap.size W6 wn) := BW.out.trans (hb.mono BW.out.size); clear hb rM rU; have rM := (FX.out _ BW.out).1; have rU := (FX.out _ BW.out).2.1)
  refine H4.out _ _ ?_
  clear H4
  refine wp_seq_k fun K5 h5 => ?_
  have H5 : Hid _ := h5
  clear h5
  go_wp2_with first
    | (refine wpList_load_midT (by rfl) 32 _ rfl w.heap.size 0 rfl M _ rM Tryd.underlying32 rfl sz ?_)
    | (refine wpList_load_midT (by rfl) 32 _ rfl b5 0 rfl CU _ rU Tryd.underlying32 rfl szu ?_)
    | (go_at_call 12; refine (C3.out _ BW.out).mono ?_; rintro e wn ⟨rfl, hb⟩; replace BW : Hid (Below W6.heap.size W6 wn) := BW.out.trans (hb.mono BW.out.size); clear hb rM rU; have rM := (FX.out _ BW.out).1; have rU := (FX.out _ BW.out).2.1)
  refine H5.out _ _ ?_
  clear H5
  refine wp_seq_k fun K6 h6 => ?_
  have H6 : Hid _ := h6
  clear h6
  go_wp2_with first
    | (refine wpList_load_midT (by rfl) 32 _ rfl w.heap.size 0 rfl M _ rM Tryd.underlying32 rfl sz ?_)
    | (refine wpList_load_midT (by rfl) 32 _ rfl b5 0 rfl CU _ rU Tryd.underlying32 rfl szu ?_)
    | (go_at_call 13; refine (NU.out _ _).mono ?_; rintro e wn ⟨rfl, hb⟩; replace BW : Hid (Below W6.heap.size W6 wn) := BW.out.trans (hb.mono BW.out.size); clear hb rM rU; have rM := (FX.out _ BW.out).1; have rU := (FX.out _ BW.out).2.1)
  refine H6.out _ _ ?_
  clear H6
  refine wp_seq_k fun K8 h8 => ?_
  have H8 : Hid _ := h8
  clear h8
  go_wp2_with first
    | (refine wpList_load_midT (by rfl) 32 _ rfl w.heap.size 0 rfl M _ rM Tryd.underlying32 rfl sz ?_)
    | (refine wpList_load_midT (by rfl) 32 _ rfl b5 0 rfl CU _ rU Tryd.underlying32 rfl szu ?_)
    | (go_at_call 14; refine (C4.out _ BW.out).mono ?_; rintro e wn ⟨rfl, hb⟩; replace BW : Hid (Below W6.heap.size W6 wn) := BW.out.trans (hb.mono BW.out.size); clear hb rM rU; have rM := (FX.out _ BW.out).1; have rU := (FX.out _ BW.out).2.1)
  refine H8.out _ _ ?_
  clear H8
  refine wp_seq_k fun K9 h9 => ?_
  have H9 : Hid _ := h9
  clear h9
  go_wp2_with first
    | (refine wpList_load_midT (by rfl) 32 _ rfl w.heap.size 0 rfl M _ rM Tryd.underlying32 rfl sz ?_)
    | (refine wpList_load_midT (by rfl) 32 _ rfl b5 0 rfl CU _ rU Tryd.underlying32 rfl szu ?_)
    | (go_at_call 15; refine (C5.out _ BW.out).mono ?_; rintro e wn ⟨rfl, hb⟩; replace BW : Hid (Below W6.heap.size W6 wn) := BW.out.trans (hb.mono BW.out.size); clear hb rM rU; have rM := (FX.out _ BW.out).1; have rU := (FX.out _ BW.out).2.1)
  refine H9.out _ _ ?_
  clear H9
  refine wp_seq_k fun K10 h10 => ?_
  have H10 : Hid _ := h10
  clear h10
  clear rM rU
  have RM : Hid (∀ d os, (grow (redrawn wn d) os).rangeAt w.heap.size 0 M ∧ (grow (redrawn wn d) os).rangeAt b5 0 CU) := fun d os => by
    have f := FX.out _ (BW.out.trans ((below_regrown wn d os).mono BW.out.size))
    exact ⟨f.1, f.2.1⟩
  have BG : Hid (∀ d os, Below W6.heap.size W6 (grow (redrawn wn d) os)) := fun d os => BW.out.trans ((below_regrown wn d os).mono BW.out.size)
  refine wp_seq_k fun K11 h11 => ?_
  have H11 : Hid _ := h11
  clear h11
  refine wp_region_quiet_below (by kernel_rfl) (by kernel_rfl) ?_
  repeat
    first
      | go_big_quiet_skip
      | (go_big_quiet_want; refine quiet_loadG 32 _ rfl w.heap.size 0 rfl M _ (fun W' ⟨p, e⟩ => by subst e; exact (RM.out p.d p.os).1) Tryd.underlying32 rfl sz ?_; simp only [Act.put, List.setIfInBounds_toArray, List.set_cons_zero, List.set_cons_succ]; go_big_quiet_on)
      | (go_big_quiet_want; refine quiet_loadG 32 _ rfl b5 0 rfl CU _ (fun W' ⟨p, e⟩ => by subst e; exact (RM.out p.d p.os).2) Tryd.underlying32 rfl szu ?_; simp only [Act.put, List.setIfInBounds_toArray, List.set_cons_zero, List.set_cons_succ]; go_big_quiet_on)
      | (go_big_quiet_want; go_big_quiet_op; go_big_quiet_on)
      | (go_big_quiet_want
         go_big_quiet_op
         apply Exists.intro
         refine ⟨fun p => ?_, ?_⟩
         · (first | (go_at_call 13; with_reducible exact Calls.regrown_of (NU.out _ _)) | (go_at_call 16; with_reducible exact Calls.regrown_of (C6.out _ (BG.out p.d p.os))) | (go_at_call 17; with_reducible exact Calls.regrown_of (C7.out _ (BG.out p.d p.os))) | (go_at_call 18; with_reducible exact Calls.regrown_of (C8.out _ (BG.out p.d p.os))) | (go_at_call 19; with_reducible exact Calls.regrown_of (C9.out _ (BG.out p.d p.os))))
         go_big_quiet_on)
  refine wpQuiet_nil ?_
  rintro w1 ⟨p, rfl⟩
  replace BW : Hid (Below W6.heap.size W6 (grow (redrawn wn p.d) p.os)) := BG.out p.d p.os
  generalize grow (redrawn wn p.d) p.os = V0 at *
  clear RM BG C0 C1 C2 C3 C4 C5 C6 C7 C8 C9
  refine H11.out _ _ ?_
  clear H11
  go_wp2
  refine H10.out _ _ ?_
  clear H10
  refine wp_seq_k fun K12 h12 => ?_
  have H12 : Hid _ := h12
  clear h12
  obtain ⟨f1, f2, f3, f4, f5, f6, f7, f8⟩ := FT.out _ BW.out
  have R0 : Rt V0 u.Db 0 (hC (lentT t.Dl)) := f2.D.2.2.2.2
  have LT0 : Hid (LtT V0 u t) := f2
  have hl2 := f2.D.1
  have E41 : Hid (V0.cell? ⟨b5, 41, none⟩ = some (.slice (some ⟨u.Db, 0, none⟩) t.Dl.length u.Dc)) := by
    have f := TxB.D (t := u) (b := b5) (W := V0) ⟨f4, by rw [f2.sc.2.2.2.2.2]; exact TO.out⟩
    rw [f2.D.2.1, hl2] at f
    exact f
  have BV0 : Hid (Below w.heap.size w V0 ∧ u.Db < V0.heap.size) := ⟨f5, by have := DB.out; have := BW.out.size; omega⟩
  have RU0 : Hid (V0.rangeAt b5 0 CU) := (FX.out _ BW.out).2.1
  have nD : (t.Dl.length : Int) < 1000000000 := by have := hn.out.1; omega
  have XB : Hid (Bys t.Dl) := f1.D.2.2.2
  clear f1 f2 f3 f4 f5 f6 f7 f8 FT FX BW
  obtain ⟨n, en⟩ : ∃ n, n = t.Dl.length := ⟨_, rfl⟩
  have EN : Hid (t.Dl.length = n) := en.symm
  rw [← en] at nD E41
  clear en
  go_wp2_with fail
  go_loopg [14] n (fun k iv wr => ∃ i : Nat, k = n - i ∧ i ≤ n ∧ iv = .int .i64 (i : Int) ∧ Wr V0 wr u.Db ∧ Rt wr u.Db 0 (hC (lentT (mkX t.Dl i))))
  case atStart => exact ⟨0, rfl, Nat.zero_le _, rfl, Wr.refl _ _, R0⟩
  case round =>
    clear R0
    obtain ⟨i, hk, hi, rfl, hw, hr⟩ := hrel
    have HK : Hid (gk = n - i) := hk
    have c41 : wr.cell? ⟨b5, 41, none⟩ = some (.slice (some ⟨u.Db, 0, none⟩) n u.Dc) := by
      rw [World.cell?_of_block (w := V0) (a := ⟨b5, 41, none⟩) (hw.block b5 (by have := World.block_lt_of_cell? V0 _ E41.out; exact this) (by have := DB.out; omega))]; exact E41.out
    clear hk
    by_cases h8 : i = n
    · subst h8
      have HE : Hid (Wr V0 wr u.Db ∧ Rt wr u.Db 0 (hC (lentT (mkX t.Dl i)))) := ⟨hw, hr⟩
      clear HK hw hr hi
      go_wp2
      refine H12.out _ _ ?_
      clear H12 c41
      obtain ⟨X, hX⟩ : ∃ X, X = mkX t.Dl i := ⟨_, rfl⟩
      have XL : X.length = t.Dl.length := by rw [hX, mkX_len]
      have XS : Bys X := by rw [hX]; exact mkX_bys XB.out _
      have he := HE.out
      rw [← hX] at he
      have FY : Hid (∀ V, Below wr.heap.size wr V → TxG V (wD u X) ∧ V.rangeAt b5 0 CU ∧ Below w.heap.size w V ∧ Rws V) := fun V BV => by
        have q := he.1.step BV
        have bw := q.below (by have := DB.out; omega) BV0.out.1 BV0.out.1.size
        have g := GR.out V bw
        exact ⟨LT0.out.wrote LN.out q g.2.2.2 XL XS (he.2.keep BV), q.rangeP RU0.out (by have := DB.out; omega), bw, g.2.2.1⟩
      have d := (ev.out _ LT0.out).2.2.2.2.2
      have BD : Hid (BdG (wD u X)) := ⟨by show X.length < _; rw [XL]; exact hn.out.1, d.1.2.1, d.1.2.2.1, d.1.2.2.2⟩
      have BH : Hid ((wD u X).Hsl.length < 1000000000) := d.2
      have TC : Hid (CU = txC (wD u X)) := by show _ = _; rw [HCU.out, txC_wD (by rw [XL, hl2])]
      clear d he hX XL XS HE
      obtain ⟨I2, hI⟩ : ∃ x, x = igV (wD u X) := ⟨_, rfl⟩
      obtain ⟨L2, hL⟩ : ∃ x, x = flV (wD u X) := ⟨_, rfl⟩
      obtain ⟨Q2, hQ⟩ : ∃ x, x = dfN (wD u X) := ⟨_, rfl⟩
      have E0 : Hid (∀ V, Below wr.heap.size wr V → Calls Tryd.prog 7 #[.agg CU.toArray] V fun e w' => e = .returned (.tuple #[.int .u64 I2, .int .i64 Q2]) ∧ Below V.heap.size V w') := fun V BV => by
        have f := FY.out V BV
        have h := Intrinsic_any BD BH.out V f.1 f.2.2.2
        rw [TC.out, hI, hQ]
        exact h
      have E1 : Hid (∀ V, Below wr.heap.size wr V → Calls Tryd.prog 11 #[.agg CU.toArray] V fun e w' => e = .returned (.tuple #[.int .u64 I2, .int .i64 Q2]) ∧ Below V.heap.size V w') := fun V BV => by
        have f := FY.out V BV
        have h := rIntrinsic_any BD BH.out V f.1
        rw [TC.out, hI, hQ]
        exact h
      have E2 : Hid (∀ V, Below wr.heap.size wr V → Calls Tryd.prog 9 #[.agg CU.toArray] V fun e w' => e = .returned (.tuple #[.int .u64 L2, .int .i64 Q2]) ∧ Below V.heap.size V w') := fun V BV => by
        have f := FY.out V BV
        have h := Floor_any BD BH.out V f.1 f.2.2.2
        rw [TC.out, hL, hQ]
        exact h
      have E3 : Hid (∀ V, Below wr.heap.size wr V → Calls Tryd.prog 12 #[.agg CU.toArray] V fun e w' => e = .returned (.tuple #[.int .u64 L2, .int .i64 Q2]) ∧ Below V.heap.size V w') := fun V BV => by
        have f := FY.out V BV
        have h := rFloor_any BD BH.out V f.1
        rw [TC.out, hL, hQ]
        exact h
      clear hI hL hQ
      have BW : Hid (Below wr.heap.size wr wr) := Below.refl _ _
      have rU := (FY.out _ BW.out).2.1
      have HY : Hid (∀ V, Below wr.heap.size wr V → Below w.heap.size w V) := fun V BV => (FY.out V BV).2.2.1
      refine wp_seq_k fun K16 h16 => ?_
      have H16 : Hid _ := h16
      clear h16
      go_wp2_with first
        | (refine wpList_load_midT (by rfl) 32 _ rfl b5 0 rfl CU _ rU Tryd.underlying32 rfl szu ?_)
        | (go_at_call 7; refine (E0.out _ BW.out).mono ?_; rintro e wn ⟨rfl, hb⟩; replace BW : Hid (Below wr.heap.size wr wn) := BW.out.trans (hb.mono BW.out.size); clear hb rU; have rU := (FY.out _ BW.out).2.1)
      refine H16.out _ _ ?_
      clear H16
      refine wp_seq_k fun K17 h17 => ?_
      have H17 : Hid _ := h17
      clear h17
      go_wp2_with first
        | (refine wpList_load_midT (by rfl) 32 _ rfl b5 0 rfl CU _ rU Tryd.underlying32 rfl szu ?_)
        | (go_at_call 11; refine (E1.out _ BW.out).mono ?_; rintro e wn ⟨rfl, hb⟩; replace BW : Hid (Below wr.heap.size wr wn) := BW.out.trans (hb.mono BW.out.size); clear hb rU; have rU := (FY.out _ BW.out).2.1)
      refine H17.out _ _ ?_
      clear H17
      refine wp_seq_k fun K18 h18 => ?_
      have H18 : Hid _ := h18
      clear h18
      go_wp2_with first
        | (refine wpList_load_midT (by rfl) 32 _ rfl b5 0 rfl CU _ rU Tryd.underlying32 rfl szu ?_)
        | (go_at_call 9; refine (E2.out _ BW.out).mono ?_; rintro e wn ⟨rfl, hb⟩; replace BW : Hid (Below wr.heap.size wr wn) := BW.out.trans (hb.mono BW.out.size); clear hb rU; have rU := (FY.out _ BW.out).2.1)
      refine H18.out _ _ ?_
      clear H18
      refine wp_seq_k fun K19 h19 => ?_
      have H19 : Hid _ := h19
      clear h19
      go_wp2_with first
        | (refine wpList_load_midT (by rfl) 32 _ rfl b5 0 rfl CU _ rU Tryd.underlying32 rfl szu ?_)
        | (go_at_call 12; refine (E3.out _ BW.out).mono ?_; rintro e wn ⟨rfl, hb⟩; replace BW : Hid (Below wr.heap.size wr wn) := BW.out.trans (hb.mono BW.out.size); clear hb rU; have rU := (FY.out _ BW.out).2.1)
      refine H19.out _ _ ?_
      clear H19
      go_wp2_with first
        | (go_at_call 13; refine (NU.out _ _).mono ?_; rintro e wn ⟨rfl, hb⟩; replace BW : Hid (Below wr.heap.size wr wn) := BW.out.trans (hb.mono BW.out.size); clear hb)
      simp [bodyPost, results, Tryd.results4, go_sem]
      exact HY.out _ BW.out
    · have hlt : i < n := by omega
      have hlt' : (i : Int) < (n : Int) := by omega
      have li : i < (mkX t.Dl i).length := by rw [mkX_len, EN.out]; exact hlt
      have cx : wr.cell? ⟨u.Db, i, none⟩ = some (.int .u8 ((mkX t.Dl i).getD i 0)) := by
        have h := hr.1 i (.int .u8 ((mkX t.Dl i).getD i 0)) (by
          unfold hC lentT
          rw [List.getElem?_map, List.getElem?_append_left li, List.getElem?_eq_getElem li, List.getD, List.getElem?_eq_getElem li]; rfl)
        rwa [Nat.zero_add] at h
      have fx := (hr.2 i (by rw [hC_len, lentT_len]; omega)).2
      rw [Nat.zero_add] at fx
      have NX : Hid (Wr V0 (wr.setCell ⟨u.Db, i, none⟩ (.int .u8 (bits .and .u8 ((mkX t.Dl i).getD i 0) 1))) u.Db ∧ Rt (wr.setCell ⟨u.Db, i, none⟩ (.int .u8 (bits .and .u8 ((mkX t.Dl i).getD i 0) 1))) u.Db 0 (hC (lentT (mkX t.Dl (i + 1))))) := ⟨hw.set, hr.set li⟩
      clear hw hr hi h8 li
      generalize (mkX t.Dl i).getD i 0 = x at *
      go_wp2_with fail
      refine region_tail 10 (by kernel_rfl) (by kernel_rfl) ?_
      simp only [List.take_succ_cons, List.take_zero, List.drop_succ_cons, List.drop_zero]
      repeat (first | go_big_quiet_skip | (go_big_quiet_want; go_big_quiet_op; go_big_quiet_on))
      refine wpQuiet_nil ?_
      go_wp2
      go_roundg (n - (i + 1))
      case measure => have := HK.out; omega
      case rel => exact ⟨i + 1, rfl, hlt, by go_num, ⟨NX.out.1.os, NX.out.1.tape, NX.out.1.output, NX.out.1.size, NX.out.1.block⟩, NX.out.2⟩
end Go.Proofs.YtllfmlgnemkklaaDoor

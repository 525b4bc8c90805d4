import Derived.Test.YtllfmlgnemkklaaDoorFgG
import Derived.Test.YtllfmlgnemkklaaDoorFgI
import Derived.Test.YtllfmlgnemkklaaDoorFgN
/- Layer 18: FeesAdds: the law. -/
namespace Go.Proofs.YtllfmlgnemkklaaDoor
open Go.RowKit Go.Sort
open tq
set_option maxRecDepth 100000 in
set_option maxHeartbeats 16000000 in
theorem feesAdds_any {t : Txv} {a1 a2 : Option Addr} {b1 o1 c1 b2 o2 c2 : Nat} {X1 : List Int} {KK : List (List Int)} (hn : Hid (BdTF t)) (hd : Hid (BdG t)) (hdl : Hid (t.Dl.length < 500000000)) (hel : Hid (t.El.length < 5000000)) (hx : X1.length < 10000000) (hk : KK.length < 10000000) (w : World) (hM : MkH w) (hA : MkA w) (hR : Rws w) (hG : TxG w t) (hB1 : BtG w a1 b1 o1 c1 X1) (hKK : KsG w a2 b2 o2 c2 KK) :
    Calls Tryd.prog 3 #[.agg (txC t).toArray, .slice a1 X1.length c1, .slice a2 KK.length c2] w fun e w' => e = .returned (.bool true) ∧ Below w.heap.size w w' := by
  have h20 := hG.to.1
  have sz := size_tx h20
  have GR : Hid (∀ V, Below w.heap.size w V → MkH V ∧ MkA V ∧ Rws V ∧ TxG V t ∧ BtG V a1 b1 o1 c1 X1 ∧ KsG V a2 b2 o2 c2 KK) := fun V BV => ⟨hM.keep BV, hA.keep BV, hR.keep BV, hG.keep BV, hB1.keep BV, hKK.keep BV⟩
  have TW : Hid (∀ V, Below w.heap.size w V → Calls Tryd.prog 8 #[.agg (txC t).toArray] V fun e w' => ∃ u, e = .returned (.agg (txC u).toArray) ∧ LtT w' u t ∧ (LtN u t ∧ V.heap.size ≤ u.Db) ∧ Below V.heap.size V w') := fun V BV => twinG_any hn V (hM.keep BV) (hA.keep BV) (hG.keep BV)
  have LV : Hid (∀ V, Below w.heap.size w V → Calls Tryd.prog 5 #[] V fun e w' => e = .returned (.bool true) ∧ Below V.heap.size V w') := fun V BV => lives_any V (hR.keep BV)
  have DR : Hid (∀ V, Below w.heap.size w V → Calls Tryd.prog 6 #[.agg (txC t).toArray] V fun e w' => e = .returned (.int .i64 (dfN t)) ∧ Below V.heap.size V w') := fun V BV => draft_at hG hn.out.2.1 (by have := hn.out.2.2.1; omega) hR BV
  have CI : Hid (∀ V u, Below w.heap.size w V → LtT V u t → Calls Tryd.prog 7 #[.agg (txC u).toArray] V fun e w' => e = .returned (.tuple #[.int .u64 (igV t), .int .i64 (dfN t)]) ∧ Below V.heap.size V w') := fun V u BV h => by
    have d := same_vals hd hn h
    have r := Intrinsic_any d.2.2.2.2.2.1 d.2.2.2.2.2.2 V (h.good (hG.keep BV)) (hR.keep BV)
    rw [d.1, d.2.2.1] at r
    exact r
  have CF : Hid (∀ V u, Below w.heap.size w V → LtT V u t → Calls Tryd.prog 9 #[.agg (txC u).toArray] V fun e w' => e = .returned (.tuple #[.int .u64 (flV t), .int .i64 (dfN t)]) ∧ Below V.heap.size V w') := fun V u BV h => by
    have d := same_vals hd hn h
    have r := Floor_any d.2.2.2.2.2.1 d.2.2.2.2.2.2 V (h.good (hG.keep BV)) (hR.keep BV)
    rw [d.2.1, d.2.2.1] at r
    exact r
  have hX0 := (TxB.new (W := w) (ty := 32) h20).all
  have TO : Hid (t.to.length = 20) := h20
  obtain ⟨M, hMM⟩ : ∃ M, M = txC t := ⟨_, rfl⟩
  have HM : Hid (M = txC t) := hMM
  rw [← hMM] at sz hX0 TW DR ⊢
  have HL : Hid (X1.length < 10000000 ∧ KK.length < 10000000) := ⟨hx, hk⟩
  clear hMM h20 hM hA hR hG hB1 hKK hx hk
  obtain ⟨I, hI⟩ : ∃ x, x = igV t := ⟨_, rfl⟩
  obtain ⟨L, hL⟩ : ∃ x, x = flV t := ⟨_, rfl⟩
  have HI : Hid (I = igV t ∧ L = flV t) := ⟨hI, hL⟩
  rw [← hI] at CI
  rw [← hL] at CF
  clear hI hL
  go_enter Tryd.func3, Tryd.ntmps3
  refine wp_seq_k fun K0 h0 => ?_
  have H0 : Hid _ := h0
  clear h0
  go_wp2
  refine H0.out _ _ ?_
  clear H0
  refine wp_world (fun W => Below w.heap.size w W ∧ W.rangeAt w.heap.size 0 M) ⟨(Below.refl _ _).alloc (Nat.le_refl _) _, hX0⟩ ?_
  clear hX0
  rintro W ⟨B, rM⟩
  have BW : Hid (Below w.heap.size w W) := B
  have HS : Hid (w.heap.size < W.heap.size) := range_ltT rM (by rw [HM.out, txC_len TO.out]; decide)
  clear B
  refine wp_seq_k fun K1 h1 => ?_
  have H1 : Hid _ := h1
  clear h1
  go_wp2_with first
    | (refine wpList_load_midT (by rfl) 32 _ rfl w.heap.size 0 rfl M _ rM Tryd.underlying32 rfl sz ?_)
    | (go_at_call 5; refine (LV.out _ BW.out).mono ?_; rintro e wn ⟨rfl, hb⟩; replace BW : Hid (Below w.heap.size w wn) := BW.out.trans (hb.mono BW.out.size); replace rM := tq.range_keep rM hb; clear hb)
  refine H1.out _ _ ?_
  clear H1
  obtain ⟨Q, hQ⟩ : ∃ x, x = dfN t := ⟨_, rfl⟩
  have HQ : Hid (Q = dfN t) := hQ
  rw [← hQ] at DR CI CF
  clear hQ
  by_cases c0 : Q = 0
  case neg =>
    have cq : (Q != 0) = true := bne_iff_ne.2 c0
    clear c0
    go_wp2_with first
      | (refine wpList_load_midT (by rfl) 32 _ rfl w.heap.size 0 rfl M _ rM Tryd.underlying32 rfl sz ?_)
      | (go_at_call 6; refine (DR.out _ BW.out).mono ?_; rintro e wn ⟨rfl, hb⟩; replace BW : Hid (Below w.heap.size w wn) := BW.out.trans (hb.mono BW.out.size); replace rM := tq.range_keep rM hb; clear hb)
      | (go_at_call 8; refine (TW.out _ BW.out).mono ?_; rintro e wn ⟨u, rfl, lt, ln, hb⟩; have LU : Hid (LtT wn u t) := lt; replace BW : Hid (Below w.heap.size w wn) := BW.out.trans (hb.mono BW.out.size); replace rM := tq.range_keep rM hb; clear lt ln hb)
      | (go_at_call 7; refine (CI.out _ _ BW.out LU.out).mono ?_; rintro e wn ⟨rfl, hb⟩; replace BW : Hid (Below w.heap.size w wn) := BW.out.trans (hb.mono BW.out.size); replace rM := tq.range_keep rM hb; clear hb)
      | (go_at_call 9; refine (CF.out _ _ BW.out LU.out).mono ?_; rintro e wn ⟨rfl, hb⟩; replace BW : Hid (Below w.heap.size w wn) := BW.out.trans (hb.mono BW.out.size); replace rM := tq.range_keep rM hb; clear hb)
    simp [bodyPost, results, Tryd.results3, go_sem]
    exact BW.out
  subst c0
  refine wp_seq_k fun K3 h3 => ?_
  have H3 : Hid _ := h3
  clear h3
  go_wp2_with first
    | (refine wpList_load_midT (by rfl) 32 _ rfl w.heap.size 0 rfl M _ rM Tryd.underlying32 rfl sz ?_)
    | (go_at_call 6; refine (DR.out _ BW.out).mono ?_; rintro e wn ⟨rfl, hb⟩; replace BW : Hid (Below w.heap.size w wn) := BW.out.trans (hb.mono BW.out.size); replace rM := tq.range_keep rM hb; clear hb)
  refine H3.out _ _ ?_
  clear H3
  refine wp_seq_k fun K7 h7 => ?_
  have H7 : Hid _ := h7
  clear h7
  go_wp2_with first
    | (refine wpList_load_midT (by rfl) 32 _ rfl w.heap.size 0 rfl M _ rM Tryd.underlying32 rfl sz ?_)
    | (go_at_call 8; refine (TW.out _ BW.out).mono ?_; rintro e wn ⟨u, rfl, lt, ln, hb⟩; have LU : Hid (LtT wn u t) := lt; replace BW : Hid (Below w.heap.size w wn) := BW.out.trans (hb.mono BW.out.size); replace rM := tq.range_keep rM hb; clear lt ln hb)
    | (go_at_call 7; refine (CI.out _ _ BW.out LU.out).mono ?_; rintro e wn ⟨rfl, hb⟩; replace BW : Hid (Below w.heap.size w wn) := BW.out.trans (hb.mono BW.out.size); replace rM := tq.range_keep rM hb; clear hb)
  refine H7.out _ _ ?_
  clear H7
  refine wp_seq_k fun K8 h8 => ?_
  have H8 : Hid _ := h8
  clear h8
  go_wp2_with first
    | (refine wpList_load_midT (by rfl) 32 _ rfl w.heap.size 0 rfl M _ rM Tryd.underlying32 rfl sz ?_)
    | (go_at_call 8; refine (TW.out _ BW.out).mono ?_; rintro e wn ⟨u, rfl, lt, ln, hb⟩; have LU : Hid (LtT wn u t) := lt; replace BW : Hid (Below w.heap.size w wn) := BW.out.trans (hb.mono BW.out.size); replace rM := tq.range_keep rM hb; clear lt ln hb)
    | (go_at_call 9; refine (CF.out _ _ BW.out LU.out).mono ?_; rintro e wn ⟨rfl, hb⟩; replace BW : Hid (Below w.heap.size w wn) := BW.out.trans (hb.mono BW.out.size); replace rM := tq.range_keep rM hb; clear hb)
  refine H8.out _ _ ?_
  clear H8
  refine wp_seq_k fun K9 h9 => ?_
  have H9 : Hid _ := h9
  clear h9
  clear LU
  go_wp2_with first
    | (refine wpList_load_midT (by rfl) 32 _ rfl w.heap.size 0 rfl M _ rM Tryd.underlying32 rfl sz ?_)
    | (go_at_call 8; refine (TW.out _ BW.out).mono ?_; rintro e w2 ⟨u, rfl, lt, ln, hb⟩; (have HU : Hid (LtT w2 u t ∧ (txC u).length = 61) := ⟨lt, txC_len (by rw [lt.sc.2.2.2.2.2]; exact TO.out)⟩); replace BW : Hid (Below w.heap.size w w2) := BW.out.trans (hb.mono BW.out.size); replace rM := tq.range_keep rM hb; have HS2 : Hid (w.heap.size < w2.heap.size) := range_ltT rM (by rw [HM.out, txC_len TO.out]; decide); clear lt ln hb)
    | (refine wpList_allocT rfl 32 rfl (some 15) rfl 61 408 rI_t ?_; intro b5 W5 h5 B5 t5)
    | (refine wpList_storeT rfl 32 _ _ rfl b5 (txC u) rfl rfl (by rw [HU.out.2]; exact t5) (by rw [HU.out.2]; exact size_txT) (txC_one u) ?_; intro V0 u9 r9 t9)
  refine H9.out _ _ ?_
  clear H9
  have B26 : Below w2.heap.size w2 V0 := u9.below (by have := h5.out; omega) B5
  replace BW : Hid (Below w.heap.size w V0) := BW.out.trans (B26.mono BW.out.size)
  replace rM := tq.range_keep rM B26
  have LU : Hid (LtT V0 u t ∧ b5 < V0.heap.size ∧ w.heap.size < b5) := ⟨HU.out.1.keep B26, by have := h5.out; rw [u9.size]; omega, by have := h5.out; have := HS2.out; omega⟩
  have L61 : Hid ((txC u).length = 61) := HU.out.2
  have LW : Hid (LtT w2 u t ∧ Below w2.heap.size w2 V0 ∧ w2.heap.size ≤ b5) := ⟨HU.out.1, B26, by have := h5.out; omega⟩
  have RM0 : Hid (V0.rangeAt w.heap.size 0 M) := rM
  rw [HU.out.2] at t9
  clear HU HS2 B26 u9 t5 B5 h5 LV DR CI CF
  have cM : V0.cell? ⟨w.heap.size, 41, none⟩ = some (.slice t.Da t.Dl.length t.Dc) := TxB.D ⟨by rw [← HM.out]; exact rM, TO.out⟩
  have FC : Hid (∀ V, Below w.heap.size w V → Calls Tryd.prog 10 #[.slice t.Da t.Dl.length t.Dc] V fun e w' => ∃ v, e = .returned v ∧ OwnB V.heap.size w' v t.Dl ∧ Below V.heap.size V w') := fun V BV => fcopied_any (by have := hd.out.1; omega) (GR.out V BV).2.2.2.1.D.2.1 V (GR.out V BV).2.2.2.1.D.2.2.1
  refine wp_seq_k fun K10 h10 => ?_
  have H10 : Hid _ := h10
  clear h10
  go_wp2_with first
    | (go_at_call 10; refine (FC.out _ BW.out).mono ?_; rintro e w3 ⟨v3, rfl, ho, hb⟩; obtain ⟨a3, g3, c3, rfl, -⟩ := ho.lies; (have HO : Hid (OwnB V0.heap.size w3 (.slice a3 t.Dl.length c3) t.Dl ∧ Below V0.heap.size V0 w3) := ⟨ho, hb⟩); replace r9 := tq.range_keep r9 hb; replace t9 := there_keepT t9 LU.out.2.1 hb; clear ho hb)
    | (refine wpList_store1T rfl 27 _ _ rfl b5 41 (.slice a3 t.Dl.length c3) (txC u) rfl rfl rfl rfl size_1b r9 (by rw [L61.out]; exact t9) (by rw [L61.out]; decide) ?_; intro V2 u9 r10 t10)
  refine H10.out _ _ ?_
  clear H10
  have GT : Gth V0 V2 b5 (txC u) (t.Dl ++ X1.take 0) := by
    rw [List.take_zero, List.append_nil]
    exact ⟨wr_but ((Wr.refl V0 b5).step (HO.out.2.mono (Nat.le_refl _))) u9, a3, c3, r10, by rw [L61.out] at t10; exact t10, ownB_but HO.out.1 u9 LU.out.2.1⟩
  clear HO u9 r10 t10 r9 t9 cM FC rM
  refine wp_seq_k fun K11 h11 => ?_
  have H11 : Hid _ := h11
  clear h11
  go_wp2
  refine H11.out _ _ ?_
  clear H11
  refine wp_seq_k fun K12 h12 => ?_
  have H12 : Hid _ := h12
  clear h12
  go_wp2
  refine H12.out _ _ ?_
  clear H12
  refine wp_seq_k fun K13 h13 => ?_
  have H13 : Hid _ := h13
  clear h13
  have GF : Hid (∀ V, Wr V0 V b5 → Below w.heap.size w V ∧ BtG V a1 b1 o1 c1 X1) := fun V h => by
    have b := h.below (Nat.le_of_lt LU.out.2.2) BW.out BW.out.size
    exact ⟨b, (GR.out V b).2.2.2.2.1⟩
  obtain ⟨n, en⟩ : ∃ n, n = X1.length := ⟨_, rfl⟩
  have EN : Hid (X1.length = n ∧ n < 10000000) := ⟨en.symm, by rw [en]; exact HL.out.1⟩
  have n1 : (n : Int) < 10000000 := by have := EN.out; omega
  rw [← en]
  clear en
  obtain ⟨CU, hCU⟩ : ∃ C, C = txC u := ⟨_, rfl⟩
  have HCU : Hid (CU = txC u) := hCU
  rw [← hCU] at GT L61
  clear hCU
  have PL : Hid (t.Dl.length < 1000000000) := hd.out.1
  go_wp2_with fail
  go_loopg [16, 17, 18] n (fun k gv fv iv wr => ∃ i : Nat, k = n - i ∧ i ≤ n ∧ gv = .int .u64 (gs 4 16 X1 i) ∧ fv = .int .u64 (gs 10 40 X1 i) ∧ iv = .int .i64 (i : Int) ∧ Gth V0 wr b5 CU (t.Dl ++ X1.take i))
  case atStart => exact ⟨0, rfl, Nat.zero_le _, by rw [gs_0], by rw [gs_0], rfl, GT⟩
  case round =>
    clear GT
    obtain ⟨i, hk, hi, rfl, rfl, rfl, hg⟩ := hrel
    have HK : Hid (gk = n - i) := hk
    clear hk
    by_cases h8 : i = n
    · subst h8
      have HE : Hid (Gth V0 wr b5 CU (t.Dl ++ X1.take i)) := hg
      clear HK hg hi
      go_wp2
      refine H13.out _ _ ?_
      clear H13
      obtain ⟨q0, va, vc, r0, t0, ow⟩ := HE.out
      have tk : X1.take i = X1 := by rw [← EN.out.1, List.take_length]
      rw [tk] at r0 ow
      have bysX : Bys X1 := (GF.out _ q0).2.2.2.2
      have bysT : Bys t.Dl := (GR.out w (Below.refl _ _)).2.2.2.1.D.2.2.2
      obtain ⟨va', gg, vc', ee, DG⟩ := ownB_BtG ow (fun y hy => by rcases List.mem_append.1 hy with h | h; exact bysT y h; exact bysX y h)
      injection ee with e1 e2 e3
      subst e1; subst e3
      clear e2 ow bysX bysT tk
      have TOu : u.to.length = 20 := by rw [LW.out.1.sc.2.2.2.2.2]; exact TO.out
      obtain ⟨C2, hC2⟩ : ∃ C, C = CU.set 41 (.slice va (t.Dl ++ X1).length vc) := ⟨_, rfl⟩
      have TC : Hid (C2 = txC (wD2 u va gg vc (t.Dl ++ X1))) := by show _ = _; rw [hC2, HCU.out, txC_wD2 TOu]
      have L2 : Hid (C2.length = 61) := by show _ = _; rw [hC2, List.length_set, L61.out]
      have c541 : wr.cell? ⟨b5, 41, none⟩ = some (.slice va (t.Dl ++ X1).length vc) := by
        have h := r0 41 (.slice va (t.Dl ++ X1).length vc) (by rw [List.getElem?_set_self (by rw [L61.out]; decide)])
        rwa [Nat.zero_add] at h
      rw [← hC2] at r0
      clear hC2
      have szu : (Tryd.prog.info? 32).map (·.size) = some C2.length := by rw [L2.out]; exact size_txT
      have FY : Hid (∀ V, Below wr.heap.size wr V → TxG V (wD2 u va gg vc (t.Dl ++ X1)) ∧ V.rangeAt b5 0 C2 ∧ Below w.heap.size w V ∧ Rws V ∧ V.rangeAt w.heap.size 0 M) := fun V BV => by
        have q := q0.step BV
        have bw := (GF.out _ q).1
        have g := GR.out V bw
        exact ⟨good_wD2 ((ltT_wr LW.out.1 LW.out.2.1 q LW.out.2.2).good g.2.2.2.1) (DG.keep BV), fun j v hv => cell_keep BV (r0 j v hv), bw, g.2.2.1, q.rangeP RM0.out (by have := LU.out.2; omega)⟩
      have ldu : u.Dl = t.Dl := LW.out.1.D.1
      have cru : u.cr = t.cr := LW.out.1.sc.2.2.2.2.1
      have BD0 : BdG u := bdG_same hd.out LW.out.1
      have BD : Hid (BdG (wD2 u va gg vc (t.Dl ++ X1))) := bdG_wD2 BD0 (by rw [List.length_append]; have := hdl.out; have := HL.out; omega)
      have BH : Hid ((wD2 u va gg vc (t.Dl ++ X1)).Hsl.length < 1000000000) := by show u.Hsl.length < _; rw [LW.out.1.Hs.1]; exact hn.out.2.1
      have DF : Hid (dfN (wD2 u va gg vc (t.Dl ++ X1)) = 0) := by show _ = _; rw [df_wD2, df_same LW.out.1, ← HQ.out]
      have bi := igT_bd BD.out
      have bl := flT_bd BD.out
      have EI := igT_wD2 u va gg vc X1
      have EL := flT_wD2 u va gg vc X1
      rw [ldu, cru, (igT_same LW.out.1).1, EN.out.1] at EI
      rw [ldu, (igT_same LW.out.1).2, EN.out.1] at EL
      have iI : igT t = I := by have := HI.out.1; unfold igV at this; rw [if_pos HQ.out.symm] at this; exact this.symm
      have iL : flT t = L := by have := HI.out.2; unfold flV at this; rw [if_pos HQ.out.symm] at this; exact this.symm
      have HII : Hid (igT t = I) := iI
      rw [iI] at EI
      rw [iL] at EL
      obtain ⟨I2, hI2⟩ : ∃ x, x = igT (wD2 u va gg vc (t.Dl ++ X1)) := ⟨_, rfl⟩
      obtain ⟨L9, hL9⟩ : ∃ x, x = flT (wD2 u va gg vc (t.Dl ++ X1)) := ⟨_, rfl⟩
      rw [← hI2] at bi EI
      rw [← hL9] at bl EL
      have E0 : Hid (∀ V, Below wr.heap.size wr V → Calls Tryd.prog 7 #[.agg C2.toArray] V fun e w' => e = .returned (.tuple #[.int .u64 I2, .int .i64 0]) ∧ Below V.heap.size V w') := fun V BV => by
        have f := FY.out V BV
        have h := Intrinsic_any BD BH.out V f.1 f.2.2.2.1
        unfold igV at h
        rw [if_pos DF.out, DF.out, ← hI2] at h
        rw [TC.out]; exact h
      have E1 : Hid (∀ V, Below wr.heap.size wr V → Calls Tryd.prog 9 #[.agg C2.toArray] V fun e w' => e = .returned (.tuple #[.int .u64 L9, .int .i64 0]) ∧ Below V.heap.size V w') := fun V BV => by
        have f := FY.out V BV
        have h := Floor_any BD BH.out V f.1 f.2.2.2.1
        unfold flV at h
        rw [if_pos DF.out, DF.out, ← hL9] at h
        rw [TC.out]; exact h
      have B1 := gs_bd (X := X1) (z := 4) (q := 16) (n := i) (by have := EN.out; omega) (by decide) (by decide)
      have B2 := gs_bd (X := X1) (z := 10) (q := 40) (n := i) (by have := EN.out; omega) (by decide) (by decide)
      have b0 := igT_bd hd.out
      have b00 := flT_bd hd.out
      rw [iI] at b0
      rw [iL] at b00
      have fL : IntKind.u64.wrap (L + gs 10 40 X1 i) = L9 := by rw [IntKind.wrap_u64]; omega
      have rM := (FY.out wr (Below.refl _ _)).2.2.2.2
      have cM16 : wr.cell? ⟨w.heap.size, 16, none⟩ = some (.bool t.cr) := TxB.cr ⟨by rw [← HM.out]; exact rM, TO.out⟩
      have cM41 : wr.cell? ⟨w.heap.size, 41, none⟩ = some (.slice t.Da t.Dl.length t.Dc) := TxB.D ⟨by rw [← HM.out]; exact rM, TO.out⟩
      have dl1 : (t.Dl.length : Int) < 500000000 := by have := hdl.out; omega
      have ll1 : ((t.Dl ++ X1).length : Nat) = t.Dl.length + i := by rw [List.length_append, EN.out.1]
      rw [ll1] at c541
      have HY : Hid (∀ V, Below wr.heap.size wr V → V.rangeAt b5 0 C2 ∧ Below w.heap.size w V ∧ V.rangeAt w.heap.size 0 M) := fun V BV => ⟨(FY.out V BV).2.1, (FY.out V BV).2.2.1, (FY.out V BV).2.2.2.2⟩
      clear ldu cru BD0 DF BD BH TC FY hI2 hL9 iI iL r0 t0 q0 DG ll1 TOu RM0 EL B2 b00 bl HE rM
      refine wp_seq_k fun K22 h22 => ?_
      have H22 : Hid _ := h22
      clear h22
      have GOAL : Hid (∃ G : Int, IntKind.u64.wrap (I + G) = I2) := ⟨I2 - I, by rw [IntKind.wrap_u64]; omega⟩
      generalize gs 10 40 X1 i = s2 at *
      generalize gs 4 16 X1 i = s1 at *
      generalize t.Dl.length = dl at *
      by_cases cr : t.cr = true
      · rw [cr] at cM16
        rw [if_pos cr] at EI
        clear cr
        go_wp2
        refine H22.out _ _ ?_
        clear H22 cM16 cM41 c541
        have fI : IntKind.u64.wrap (I + (s1 + 2 * (((dl : Int) + (i : Int) + 31) / 32 - ((dl : Int) + 31) / 32))) = I2 := by rw [IntKind.wrap_u64]; omega
        clear EI dl1 b0 bi B1 GOAL
        obtain ⟨G, hG⟩ : ∃ G : Int, G = (s1 + 2 * (((dl : Int) + (i : Int) + 31) / 32 - ((dl : Int) + 31) / 32)) := ⟨_, rfl⟩
        rw [← hG] at fI ⊢
        clear hG
        have BV : Hid (Below wr.heap.size wr wr) := Below.refl _ _
        have rU := (HY.out _ BV.out).1
        refine wp_seq_k fun K24 h24 => ?_
        have H24 : Hid _ := h24
        clear h24
        go_wp2_with first
          | (refine wpList_load_midT (by rfl) 32 _ rfl b5 0 rfl C2 _ rU Tryd.underlying32 rfl szu ?_)
          | (go_at_call 7; refine (E0.out _ BV.out).mono ?_; rintro e wn ⟨rfl, hb⟩; replace BV : Hid (Below wr.heap.size wr wn) := BV.out.trans (hb.mono BV.out.size); clear hb rU; have rU := (HY.out _ BV.out).1)
        refine H24.out _ _ ?_
        clear H24
        refine wp_seq_k fun K25 h25 => ?_
        have H25 : Hid _ := h25
        clear h25
        go_wp2_with first
          | (refine wpList_load_midT (by rfl) 32 _ rfl b5 0 rfl C2 _ rU Tryd.underlying32 rfl szu ?_)
          | (go_at_call 9; refine (E1.out _ BV.out).mono ?_; rintro e wn ⟨rfl, hb⟩; replace BV : Hid (Below wr.heap.size wr wn) := BV.out.trans (hb.mono BV.out.size); clear hb rU; have rU := (HY.out _ BV.out).1)
        refine H25.out _ _ ?_
        clear H25
        refine wp_seq_k fun K26 h26 => ?_
        have H26 : Hid _ := h26
        clear h26
        go_wp2
        refine H26.out _ _ ?_
        clear H26
        have GR2 : Hid (∀ V, Below w.heap.size w V → MkH V ∧ MkA V ∧ Rws V ∧ TxG V t ∧ KsG V a2 b2 o2 c2 KK) := fun V BV => ⟨(GR.out V BV).1, (GR.out V BV).2.1, (GR.out V BV).2.2.1, (GR.out V BV).2.2.2.1, (GR.out V BV).2.2.2.2.2⟩
        have hz := HY.out _ BV.out
        exact (adds_tail w hn hd hel HL.out.2 HQ HII HM TO (range_ltT hz.2.2 (by rw [HM.out, txC_len TO.out]; decide)) sz GR2 TW hz.2.1 hz.2.2 _ _ _ _ _ _ _ _ _ _ _ _ _ _ _ _ _ _ _ _ _ _ _ _ _ _ _ _ _ _ _ _ _ _ _ _ _ _ _ _ _ _ _ _ _ _ _ _ _ _ _ _ _ _ _ _ _ _ _ _ _ _ _ _ _ _ _ _ _ _ _ _ _ _ _ _ _ _ _ _ _ _ _ _ _ _ _ _ _ _ _ _ _ _ _ _ _ _ _ _ _ _ _ _ _ _ _ _ _ _ _ _ _ _ _ _ _ _ _ _ _ _ _ _ _ _ _ _ _ _ _ _ _ _ _ _ _ _ _ _ _ _ _ _ _ _ _ _ _ _ _ _ _ _ _ _ _ _ _ _ _ _ _ _ _ _ _ _ _ _ _ _ _ _ _ _ _ _ _ _ _ _ _ _ _ _ _ _ _ _ _ _ _ _ _ _ _).out rfl
      · have cr' : t.cr = false := by simpa using cr
        rw [cr'] at cM16
        rw [if_neg cr] at EI
        clear cr cr'
        go_wp2
        refine H22.out _ _ ?_
        clear H22 cM16 cM41 c541
        have fI : IntKind.u64.wrap (I + s1) = I2 := by rw [IntKind.wrap_u64]; omega
        clear EI dl1 b0 bi B1 GOAL
        obtain ⟨G, hG⟩ : ∃ G : Int, G = s1 := ⟨_, rfl⟩
        rw [← hG] at fI ⊢
        clear hG
        have BV : Hid (Below wr.heap.size wr wr) := Below.refl _ _
        have rU := (HY.out _ BV.out).1
        refine wp_seq_k fun K24 h24 => ?_
        have H24 : Hid _ := h24
        clear h24
        go_wp2_with first
          | (refine wpList_load_midT (by rfl) 32 _ rfl b5 0 rfl C2 _ rU Tryd.underlying32 rfl szu ?_)
          | (go_at_call 7; refine (E0.out _ BV.out).mono ?_; rintro e wn ⟨rfl, hb⟩; replace BV : Hid (Below wr.heap.size wr wn) := BV.out.trans (hb.mono BV.out.size); clear hb rU; have rU := (HY.out _ BV.out).1)
        refine H24.out _ _ ?_
        clear H24
        refine wp_seq_k fun K25 h25 => ?_
        have H25 : Hid _ := h25
        clear h25
        go_wp2_with first
          | (refine wpList_load_midT (by rfl) 32 _ rfl b5 0 rfl C2 _ rU Tryd.underlying32 rfl szu ?_)
          | (go_at_call 9; refine (E1.out _ BV.out).mono ?_; rintro e wn ⟨rfl, hb⟩; replace BV : Hid (Below wr.heap.size wr wn) := BV.out.trans (hb.mono BV.out.size); clear hb rU; have rU := (HY.out _ BV.out).1)
        refine H25.out _ _ ?_
        clear H25
        refine wp_seq_k fun K26 h26 => ?_
        have H26 : Hid _ := h26
        clear h26
        go_wp2
        refine H26.out _ _ ?_
        clear H26
        have GR2 : Hid (∀ V, Below w.heap.size w V → MkH V ∧ MkA V ∧ Rws V ∧ TxG V t ∧ KsG V a2 b2 o2 c2 KK) := fun V BV => ⟨(GR.out V BV).1, (GR.out V BV).2.1, (GR.out V BV).2.2.1, (GR.out V BV).2.2.2.1, (GR.out V BV).2.2.2.2.2⟩
        have hz := HY.out _ BV.out
        exact (adds_tail w hn hd hel HL.out.2 HQ HII HM TO (range_ltT hz.2.2 (by rw [HM.out, txC_len TO.out]; decide)) sz GR2 TW hz.2.1 hz.2.2 _ _ _ _ _ _ _ _ _ _ _ _ _ _ _ _ _ _ _ _ _ _ _ _ _ _ _ _ _ _ _ _ _ _ _ _ _ _ _ _ _ _ _ _ _ _ _ _ _ _ _ _ _ _ _ _ _ _ _ _ _ _ _ _ _ _ _ _ _ _ _ _ _ _ _ _ _ _ _ _ _ _ _ _ _ _ _ _ _ _ _ _ _ _ _ _ _ _ _ _ _ _ _ _ _ _ _ _ _ _ _ _ _ _ _ _ _ _ _ _ _ _ _ _ _ _ _ _ _ _ _ _ _ _ _ _ _ _ _ _ _ _ _ _ _ _ _ _ _ _ _ _ _ _ _ _ _ _ _ _ _ _ _ _ _ _ _ _ _ _ _ _ _ _ _ _ _ _ _ _ _ _ _ _ _ _ _ _ _ _ _ _ _ _ _ _ _).out rfl
    · have hlt : i < n := by omega
      have hlt' : (i : Int) < (n : Int) := by omega
      obtain ⟨q0, va, vc, r0, t0, ow⟩ := hg
      have G1 := GF.out _ q0
      obtain rfl : a1 = some ⟨b1, o1, none⟩ := by
        rcases G1.2.2.1 with e | e
        · have := EN.out.1; rw [e] at this; simp at this; omega
        · exact e
      have gx : wr.cell? ⟨b1, o1 + i, none⟩ = some (.int .u8 (X1.getD i 0)) := G1.2.2.2.1 i (by rw [EN.out.1]; exact hlt)
      have hm : (t.Dl ++ X1.take i).length = t.Dl.length + i := by rw [List.length_append, List.length_take, EN.out.1]; omega
      rw [hm] at r0 ow
      have c41 : wr.cell? ⟨b5, 41, none⟩ = some (.slice va (t.Dl.length + i) vc) := by
        have h := r0 41 (.slice va (t.Dl.length + i) vc) (by rw [List.getElem?_set_self (by rw [L61.out]; decide)])
        rwa [Nat.zero_add] at h
      have HG : Hid (Wr V0 wr b5 ∧ wr.rangeAt b5 0 (CU.set 41 (.slice va (t.Dl.length + i) vc)) ∧ wr.there b5 0 61 ∧ wr.ownsRow V0.heap.size 5 1 (.slice va (t.Dl.length + i) vc) (t.Dl.length + i) ((t.Dl ++ X1.take i).map (Value.int .u8)) ∧ b5 < V0.heap.size) := ⟨q0, r0, t0, by have := ow.row; rwa [hm] at this, LU.out.2.1⟩
      clear q0 r0 t0 ow G1 hi h8
      have HX : Hid (∃ x, X1.getD i 0 = x) := ⟨_, rfl⟩
      obtain ⟨m, em⟩ : ∃ m, m = t.Dl.length + i := ⟨_, rfl⟩
      have EM : Hid (m = t.Dl.length + i) := em
      rw [← em] at HG c41 hm
      clear em
      have HMM : Hid ((t.Dl ++ X1.take i).length = m) := hm
      clear hm
      obtain ⟨x, hx⟩ : ∃ x, x = X1.getD i 0 := ⟨_, rfl⟩
      have EX : Hid (x = X1.getD i 0) := hx
      rw [← hx] at gx
      clear hx HX
      go_wp2_with fail
      obtain ⟨i0, hi0, hz0, hz1, hz2⟩ := info_parts info_byte
      refine wp_region_bar 9 (S := fun w' => w'.cell? ⟨b5, 41, none⟩ = some (.slice va m vc) ∧ w'.cell? ⟨b1, o1 + i, none⟩ = some (.int .u8 x)) (by kernel_rfl) ⟨c41, gx⟩ (fun hHeld => ?_)
      refine wpAnyB_takeD (i := 0) (oi := _) (v := .pointer (some ⟨b5, 41, none⟩)) 77 rfl rfl (by kernel_rfl) (by kernel_rfl) (by kernel_rfl) (by kernel_rfl) (fun _ _ _ h => h) (Or.inl ⟨by kernel_rfl, fun wq hSw => by obtain ⟨x0, x1⟩ := hSw; go_simp⟩) (by assumption) ?_
      simp only [Act.put, List.setIfInBounds_toArray, List.set_cons_succ, List.set_cons_zero]
      refine wpAnyB_takeD (i := 1) (oi := _) (v := .slice va m vc) 78 rfl rfl (by kernel_rfl) (by kernel_rfl) (by kernel_rfl) (by kernel_rfl) (fun _ _ _ h => h) (Or.inl ⟨by kernel_rfl, fun wq hSw => by obtain ⟨x0, x1⟩ := hSw; go_simp⟩) (by assumption) ?_
      simp only [Act.put, List.setIfInBounds_toArray, List.set_cons_succ, List.set_cons_zero]
      refine wpAnyB_takeD (i := 2) (oi := _) (v := .slice (some ⟨b1, o1, none⟩) n c1) 79 rfl rfl (by kernel_rfl) (by kernel_rfl) (by kernel_rfl) (by kernel_rfl) (fun _ _ _ h => h) (Or.inl ⟨by kernel_rfl, fun wq hSw => by obtain ⟨x0, x1⟩ := hSw; go_simp⟩) (by assumption) ?_
      simp only [Act.put, List.setIfInBounds_toArray, List.set_cons_succ, List.set_cons_zero]
      refine wpAnyB_takeD (i := 3) (oi := _) (v := .int .i64 (i : Int)) 80 rfl rfl (by kernel_rfl) (by kernel_rfl) (by kernel_rfl) (by kernel_rfl) (fun _ _ _ h => h) (Or.inl ⟨by kernel_rfl, fun wq hSw => by obtain ⟨x0, x1⟩ := hSw; go_simp⟩) (by assumption) ?_
      simp only [Act.put, List.setIfInBounds_toArray, List.set_cons_succ, List.set_cons_zero]
      refine wpAnyB_takeD (i := 4) (oi := _) (v := .pointer (some ⟨b1, o1 + i, none⟩)) 81 rfl rfl (by kernel_rfl) (by kernel_rfl) (by kernel_rfl) (by kernel_rfl) (fun _ _ _ h => h) (Or.inl ⟨by kernel_rfl, fun wq hSw => by obtain ⟨x0, x1⟩ := hSw; go_simp⟩) (by assumption) ?_
      simp only [Act.put, List.setIfInBounds_toArray, List.set_cons_succ, List.set_cons_zero]
      refine wpAnyB_takeD (i := 5) (oi := _) (v := .int .u8 x) 82 rfl rfl (by kernel_rfl) (by kernel_rfl) (by kernel_rfl) (by kernel_rfl) (fun _ _ _ h => h) (Or.inl ⟨by kernel_rfl, fun wq hSw => by obtain ⟨x0, x1⟩ := hSw; go_simp⟩) (by assumption) ?_
      simp only [Act.put, List.setIfInBounds_toArray, List.set_cons_succ, List.set_cons_zero]
      refine wpAnyB_one (i := 6) (by kernel_rfl) (by kernel_rfl) rfl (fun K hK => ?_)
      go_simp
      have BA : Below wr.heap.size wr (wr.alloc (.cells #[.int .u8 x] 5)).drew := ((Below.refl _ _).alloc (Nat.le_refl _) _).drew
      have nw : ((wr.alloc (.cells #[.int .u8 x] 5)).drew).cell? ⟨wr.heap.size, 0, none⟩ = some (.int .u8 x) := by simp [go_sem]
      refine hK.out _ _ ⟨cell_keep BA c41, cell_keep BA gx⟩ (fun hHeld => ?_)
      clear hK K
      have hs1 : ((wr.alloc (.cells #[.int .u8 x] 5)).drew).heap.size = wr.heap.size + 1 := by simp
      generalize (wr.alloc (.cells #[.int .u8 x] 5)).drew = W1 at *
      refine wpAnyB_one (i := 7) (by kernel_rfl) (by kernel_rfl) rfl (fun K hK => ?_)
      rw [if_pos (by kernel_rfl)]
      refine wp_append_ownJ (.tmp 78) (.tmp 83) 27 rfl V0.heap.size 5 i0 (.int .u8 0) 1 1 Tryd.underlying27 hi0 hz0 hz1 hz2 rfl (by decide) (.slice va m vc) m ((t.Dl ++ X1.take i).map (Value.int .u8)) rfl (World.ownsRow.kept HG.out.2.2.2.1 (grown_of_below BA Option.none) (by cases (Value.slice va m vc).ownBlock <;> simp)) ⟨wr.heap.size, 0, none⟩ 1 1 [.int .u8 x] rfl rfl (fun j u hu => by cases j with | zero => (obtain rfl := Option.some.inj hu; simpa [Addr.add] using nw) | succ j => cases hu) (fun u hu => by simp at hu; subst hu; rfl) (by unfold maxLen; have := EM.out; have := EN.out; have := PL.out; omega) (by have := EM.out; have := EN.out; have := PL.out; omega) (by have := HG.out.1.size; omega) ?_
      intro v' W2 ho hg hv
      obtain ⟨g2, cap2, rfl, hc2⟩ : ∃ g2 cap2, v' = .slice (some ⟨g2, 0, none⟩) (m + 1) cap2 ∧ m + 1 ≤ cap2 := by
        rcases ho.2 with ⟨_, h0⟩ | ⟨g2, cap2, _, x, _, _, y, _⟩
        · cases h0
        · exact ⟨g2, cap2, x, y⟩
      have rowN : ∀ k, (Value.slice va m vc).ownBlock = some k → V0.heap.size ≤ k := fun k hk => (World.ownsRow.lt HG.out.2.2.2.1 k hk).1
      have q1 : Wr V0 W2 b5 := wr_grown (HG.out.1.step BA) hg rowN
      have nb5 : some b5 ≠ (Value.slice va m vc).ownBlock := fun e => by have := rowN b5 e.symm; have := HG.out.2.2.2.2; omega
      have eb5 : W2.heap[b5]? = wr.heap[b5]? := (hg.block b5 (by have := HG.out.1.size; have := BA.size; have := HG.out.2.2.2.2; omega) nb5).trans (BA.block b5 (by have := HG.out.1.size; have := HG.out.2.2.2.2; omega))
      have lb0 : b1 < w.heap.size := World.block_lt_of_cell? w ⟨b1, o1 + i, none⟩ ((GR.out w (Below.refl _ _)).2.2.2.2.1.2.2.1 i (by rw [EN.out.1]; exact hlt))
      have lb1 : b1 < V0.heap.size := Nat.lt_of_lt_of_le lb0 BW.out.size
      have nb1 : some b1 ≠ (Value.slice va m vc).ownBlock := fun e => by have := rowN b1 e.symm; omega
      have eb1 : W2.heap[b1]? = wr.heap[b1]? := (hg.block b1 (by have := HG.out.1.size; have := BA.size; omega) nb1).trans (BA.block b1 (by have := HG.out.1.size; omega))
      have k41 : W2.cell? ⟨b5, 41, none⟩ = some (.slice va m vc) := (heap_cellJ eb5).trans c41
      have kx : W2.cell? ⟨b1, o1 + i, none⟩ = some (.int .u8 x) := (heap_cellJ eb1).trans gx
      refine hK.out _ _ ⟨k41, kx⟩ (fun hHeld => ?_)
      clear hK K
      change wpAnyB _ _ _ _ _ _ _ _ (Act.put _ (some 84) _) W2
      simp only [Act.put, List.setIfInBounds_toArray, List.set_cons_succ, List.set_cons_zero]
      refine wpAnyB_takeD (i := 8) (oi := _) (v := .pointer (some ⟨b5, 41, none⟩)) 85 rfl rfl (by kernel_rfl) (by kernel_rfl) (by kernel_rfl) (by kernel_rfl) (fun _ _ _ h => h) (Or.inl ⟨by kernel_rfl, fun wq hSw => by obtain ⟨x0, x1⟩ := hSw; go_simp⟩) (by assumption) ?_
      simp only [Act.put, List.setIfInBounds_toArray, List.set_cons_succ, List.set_cons_zero]
      have th2 : W2.there b5 0 61 := there_same HG.out.2.2.1 eb5
      have fz : W2.frozen? ⟨b5, 41, none⟩ = false := by have := (th2 41 (by decide)).2; rwa [Nat.zero_add] at this
      refine wpAnyB_bar (by kernel_rfl) rfl (fun K hK => ?_)
      rw [if_pos (by kernel_rfl)]
      go_simp
      refine hK.out _ _ ?_
      clear hK K
      refine wpAny_done (by kernel_rfl) ?_ _
      have LC : (CU.set 41 (.slice va m vc)).length = 61 := by rw [List.length_set, L61.out]
      have rs := rt_setJ (v := .slice (some ⟨g2, 0, none⟩) (m + 1) cap2) (i := 41) (tq.range_same HG.out.2.1 eb5) (by rw [LC]; exact th2) (by rw [LC]; decide)
      rw [LC, List.set_set] at rs
      have ts : X1.take (i + 1) = X1.take i ++ [x] := by rw [EX.out]; exact take_snocI (by rw [EN.out.1]; exact hlt)
      have ll : (t.Dl ++ X1.take (i + 1)).length = m + 1 := by rw [ts, ← List.append_assoc, List.length_append, HMM.out]; rfl
      have on : OwnB V0.heap.size W2 (.slice (some ⟨g2, 0, none⟩) (m + 1) cap2) (t.Dl ++ X1.take (i + 1)) := by
        rw [OwnB, ll, ts, ← List.append_assoc, List.map_append]; exact ho
      have NX : Hid (Gth V0 (W2.setCell ⟨b5, 41, none⟩ (.slice (some ⟨g2, 0, none⟩) (m + 1) cap2)) b5 CU (t.Dl ++ X1.take (i + 1)) ∧ (W2.setCell ⟨b5, 41, none⟩ (.slice (some ⟨g2, 0, none⟩) (m + 1) cap2)).cell? ⟨b1, o1 + i, none⟩ = some (.int .u8 x)) :=
        ⟨⟨q1.set, _, _, by rw [ll]; exact rs.1, rs.2, by rw [ll]; exact ownB_but on but_set HG.out.2.2.2.2⟩, (heap_cellJ (heap_setT (show b1 ≠ b5 by have := LU.out.2; omega))).trans kx⟩
      clear rs ts ll on LC fz th2 kx k41 eb1 nb1 lb1 eb5 nb5 q1 rowN hc2 hHeld ho hg hv nw BA hs1 gx c41 HG hi0 hz0 hz1 hz2 i0
      generalize W2.setCell ⟨b5, 41, none⟩ (.slice (some ⟨g2, 0, none⟩) (m + 1) cap2) = W3 at *
      have kx := NX.out.2
      have B1 : Hid (0 ≤ gs 4 16 X1 i ∧ gs 4 16 X1 i ≤ 80000000000) := gs_bd (by have := EN.out; omega) (by decide) (by decide)
      have B2 : Hid (0 ≤ gs 10 40 X1 i ∧ gs 10 40 X1 i ≤ 80000000000) := gs_bd (by have := EN.out; omega) (by decide) (by decide)
      by_cases cx : x = 0
      · have e1 : Hid (gs 4 16 X1 (i + 1) = gs 4 16 X1 i + 4) := gs_yes (by rw [← EX.out]; exact cx)
        have e2 : Hid (gs 10 40 X1 (i + 1) = gs 10 40 X1 i + 10) := gs_yes (by rw [← EX.out]; exact cx)
        subst cx
        generalize gs 4 16 X1 i = s1 at *
        generalize gs 10 40 X1 i = s2 at *
        have f1 : IntKind.u64.wrap (s1 + 4) = s1 + 4 := by have := B1.out; rw [IntKind.wrap_u64]; omega
        have f2 : IntKind.u64.wrap (s2 + 10) = s2 + 10 := by have := B2.out; rw [IntKind.wrap_u64]; omega
        go_wp2
        go_roundg (n - (i + 1))
        case measure => have := HK.out; omega
        case rel => exact ⟨i + 1, rfl, hlt, by rw [e1.out], by rw [e2.out], by go_num, NX.out.1⟩
      · have e1 : Hid (gs 4 16 X1 (i + 1) = gs 4 16 X1 i + 16) := gs_no (by rw [← EX.out]; exact cx)
        have e2 : Hid (gs 10 40 X1 (i + 1) = gs 10 40 X1 i + 40) := gs_no (by rw [← EX.out]; exact cx)
        generalize gs 4 16 X1 i = s1 at *
        generalize gs 10 40 X1 i = s2 at *
        have f1 : IntKind.u64.wrap (s1 + 16) = s1 + 16 := by have := B1.out; rw [IntKind.wrap_u64]; omega
        have f2 : IntKind.u64.wrap (s2 + 40) = s2 + 40 := by have := B2.out; rw [IntKind.wrap_u64]; omega
        have cb : (x == 0) = false := by simpa using cx
        clear cx
        go_wp2
        go_roundg (n - (i + 1))
        case measure => have := HK.out; omega
        case rel => exact ⟨i + 1, rfl, hlt, by rw [e1.out], by rw [e2.out], by go_num, NX.out.1⟩
end Go.Proofs.YtllfmlgnemkklaaDoor

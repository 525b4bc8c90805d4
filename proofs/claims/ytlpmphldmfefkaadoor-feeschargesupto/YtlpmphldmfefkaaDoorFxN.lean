import Derived.Test.YtlpmphldmfefkaaDoorFxL
/- Layer 18: FeesCharges: the law. -/
namespace Go.Proofs.YtlpmphldmfefkaaDoor
open Go.RowKit Go.Sort
open tq
set_option maxRecDepth 100000 in
set_option maxHeartbeats 16000000 in
theorem feesCharges_any {t : Txv} {b g : Int} (hb : Num b) (hg : Word g) (hn : Hid (BdTF t)) (w : World) (hM : MkH w) (hA : MkA w) (hR : Rws w) (hG : TxG w t) :
    Calls Tryd.prog 6 #[.agg (txC t).toArray, .agg #[.int .u64 (l0 b), .int .u64 (l1 b), .int .u64 (l2 b), .int .u64 (l3 b)], .int .u64 g] w fun e w' => e = .returned (.bool true) ∧ Below w.heap.size w w' := by
  have h20 := hG.to.1
  have sz := size_tx h20
  have bd := hn.out
  have GR : Hid (∀ V, Below w.heap.size w V → MkH V ∧ MkA V ∧ Rws V ∧ TxG V t) := fun V BV => ⟨hM.keep BV, hA.keep BV, hR.keep BV, hG.keep BV⟩
  have TW : Hid (∀ V, Below w.heap.size w V → Calls Tryd.prog 11 #[.agg (txC t).toArray] V fun e w' => ∃ u, e = .returned (.agg (txC u).toArray) ∧ LtT w' u t ∧ Below V.heap.size V w') := fun V BV => twinF_any hn V (hM.keep BV) (hA.keep BV) (hG.keep BV)
  have NU : Hid (∀ (v : Int) W, Calls Tryd.prog 24 #[.int .i64 v] W fun e w' => e = .returned (.int .i64 v) ∧ Below W.heap.size W w') := fun v W => numF_any v W
  have hX0 := TxB.new (W := w) (ty := 32) h20
  have TO : Hid (t.to.length = 20) := h20
  obtain ⟨M, hMM⟩ : ∃ M, M = txC t := ⟨_, rfl⟩
  have HM : Hid (M = txC t) := hMM
  rw [← hMM] at sz hX0 TW ⊢
  clear hMM h20 hM hA hR hG
  go_enter Tryd.func6, Tryd.ntmps6
  refine wp_seq_k fun K0 h0 => ?_
  have H0 : Hid _ := h0
  clear h0
  go_wp2
  refine H0.out _ _ ?_
  clear H0 K0
  refine wp_world (fun W => Below w.heap.size w W ∧ TxB W w.heap.size t ∧ Hold W (w.heap.size + 1) b) ⟨by repeat (first | with_reducible exact Below.refl _ _ | with_reducible refine Below.alloc ?_ (by first | omega | (simp; done) | (simp; omega)) _), hX0.keep ((Below.refl _ _).alloc (Nat.le_refl _) _), Hold.fresh (by simp)⟩ ?_
  clear hX0
  rintro W ⟨B, hX, hB⟩
  generalize w.heap.size + 1 = bb at *
  refine wp_seq_k fun K1 h1 => ?_
  have H1 : Hid _ := h1
  clear h1
  have rM0 : W.rangeAt w.heap.size 0 M := by have h := hX.all; rw [← HM.out] at h; exact h
  go_wp2_with first
    | (refine wpList_load_midT rfl 32 _ rfl w.heap.size 0 rfl M _ rM0 Tryd.underlying32 rfl sz ?_)
    | (go_at_call 11; refine (TW.out _ B).mono ?_; rintro e w2 ⟨u, rfl, lt, hb⟩; (have HL : Hid (LtT w2 u t ∧ Below W.heap.size W w2 ∧ (txC u).length = 61) := ⟨lt, hb, txC_len (by rw [lt.sc.2.2.2.2.2]; exact TO.out)⟩); clear lt hb rM0)
    | (refine wpList_allocT rfl 32 rfl (some 7) rfl 61 408 rI_t ?_; intro b5 W5 h5 B5 t5)
    | (refine wpList_storeT rfl 32 _ _ rfl b5 (txC u) rfl rfl (by rw [HL.out.2.2]; exact t5) (by rw [HL.out.2.2]; exact size_txT) (txC_one u) ?_; intro W6 u9 r9 t9)
  refine H1.out _ _ ?_
  clear H1 K1
  have hl := HL.out
  have B26 : Below w2.heap.size w2 W6 := u9.below (by have := h5.out; omega) B5
  have BW6 : Below W.heap.size W W6 := hl.2.1.trans (B26.mono hl.2.1.size)
  have B06 : Below w.heap.size w W6 := B.trans (BW6.mono B.size)
  have FT : Hid (∀ V, Below W6.heap.size W6 V → TxG V t ∧ LtT V u t ∧ V.rangeAt w.heap.size 0 M ∧ V.rangeAt b5 0 (txC u) ∧ Hold V bb b ∧ Below w.heap.size w V ∧ Rws V ∧ MkH V ∧ MkA V) := fun V BV => by
    have bw := B06.trans (BV.mono B06.size)
    obtain ⟨g1, g2, g3, g4⟩ := GR.out V bw
    exact ⟨g4, (hl.1.keep B26).keep BV, by have h := ((hX.keep BW6).keep BV).all; rw [← HM.out] at h; exact h, fun j v hv => cell_keep BV (r9 j v hv), (hB.keep BW6).keep BV, bw, g3, g1, g2⟩
  have L61 : Hid ((txC u).length = 61) := hl.2.2
  clear hl HL u9 r9 t9 t5 h5 B5 B26 BW6 hX hB B W GR TW
  obtain ⟨CU, hCU⟩ : ∃ C, C = txC u := ⟨_, rfl⟩
  have HCU : Hid (CU = txC u) := hCU
  have szu : (Tryd.prog.info? 32).map (·.size) = some CU.length := by rw [hCU, L61.out]; exact size_txT
  obtain ⟨X1, hX1⟩ : ∃ x, x = chB t b g := ⟨_, rfl⟩
  obtain ⟨X2, hX2⟩ : ∃ x, x = chP t b g := ⟨_, rfl⟩
  obtain ⟨X3, hX3⟩ : ∃ x, x = chE t b g := ⟨_, rfl⟩
  have C0 : Hid (∀ V, Below W6.heap.size W6 V → Calls Tryd.prog 15 #[.agg CU.toArray, .agg #[.int .u64 (l0 b), .int .u64 (l1 b), .int .u64 (l2 b), .int .u64 (l3 b)], .int .u64 g] V fun e w' => e = .returned (.tuple #[.agg #[.int .u64 (l0 X1), .int .u64 (l1 X1), .int .u64 (l2 X1), .int .u64 (l3 X1)], .agg #[.int .u64 (l0 X2), .int .u64 (l1 X2), .int .u64 (l2 X2), .int .u64 (l3 X2)], .int .i64 X3]) ∧ Below V.heap.size V w') := fun V BV => by
    obtain ⟨f1, f2, f3, f4, f5, f6, f7, f8, f9⟩ := FT.out V BV
    rw [hCU, hX1, hX2, hX3, ← (ch_same f2 b g).1, ← (ch_same f2 b g).2.1, ← (ch_same f2 b g).2.2]
    exact charge_any V (f2.good f1) hb hg (by rw [f2.Hs.1]; exact bd.2.1) (by rw [f2.U.1]; have := bd.2.2.1; omega) f7
  have C1 : Hid (∀ V, Below W6.heap.size W6 V → Calls Tryd.prog 31 #[.agg M.toArray, .agg #[.int .u64 (l0 b), .int .u64 (l1 b), .int .u64 (l2 b), .int .u64 (l3 b)], .int .u64 g] V fun e w' => e = .returned (.tuple #[.agg #[.int .u64 (l0 X1), .int .u64 (l1 X1), .int .u64 (l2 X1), .int .u64 (l3 X1)], .agg #[.int .u64 (l0 X2), .int .u64 (l1 X2), .int .u64 (l2 X2), .int .u64 (l3 X2)], .int .i64 X3]) ∧ Below V.heap.size V w') := fun V BV => by
    obtain ⟨f1, f2, f3, f4, f5, f6, f7, f8, f9⟩ := FT.out V BV
    rw [HM.out, hX1, hX2, hX3]
    exact rcharge_any V f1 hb hg bd.2.1 (by have := bd.2.2.1; omega)
  have CS : Hid (∀ V, Below W6.heap.size W6 V → Calls Tryd.prog 29 #[.agg CU.toArray, .agg M.toArray] V fun e w' => e = .returned (.bool true) ∧ Below V.heap.size V w') := fun V BV => by
    obtain ⟨f1, f2, f3, f4, f5, f6, f7, f8, f9⟩ := FT.out V BV
    rw [hCU, HM.out]; exact stillTx_yes hn V f8 f9 f1 f2
  have qX1 : Hid (∀ w, (Op.equalIn 10000 24 (.agg #[.int .u64 (l0 X1), .int .u64 (l1 X1), .int .u64 (l2 X1), .int .u64 (l3 X1)]) (.agg #[.int .u64 (l0 X1), .int .u64 (l1 X1), .int .u64 (l2 X1), .int .u64 (l3 X1)])).run Tryd.prog w = .ok true w) := fun w => by have h := eq_lim 9998 (l0 X1) (l1 X1) (l2 X1) (l3 X1) (l0 X1) (l1 X1) (l2 X1) (l3 X1) w; simpa using h
  have qX2 : Hid (∀ w, (Op.equalIn 10000 24 (.agg #[.int .u64 (l0 X2), .int .u64 (l1 X2), .int .u64 (l2 X2), .int .u64 (l3 X2)]) (.agg #[.int .u64 (l0 X2), .int .u64 (l1 X2), .int .u64 (l2 X2), .int .u64 (l3 X2)])).run Tryd.prog w = .ok true w) := fun w => by have h := eq_lim 9998 (l0 X2) (l1 X2) (l2 X2) (l3 X2) (l0 X2) (l1 X2) (l2 X2) (l3 X2) w; simpa using h
  have FX : Hid (∀ V, Below W6.heap.size W6 V → V.rangeAt w.heap.size 0 M ∧ V.rangeAt b5 0 CU ∧ Hold V bb b ∧ Below w.heap.size w V) := fun V BV => by
    obtain ⟨f1, f2, f3, f4, f5, f6, f7, f8, f9⟩ := FT.out V BV
    exact ⟨f3, by rw [hCU]; exact f4, f5, f6⟩
  clear FT HM hn bd hCU HCU L61 TO hX1 hX2 hX3
  have BB : Hid (Below W6.heap.size W6 W6) := Below.refl _ _
  obtain ⟨W, hWW⟩ : ∃ W, W = W6 := ⟨_, rfl⟩
  have BW : Hid (Below W6.heap.size W6 W) := by rw [hWW]; exact BB.out
  rw [← hWW]
  clear hWW BB
  refine wp_seq_k fun K2 h2 => ?_
  have H2 : Hid _ := h2
  clear h2
  have rM := (FX.out _ BW.out).1
  have rU := (FX.out _ BW.out).2.1
  have gB := (FX.out _ BW.out).2.2.1.cells
  go_wp2_with first
    | (refine wpList_load_midT rfl 32 _ rfl w.heap.size 0 rfl M _ rM Tryd.underlying32 rfl sz ?_)
    | (refine wpList_load_midT rfl 32 _ rfl b5 0 rfl CU _ rU Tryd.underlying32 rfl szu ?_)
    | (go_at_call 15; refine (C0.out _ BW.out).mono ?_; rintro e w2 ⟨rfl, hb⟩; (have B2 : Hid (Below W6.heap.size W6 w2) := BW.out.trans (hb.mono BW.out.size)); clear hb rM rU gB)
  refine H2.out _ _ ?_
  clear H2 K2
  refine wp_world (fun V => Below W6.heap.size W6 V ∧ Hold V w2.heap.size X1 ∧ Hold V (w2.heap.size + 1) X2) ⟨(B2.out.alloc B2.out.size _).alloc (by have := B2.out.size; simp; omega) _, (Hold.new _ _ _).alloc _, Hold.fresh (by simp)⟩ ?_
  clear BW
  generalize w2.heap.size + 1 = d01 at *
  generalize w2.heap.size = d00 at *
  clear B2
  rintro V ⟨BV, g00, g01⟩
  have BW : Hid (Below W6.heap.size W6 V) := BV
  clear BV
  clear W
  obtain ⟨W, rfl⟩ : ∃ W : World, W = V := ⟨V, rfl⟩
  refine wp_seq_k fun K3 h3 => ?_
  have H3 : Hid _ := h3
  clear h3
  have rM := (FX.out _ BW.out).1
  have rU := (FX.out _ BW.out).2.1
  have gB := (FX.out _ BW.out).2.2.1.cells
  go_wp2_with first
    | (refine wpList_load_midT rfl 32 _ rfl w.heap.size 0 rfl M _ rM Tryd.underlying32 rfl sz ?_)
    | (refine wpList_load_midT rfl 32 _ rfl b5 0 rfl CU _ rU Tryd.underlying32 rfl szu ?_)
    | (go_at_call 31; refine (C1.out _ BW.out).mono ?_; rintro e w3 ⟨rfl, hb⟩; (have B3 : Hid (Below W6.heap.size W6 w3) := BW.out.trans (hb.mono BW.out.size)); replace g00 := g00.keep hb; replace g01 := g01.keep hb; clear hb rM rU gB)
  refine H3.out _ _ ?_
  clear H3 K3
  refine wp_world (fun V => Below W6.heap.size W6 V ∧ Hold V d00 X1 ∧ Hold V d01 X2 ∧ Hold V w3.heap.size X1 ∧ Hold V (w3.heap.size + 1) X2) ⟨(B3.out.alloc B3.out.size _).alloc (by have := B3.out.size; simp; omega) _, (g00.alloc _).alloc _, (g01.alloc _).alloc _, (Hold.new _ _ _).alloc _, Hold.fresh (by simp)⟩ ?_
  clear g00 g01 BW
  generalize w3.heap.size + 1 = d11 at *
  generalize w3.heap.size = d10 at *
  clear B3
  rintro V ⟨BV, g00, g01, g10, g11⟩
  have BW : Hid (Below W6.heap.size W6 V) := BV
  clear BV
  clear W
  obtain ⟨W, rfl⟩ : ∃ W : World, W = V := ⟨V, rfl⟩
  have cg00 := g00.cells; have cg01 := g01.cells; have cg10 := g10.cells; have cg11 := g11.cells
  have eX1 := qX1.out
  have eX2 := qX2.out
  clear qX1 qX2 C0 C1
  go_wp2_with first
    | (go_at_call 24; refine (NU.out _ _).mono ?_; rintro e wn ⟨rfl, hb⟩; replace BW : Hid (Below W6.heap.size W6 wn) := BW.out.trans (hb.mono BW.out.size); replace g00 := g00.keep hb; replace g01 := g01.keep hb; replace g10 := g10.keep hb; replace g11 := g11.keep hb; clear cg00 cg01 cg10 cg11 hb; have cg00 := g00.cells; have cg01 := g01.cells; have cg10 := g10.cells; have cg11 := g11.cells; have rM := (FX.out _ BW.out).1; have rU := (FX.out _ BW.out).2.1)
    | (refine wpList_load_midT (by rfl) 32 _ rfl w.heap.size 0 rfl M _ rM Tryd.underlying32 rfl sz ?_)
    | (refine wpList_load_midT (by rfl) 32 _ rfl b5 0 rfl CU _ rU Tryd.underlying32 rfl szu ?_)
    | (go_at_call 29; refine (CS.out _ BW.out).mono ?_; rintro e wz ⟨rfl, hb⟩; have BZ : Hid (Below w.heap.size w wz) := (FX.out _ BW.out).2.2.2.trans (hb.mono (FX.out _ BW.out).2.2.2.size))
  simp [bodyPost, results, Tryd.results6, go_sem]
  exact BZ.out
end Go.Proofs.YtlpmphldmfefkaaDoor

import Derived.Test.YtanokeeffbiijaaDoorRfL
/- ReceiptFinds: the law. -/
namespace Go.Proofs.YtanokeeffbiijaaDoor.tq
open Go.RowKit Go.Sort
/-- One cell stored. -/
theorem wpList_storeC {P : Program} {ops : Array Oper} {rest : List Oper} {op : Oper} {a : Act} {w : World} {Q : Exit → Act → World → Prop} (hgd : op.guard = none) (ty : TypeId) (x y : Operand) (ho : op.op = .store ty x y) (b i : Nat) (v : Value) (hx : a.eval x = .pointer (some ⟨b, i, none⟩)) (hy : a.eval y = v)
    (hc : v.cells = #[v]) (h1 : v.oneCell' = true) (hs : (P.info? ty).map (·.size) = some 1) (ht : w.there b i 1)
    (h : ∀ W, But w W b → W.cell? ⟨b, i, none⟩ = some v → (∀ j, j ≠ i → W.cell? ⟨b, j, none⟩ = w.cell? ⟨b, j, none⟩) → (∀ o m, w.there b o m → W.there b o m) → wpList P ops Q rest (a.put op.dst undef) W) : wpList P ops Q (op :: rest) a w := by
  refine wpList_plain hgd fun K hK => ?_
  have c0 := (ht 0 (by decide)).1
  have c1 := (ht 0 (by decide)).2
  rw [Nat.add_zero] at c0 c1
  have hrun : (storeVar ty ⟨b, i, none⟩ v).run P w = .ok () (w.setCell ⟨b, i, none⟩ v) := by
    have := run_storeCells_cells (P := P) b i [v] 0 w (fun j hj => by obtain rfl : j = 0 := by simpa using hj
                                                                      simpa using c0) (fun j hj => by obtain rfl : j = 0 := by simpa using hj
                                                                                                      simpa using c1) (fun u hu => by simp at hu; subst hu; exact h1)
    cases hq : P.info? ty with
    | none => simp [hq] at hs
    | some ii =>
      have hs' : ii.size = 1 := by simpa [hq] using hs
      simp only [Nat.add_zero] at this
      simp [storeVar, sizeOf, typeInfo, hq, hc, hs', this, World.setCells]
  unfold Oper.wp execOp
  simp only [ho, hx, hy, Instr.storeAt, Instr.sureAddr, Sem.run_bind, Sem.run_pure, Result.andThen_ok, hrun]
  refine hK _ _ (h _ but_set (World.cell?_setCell_same' _ _ _ c0) (fun j hj => World.cell?_setCell_other _ _ _ _ (by intro x; exact hj (by injection x with _ h; exact h.symm))) fun o m hm j hj => ⟨?_, by rw [World.frozen?_setCell]; exact (hm j hj).2⟩)
  by_cases e : o + j = i
  · rw [e, World.cell?_setCell_same' _ _ _ c0]; rfl
  · rw [World.cell?_setCell_other _ _ _ _ (by intro x; exact e (by injection x with _ h; exact h.symm))]
    exact (hm j hj).1
theorem own_apartF {v1 v2 : Value} {N : Nat} (h1 : ∀ k, v1.ownBlock = some k → k < N) (h2 : ∀ k, v2.ownBlock = some k → N ≤ k) : v2.ownBlock = none ∨ v2.ownBlock ≠ v1.ownBlock := by
  cases e : v2.ownBlock with
  | none => exact .inl rfl
  | some k => exact .inr fun q => by have := h1 k q.symm; have := h2 k e; omega
theorem topTk_congr {L M : List Kl} {T : List (List Int)} : ∀ n, (∀ i, i < n → (M.getD i zKl).ks = (L.getD i zKl).ks) → topTk M T n = topTk L T n
  | 0, _ => rfl
  | n + 1, h => by rw [topTk, topTk, topTk_congr n fun i hi => h i (by omega), h n (by omega)]
theorem logTk_congr {As : List (List Int)} {L M : List Kl} {e x : Lg} (hl : M.length = L.length) (h : ∀ i, i < L.length → (M.getD i zKl).ks = (L.getD i zKl).ks) (ha : e.adr = x.adr) (ht : e.Tl = x.Tl) : logTk As M e = logTk As L x := by
  unfold logTk
  rw [hl, ha, ht, topTk_congr _ h]
theorem fnd_congr {As : List (List Int)} {L M : List Kl} {us ls : List Lg} (hl : M.length = L.length) (h : ∀ i, i < L.length → (M.getD i zKl).ks = (L.getD i zKl).ks) : ∀ n, (∀ i, i < n → (us.getD i zLg).adr = (ls.getD i zLg).adr ∧ (us.getD i zLg).Tl = (ls.getD i zLg).Tl) → fnd As M us n = fnd As L ls n
  | 0, _ => rfl
  | n + 1, hq => by rw [fnd, fnd, fnd_congr hl h n fun i hi => hq i (by omega), logTk_congr hl h (hq n (by omega)).1 (hq n (by omega)).2]
/-- A list of hashes lent. -/
structure KlM (W : World) (e x : Kl) : Prop where
  ks : e.ks = x.ks
  at_ : e.a = some ⟨e.b, 0, none⟩ ∧ e.o = 0 ∧ x.ks.length + 2 ≤ e.c ∧ W.rangeAt e.b 0 (flatC hC (x.ks ++ [mkHs, mkHs]))
theorem KlM.keep {W W' : World} {e x : Kl} (h : KlM W e x) (B : Below W.heap.size W W') : KlM W' e x := ⟨h.ks, h.at_.1, h.at_.2.1, h.at_.2.2.1, range_keep h.at_.2.2.2 B⟩
theorem KlM.same {W W' : World} {e x : Kl} (h : KlM W e x) (n1 : W'.heap[e.b]? = W.heap[e.b]?) : KlM W' e x := ⟨h.ks, h.at_.1, h.at_.2.1, h.at_.2.2.1, range_same h.at_.2.2.2 n1⟩
theorem KlM.good {W : World} {e x : Kl} (h : KlM W e x) (g : KlG W x) : KlG W e := by
  have g' : KsG W x.a x.b x.o x.c x.ks := g
  show KsG W e.a e.b e.o e.c e.ks
  refine ⟨⟨by rw [h.ks]; have := h.at_.2.2.1; omega, fun q => by rw [h.at_.1] at q; cases q⟩, .inr (by rw [h.at_.1, h.at_.2.1]), fun i hi => ?_⟩
  rw [h.ks] at hi ⊢
  refine ⟨(g'.2.2 i hi).1, ?_⟩
  have q := h.at_.2.2.2
  rw [flatC_app, range_app] at q
  have q2 := flat_at [] _ 0 (KsG.len g') q.1 i hi
  rw [h.at_.2.1]; exact q2
theorem rI_k : rowInfo Tryd.prog 27 1 24 = true := by kernel_rfl
set_option maxRecDepth 100000 in
set_option maxHeartbeats 16000000 in
theorem findsLaw_any {a aa ak : Option Addr} {b p c ba oa ca bk ok ck : Nat} {ls : List Lg} {As : List (List Int)} {L : List Kl} (hn : ls.length < 100000000) (hb : ∀ i, i < ls.length → BdL (ls.getD i zLg)) (hA : As.length < 1000000000) (hm : L.length < 100000000) (hk : ∀ i, i < L.length → (L.getD i zKl).ks.length < 1000000000) (w : World) (hMH : MkH w) (hMA : MkA w) (hG : LsG w a b p c ls) (hAs : AsG w aa ba oa ca As) (hK : KssG w ak bk ok ck L) :
    Calls Tryd.prog 3 #[.slice a ls.length c, .slice aa As.length ca, .slice ak L.length ck] w fun e w' => e = .returned (.bool true) ∧ Below w.heap.size w w' := by
  obtain ⟨n, en⟩ : ∃ n, n = ls.length := ⟨_, rfl⟩
  obtain ⟨m, em⟩ : ∃ m, m = L.length := ⟨_, rfl⟩
  obtain ⟨nA, eA⟩ : ∃ nA, nA = As.length := ⟨_, rfl⟩
  have n1 : (n : Int) < 100000000 := by omega
  have m1 : (m : Int) < 100000000 := by omega
  have HN : Hid (ls.length = n ∧ L.length = m ∧ As.length = nA ∧ n < 100000000 ∧ m < 100000000 ∧ nA < 1000000000) := ⟨en.symm, em.symm, eA.symm, by omega, by omega, by omega⟩
  have HB : Hid ((∀ i, i < ls.length → BdL (ls.getD i zLg)) ∧ ∀ i, i < L.length → (L.getD i zKl).ks.length < 1000000000) := ⟨hb, hk⟩
  have GR : Hid (∀ V, Below w.heap.size w V → LsG V a b p c ls ∧ AsG V aa ba oa ca As ∧ KssG V ak bk ok ck L ∧ MkH V ∧ MkA V) := fun V BV => ⟨hG.keep BV, hAs.keep BV, hK.keep BV, hMH.keep BV, hMA.keep BV⟩
  have AA : Hid (0 < m → ak = some ⟨bk, ok, none⟩) := fun h => by
    rcases hK.2.1 with e | e
    · rw [e] at em; simp at em; omega
    · exact e
  have C1 : Hid (Calls Tryd.prog 5 #[.slice a n c] w fun e w' => ∃ us, e = .returned (.slice (some ⟨w.heap.size, 0, none⟩) n (n + 1)) ∧ TwL w' w.heap.size us ls ∧ Below w.heap.size w w') := by
    have h := twin_any hn hb w hG
    rw [← en] at h; exact h
  have C2 : Hid (∀ V, Below w.heap.size w V → Calls Tryd.prog 6 #[.slice aa nA ca] V fun e w' => ∃ g cap, e = .returned (.slice (some ⟨g, 0, none⟩) nA cap) ∧ nA + 2 ≤ cap ∧ V.heap.size ≤ g ∧ g < w'.heap.size ∧ w'.rangeAt g 0 (flatC hC (As ++ [mkAd, mkAd])) ∧ Below V.heap.size V w') := fun V BV => by
    have h := lentA_any hA V (GR.out V BV).2.2.2.2 (GR.out V BV).2.1
    rw [← eA] at h; exact h
  rw [← en, ← em, ← eA]
  clear hn hb hA hm hk hMH hMA hG hAs hK en em eA
  go_enter Tryd.func3, Tryd.ntmps3
  refine wp_seq_k fun K0 h0 => ?_
  have H0 : Hid _ := h0
  clear h0
  go_wp2
  refine H0.out _ _ ?_
  clear H0 K0
  refine wp_seq_k fun K1 h1 => ?_
  have H1 : Hid _ := h1
  clear h1
  go_wp2_with (go_at_call 5; refine C1.out.mono ?_; rintro e W1 ⟨us, rfl, tw, B1⟩)
  refine H1.out _ _ ?_
  clear H1 K1 C1
  refine wp_seq_k fun K2 h2 => ?_
  have H2 : Hid _ := h2
  clear h2
  go_wp2_with (go_at_call 6; refine (C2.out _ B1).mono ?_; rintro e W2 ⟨gA, cA, rfl, hcA, hgA, hgA2, rA, B2⟩)
  refine H2.out _ _ ?_
  clear H2 K2 C2
  have hw2 : Hid (Below w.heap.size w W2 ∧ TwL W2 w.heap.size us ls ∧ W2.rangeAt gA 0 (flatC hC (As ++ [mkAd, mkAd])) ∧ nA + 2 ≤ cA) := ⟨B1.trans (B2.mono B1.size), tw.keep B2, rA, hcA⟩
  clear B1 tw B2 rA hcA hgA hgA2 W1
  refine wp_seq_k fun K3 h3 => ?_
  have H3 : Hid _ := h3
  clear h3
  go_wp2_with (refine wpList_make_row (k := 1) (bytes := 24) W2 Tryd.underlying24 rI_k rfl _ _ rfl _ _ _ _ (m + 1) rfl rfl (by omega) (by omega) (by have := HN.out.2.2.2.2.1; omega) (by have := HN.out.2.2.2.2.1; omega) ?_; intro cs hcs)
  refine H3.out _ _ ?_
  clear H3 K3
  obtain ⟨H, eH⟩ : ∃ H, H = W2.heap.size := ⟨_, rfl⟩
  have HT : Hid ((W2.alloc (.cells cs 27)).there H 0 (m + 1) ∧ Below W2.heap.size W2 (W2.alloc (.cells cs 27)) ∧ H < (W2.alloc (.cells cs 27)).heap.size ∧ H = W2.heap.size) := ⟨by rw [eH]; exact there_newR (by omega), (Below.refl _ _).alloc (Nat.le_refl _) _, by rw [eH]; simp, eH⟩
  rw [← eH]
  generalize W2.alloc (.cells cs 27) = W3 at *
  clear hcs cs eH
  refine wp_seq_k fun K4 h4 => ?_
  have H4 : Hid _ := h4
  clear h4
  go_wp2_with fail
  go_loopg [10] m (fun k iv wr => ∃ (i : Nat) (ks : List Kl), k = m - i ∧ i ≤ m ∧ iv = .int .i64 i ∧ ks.length = i ∧ Below W2.heap.size W2 wr ∧ (wr.there H 0 (m + 1) ∧ H < wr.heap.size) ∧ ∀ j, j < i → wr.cell? ⟨H, j, none⟩ = some (.slice (ks.getD j zKl).a (ks.getD j zKl).ks.length (ks.getD j zKl).c) ∧ KlM wr (ks.getD j zKl) (L.getD j zKl) ∧ H + 1 ≤ (ks.getD j zKl).b)
  case atStart => exact ⟨0, [], rfl, Nat.zero_le _, rfl, rfl, HT.out.2.1, ⟨HT.out.1, HT.out.2.2.1⟩, fun j hj => absurd hj (Nat.not_lt_zero _)⟩
  case round =>
    have HH : Hid (H = W2.heap.size) := HT.out.2.2.2
    clear HT
    obtain ⟨i, ks, hk, hi, rfl, hl, B, ht, hq⟩ := hrel
    have HK : Hid (gk = m - i ∧ ks.length = i ∧ Below W2.heap.size W2 wr ∧ (wr.there H 0 (m + 1) ∧ H < wr.heap.size) ∧ ∀ j, j < i → wr.cell? ⟨H, j, none⟩ = some (.slice (ks.getD j zKl).a (ks.getD j zKl).ks.length (ks.getD j zKl).c) ∧ KlM wr (ks.getD j zKl) (L.getD j zKl) ∧ H + 1 ≤ (ks.getD j zKl).b) := ⟨hk, hl, B, ht, hq⟩
    clear hk hl B ht hq
    have BW : Hid (Below w.heap.size w wr) := hw2.out.1.trans (HK.out.2.2.1.mono hw2.out.1.size)
    by_cases h8 : i = m
    · subst h8
      have e1 : decide ((i : Int) < (i : Int)) = false := by simp
      clear hi
      go_wp2
      refine H4.out _ _ ?_
      clear H4
      refine wp_seq_k fun K5 h5 => ?_
      have H5 : Hid _ := h5
      clear h5
      have m9 : (i : Int) < (i : Int) + 1 := by omega
      go_wp2_with (refine wpList_storeC rfl 27 _ _ rfl H i (.slice (some ⟨wr.heap.size, 0, none⟩) 1 1) rfl rfl rfl rfl size_1h (there_part (there_keepT HK.out.2.2.2.1.1 HK.out.2.2.2.1.2 ((Below.refl _ _).alloc (Nat.le_refl _) _)) (by omega)) ?_; intro W7 u7 r7 ap tk)
      refine H5.out _ _ ?_
      clear H5 K5
      have hk := HK.out
      have hw := hw2.out
      have hn := HN.out
      have ne7 : wr.heap.size ≠ H := by have := hk.2.2.2.1.2; omega
      have BX : Below wr.heap.size wr (wr.alloc (.cells #[.int .u8 195, .int .u8 0, .int .u8 0, .int .u8 0, .int .u8 0, .int .u8 0, .int .u8 0, .int .u8 0, .int .u8 0, .int .u8 0, .int .u8 0, .int .u8 0, .int .u8 0, .int .u8 0, .int .u8 0, .int .u8 0, .int .u8 0, .int .u8 0, .int .u8 0, .int .u8 0, .int .u8 0, .int .u8 0, .int .u8 0, .int .u8 0, .int .u8 0, .int .u8 0, .int .u8 0, .int .u8 0, .int .u8 0, .int .u8 0, .int .u8 0, .int .u8 0] 30)) := (Below.refl _ _).alloc (Nat.le_refl _) _
      have r8 : W7.rangeAt wr.heap.size 0 (hC mC3) := range_same (show (wr.alloc (.cells #[.int .u8 195, .int .u8 0, .int .u8 0, .int .u8 0, .int .u8 0, .int .u8 0, .int .u8 0, .int .u8 0, .int .u8 0, .int .u8 0, .int .u8 0, .int .u8 0, .int .u8 0, .int .u8 0, .int .u8 0, .int .u8 0, .int .u8 0, .int .u8 0, .int .u8 0, .int .u8 0, .int .u8 0, .int .u8 0, .int .u8 0, .int .u8 0, .int .u8 0, .int .u8 0, .int .u8 0, .int .u8 0, .int .u8 0, .int .u8 0, .int .u8 0, .int .u8 0] 30)).rangeAt wr.heap.size 0 (hC mC3) from new_range) (u7.block _ ne7)
      have s2 := hk.2.2.1.size
      have B27 : Below W2.heap.size W2 W7 := u7.below (by rw [HH.out]; exact Nat.le_refl _) (hk.2.2.1.trans (BX.mono hk.2.2.1.size))
      have B07 : Below w.heap.size w W7 := hw.1.trans (B27.mono hw.1.size)
      have KS : Hid (∀ V, Below W7.heap.size W7 V → ∀ j, j < i → V.cell? ⟨H, j, none⟩ = some (.slice (ks.getD j zKl).a (L.getD j zKl).ks.length (ks.getD j zKl).c) ∧ KlM V (ks.getD j zKl) (L.getD j zKl)) := fun V BV j hj => by
        obtain ⟨x1, x2, x3⟩ := hk.2.2.2.2 j hj
        have c7 : W7.cell? ⟨H, j, none⟩ = some (.slice (ks.getD j zKl).a (L.getD j zKl).ks.length (ks.getD j zKl).c) := by rw [ap j (by omega), ← x2.ks]; exact cell_keep BX x1
        exact ⟨cell_keep BV c7, (((x2.keep BX).same (u7.block _ (by omega)))).keep BV⟩
      have TW : Hid (∀ V, Below W7.heap.size W7 V → TwL V w.heap.size us ls ∧ V.rangeAt gA 0 (flatC hC (As ++ [mkAd, mkAd])) ∧ V.cell? ⟨H, i, none⟩ = some (.slice (some ⟨wr.heap.size, 0, none⟩) 1 1) ∧ V.rangeAt wr.heap.size 0 (hC mC3)) := fun V BV => ⟨(hw.2.1.keep B27).keep BV, range_keep (range_keep hw.2.2.1 B27) BV, cell_keep BV r7, range_keep r8 BV⟩
      have kA : nA + 2 ≤ cA := hw.2.2.2
      have kl : ks.length = i := hk.2.1
      have BV0 : ∀ V, Below W7.heap.size W7 V → Below w.heap.size w V := fun V BV => B07.trans (BV.mono B07.size)
      have FT : Hid (∀ V, Below W7.heap.size W7 V → FiT w V w.heap.size gA cA n nA i H wr.heap.size bk ok a aa ak c ca (fun j => (ks.getD j zKl).a) (fun j => (L.getD j zKl).a) (fun j => (L.getD j zKl).ks.length) (fun j => (ks.getD j zKl).c) (fun j => (L.getD j zKl).c)) := fun V BV => by
        obtain ⟨g1, g2, g3, g4, g5⟩ := GR.out V (BV0 V BV)
        obtain ⟨t1, t2, t3, t4⟩ := TW.out V BV
        refine ⟨BV0 V BV, fun j hj => ?_, ⟨t3, t4⟩, ?_, ?_⟩
        · obtain ⟨k1, k2⟩ := KS.out V BV j hj
          have hj2 : j < L.length := by rw [hn.2.1]; exact hj
          have k3 := g3.2.2 j hj2
          have k4 := kl_cell k3.2
          rw [Nat.mul_one] at k4
          refine ⟨k1, k4, ?_⟩
          show Calls _ _ #[.slice (ks.getD j zKl).a _ (ks.getD j zKl).c, _] _ _
          rw [k2.at_.1]
          exact stillH_yes (HB.out.2 j hj2) k2.at_.2.2.1 V g4 k3.1 k2.at_.2.2.2
        · have h := stillLogs_yes (by rw [hn.1]; exact hn.2.2.2.1) HB.out.1 V g1 t1
          rw [hn.1] at h; exact h
        · have h := stillA_yes (cap := cA) (by rw [hn.2.2.1]; exact hn.2.2.2.2.2) (by rw [hn.2.2.1]; exact kA) V g5 g2 t2
          rw [hn.2.2.1] at h; exact h
      have KSG : ∀ V, Below W7.heap.size W7 V → KssG V (some ⟨H, 0, none⟩) H 0 (i + 1) ks := fun V BV => ⟨⟨by omega, fun e => by cases e⟩, .inr rfl, fun j hj => by
        obtain ⟨k1, k2⟩ := KS.out V BV j (by omega)
        refine ⟨k2.good (((GR.out V (BV0 V BV)).2.2.1.2.2 j (by rw [hn.2.1]; omega)).1), fun q v hv => ?_⟩
        have q0 : q = 0 := by have := (List.getElem?_eq_some_iff.1 hv).1; simpa [klC] using this
        subst q0
        have hv' : v = .slice (ks.getD j zKl).a (ks.getD j zKl).ks.length (ks.getD j zKl).c := by simpa [klC] using hv.symm
        rw [hv', Nat.zero_add, Nat.mul_one, Nat.add_zero, k1, k2.ks]⟩
      have ASG : ∀ V, Below W7.heap.size W7 V → AsG V (some ⟨gA, 0, none⟩) gA 0 cA As := fun V BV => by
        have g2 := (GR.out V (BV0 V BV)).2.1
        refine ⟨⟨by rw [hn.2.2.1]; omega, fun e => by cases e⟩, .inr rfl, fun j hj => ⟨(g2.2.2 j hj).1, ?_⟩⟩
        have q := flat_at [] _ 0 (lentA_len g2.len) (TW.out V BV).2.1 j (by rw [List.length_append]; omega)
        rw [getD_app hj] at q
        exact q
      have LF : Hid (∃ Lf, Lf = fnd As L ls n) := ⟨_, rfl⟩
      obtain ⟨Lf, hLf⟩ := LF.out
      have uL : us.length = n := by rw [hw.2.1.len, hn.1]
      have FC : fnd As ks us n = Lf := by
        rw [hLf]
        exact fnd_congr (by rw [kl, hn.2.1]) (fun j hj => ((KS.out W7 (Below.refl _ _) j (by rw [hn.2.1] at hj; exact hj)).2.ks)) n fun j hj => by
          have k := (hw.2.1.at_ j (by rw [hn.1]; exact hj)).2.1
          exact ⟨k.adr, k.Tl⟩
      have CF : Hid (∀ V, Below W7.heap.size W7 V → Calls Tryd.prog 8 #[.slice (some ⟨w.heap.size, 0, none⟩) n (n + 1), .slice (some ⟨gA, 0, none⟩) nA cA, .slice (some ⟨H, 0, none⟩) i (i + 1)] V fun e w' => ∃ v, e = .returned v ∧ OwN V.heap.size w' v Lf ∧ Below V.heap.size V w') := fun V BV => by
        have hF : BdF As ks := ⟨by rw [hn.2.2.1]; have := hn.2.2.2.2.2; omega, by rw [kl]; have := hn.2.2.2.2.1; omega, fun j hj => by rw [(KS.out W7 (Below.refl _ _) j (by omega)).2.ks]; have := HB.out.2 j (by rw [hn.2.1]; omega); omega⟩
        have hL : BdLs us := ⟨by rw [uL]; have := hn.2.2.2.1; omega, fun j hj => by
          have k := (hw.2.1.at_ j (by rw [hn.1]; omega)).2.1
          unfold BdL
          rw [k.Tl, k.Dl]; exact HB.out.1 j (by rw [hn.1]; omega)⟩
        have h := find_any hF hL V ((TW.out V BV).1.lsg (GR.out V (BV0 V BV)).1) (ASG V BV) (KSG V BV)
        rw [uL, hn.1, hn.2.2.1, kl, FC] at h
        exact h
      have CR : Hid (∀ V, Below W7.heap.size W7 V → Calls Tryd.prog 9 #[.slice a n c, .slice aa nA ca, .slice ak i ck] V fun e w' => ∃ v, e = .returned v ∧ OwN V.heap.size w' v Lf ∧ Below V.heap.size V w') := fun V BV => by
        have g := GR.out V (BV0 V BV)
        have hF : BdF As L := ⟨by rw [hn.2.2.1]; have := hn.2.2.2.2.2; omega, by rw [hn.2.1]; have := hn.2.2.2.2.1; omega, fun j hj => by have := HB.out.2 j hj; omega⟩
        have hL : BdLs ls := ⟨by rw [hn.1]; have := hn.2.2.2.1; omega, HB.out.1⟩
        have h := rfind_any hF hL V g.1 g.2.1 g.2.2.1
        rw [hn.1, hn.2.2.1, hn.2.1, ← hLf] at h
        exact h
      have LL : Hid (Lf.length ≤ n) := by show _ ≤ _; rw [hLf]; exact fnd_len n
      have HZ : Hid (i < 100000000) := hn.2.2.2.2.1
      clear ap tk u7 r7 r8 hk hw hn ne7 BX s2 B27 B07 KS TW kA kl BV0 KSG ASG LF hLf uL FC
      have i9 : (i : Int) ≤ (i : Int) + 1 := by omega
      refine wp_seq_k fun K6 h6 => ?_
      have H6 : Hid _ := h6
      clear h6
      go_wp2_with (go_at_call 8; refine (CF.out _ (Below.refl _ _)).mono ?_; rintro e W8 ⟨v1, rfl, o1, B8⟩)
      refine H6.out _ _ ?_
      clear H6 K6
      refine wp_seq_k fun K7 h7 => ?_
      have H7 : Hid _ := h7
      clear h7
      go_wp2_with (go_at_call 8; refine (CF.out _ B8).mono ?_; rintro e W9 ⟨v2, rfl, o2, B9⟩)
      refine H7.out _ _ ?_
      clear H7 K7
      have B79 : Below W7.heap.size W7 W9 := B8.trans (B9.mono B8.size)
      refine wp_seq_k fun K8 h8 => ?_
      have H8 : Hid _ := h8
      clear h8
      go_wp2_with (go_at_call 9; refine (CR.out _ B79).mono ?_; rintro e WA ⟨v3, rfl, o3, BA⟩)
      refine H8.out _ _ ?_
      clear H8 K8
      have d2 : v2.ownBlock = none ∨ v2.ownBlock ≠ v1.ownBlock := own_apartF (N := W8.heap.size) (fun k hk => (World.ownsRow.lt o1 k hk).2) (fun k hk => (World.ownsRow.lt o2 k hk).1)
      have d3 : v3.ownBlock = none ∨ v3.ownBlock ≠ v1.ownBlock := own_apartF (N := W8.heap.size) (fun k hk => (World.ownsRow.lt o1 k hk).2) (fun k hk => Nat.le_trans B9.size (World.ownsRow.lt o3 k hk).1)
      have B7A : Below W7.heap.size W7 WA := B79.trans (BA.mono B79.size)
      exact (finds9 HN.out.2.2.2.1 HZ.out AA.out FT rfl LL.out (Nat.le_refl _) B7A.size ((o1.keep B9).keep BA) (o2.keep BA) o3 d2 d3 B7A).out rfl
    · have hlt : i < m := by omega
      have hlt' : (i : Int) < (m : Int) := by omega
      have hlt1 : (i : Int) < (m : Int) + 1 := by omega
      obtain rfl := AA.out (by omega)
      have KI := (GR.out _ BW.out).2.2.1.2.2 i (by rw [HN.out.2.1]; exact hlt)
      have ck4 := kl_cell KI.2
      rw [Nat.mul_one] at ck4
      have LH : Hid (∀ V, Below w.heap.size w V → Calls Tryd.prog 7 #[.slice (L.getD i zKl).a (L.getD i zKl).ks.length (L.getD i zKl).c] V fun e w' => ∃ g cap, e = .returned (.slice (some ⟨g, 0, none⟩) (L.getD i zKl).ks.length cap) ∧ (L.getD i zKl).ks.length + 2 ≤ cap ∧ V.heap.size ≤ g ∧ g < w'.heap.size ∧ w'.rangeAt g 0 (flatC hC ((L.getD i zKl).ks ++ [mkHs, mkHs])) ∧ Below V.heap.size V w') := fun V BV => lentH_any (HB.out.2 i (by rw [HN.out.2.1]; exact hlt)) V (GR.out V BV).2.2.2.1 ((GR.out V BV).2.2.1.2.2 i (by rw [HN.out.2.1]; exact hlt)).1
      obtain ⟨x, hx⟩ : ∃ x, L.getD i zKl = x := ⟨_, rfl⟩
      have HX : Hid (L.getD i zKl = x) := hx
      rw [hx] at ck4 LH
      clear KI hx h8 hi
      generalize x.a = xa at *
      generalize hx3 : x.ks.length = xn at *
      have HX3 : Hid (x.ks.length = xn) := hx3
      clear hx3
      generalize x.c = xc at *
      go_wp2_with first
        | (go_at_call 7; refine (LH.out _ BW.out).mono ?_; rintro e W5 ⟨gT, cT, rfl, hcT, hT1, hT2, rT, hb⟩; (have HY : Hid (xn + 2 ≤ cT ∧ wr.heap.size ≤ gT ∧ gT < W5.heap.size ∧ W5.rangeAt gT 0 (flatC hC (x.ks ++ [mkHs, mkHs])) ∧ Below wr.heap.size wr W5) := ⟨hcT, hT1, hT2, rT, hb⟩); clear hcT hT1 hT2 rT hb ck4 LH)
        | (refine wpList_storeC rfl 27 _ _ rfl H i (.slice (some ⟨gT, 0, none⟩) xn cT) rfl rfl rfl rfl size_1h (there_part (there_keepT HK.out.2.2.2.1.1 HK.out.2.2.2.1.2 HY.out.2.2.2.2) (by omega)) ?_; intro W6 u9 r9 ap tk)
      have REL : Hid ((ks ++ [(⟨some ⟨gT, 0, none⟩, gT, 0, cT, x.ks⟩ : Kl)]).length = i + 1 ∧ Below W2.heap.size W2 W6 ∧ (W6.there H 0 (m + 1) ∧ H < W6.heap.size) ∧ ∀ j, j < i + 1 → W6.cell? ⟨H, j, none⟩ = some (.slice ((ks ++ [(⟨some ⟨gT, 0, none⟩, gT, 0, cT, x.ks⟩ : Kl)]).getD j zKl).a ((ks ++ [(⟨some ⟨gT, 0, none⟩, gT, 0, cT, x.ks⟩ : Kl)]).getD j zKl).ks.length ((ks ++ [(⟨some ⟨gT, 0, none⟩, gT, 0, cT, x.ks⟩ : Kl)]).getD j zKl).c) ∧ KlM W6 ((ks ++ [(⟨some ⟨gT, 0, none⟩, gT, 0, cT, x.ks⟩ : Kl)]).getD j zKl) (L.getD j zKl) ∧ H + 1 ≤ ((ks ++ [(⟨some ⟨gT, 0, none⟩, gT, 0, cT, x.ks⟩ : Kl)]).getD j zKl).b) := by
        have hk := HK.out
        have hy := HY.out
        have s5 := hy.2.2.2.2.size
        have s4 := hk.2.2.2.1.2
        refine ⟨by rw [List.length_append, hk.2.1]; rfl, u9.below (by rw [HH.out]; exact Nat.le_refl _) (hk.2.2.1.trans (hy.2.2.2.2.mono hk.2.2.1.size)), ⟨tk _ _ (there_keepT hk.2.2.2.1.1 s4 hy.2.2.2.2), by rw [u9.size]; omega⟩, fun j hj => ?_⟩
        by_cases cj : j < i
        · rw [getD_app (by rw [hk.2.1]; exact cj)]
          obtain ⟨x1, x2, x3⟩ := hk.2.2.2.2 j cj
          exact ⟨by rw [ap j (by omega)]; exact cell_keep hy.2.2.2.2 x1, (x2.keep hy.2.2.2.2).same (u9.block _ (by omega)), x3⟩
        · obtain rfl : j = i := by omega
          have e0 : (ks ++ [(⟨some ⟨gT, 0, none⟩, gT, 0, cT, x.ks⟩ : Kl)]).getD j zKl = ⟨some ⟨gT, 0, none⟩, gT, 0, cT, x.ks⟩ := by
            have := getD_appR (z := zKl) (L := ks) (M := [(⟨some ⟨gT, 0, none⟩, gT, 0, cT, x.ks⟩ : Kl)]) 0
            rw [hk.2.1] at this
            exact this
          rw [e0, HX.out]
          exact ⟨by rw [r9]; show _ = some (Value.slice _ x.ks.length _); rw [HX3.out], ⟨rfl, rfl, rfl, by show x.ks.length + 2 ≤ cT; rw [HX3.out]; exact hy.1, range_same hy.2.2.2.1 (u9.block _ (by show gT ≠ H; omega))⟩, by show H + 1 ≤ gT; omega⟩
      clear u9 r9 ap tk
      go_roundg (m - (i + 1))
      case measure => have := HK.out.1; omega
      case rel => exact ⟨i + 1, _, rfl, hlt, by go_num, REL.out⟩
end Go.Proofs.YtanokeeffbiijaaDoor.tq

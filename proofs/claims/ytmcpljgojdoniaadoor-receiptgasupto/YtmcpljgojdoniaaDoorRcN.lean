import Derived.Test.YtmcpljgojdoniaaDoorRcM
/- ReceiptGas: the law. -/
namespace Go.Proofs.YtmcpljgojdoniaaDoor.tq
open Go.RowKit Go.Sort
theorem RcM.lsg {W : World} {u r : Rc} (h : RcM W u r) (g : RcG W r) : LsG W u.La u.Lb u.Lo u.Lc u.Ll := by
  have aL : ∀ i, i < u.Ll.length → (u.Ll.getD i zLg).adr.length = 20 := fun i hi => by rw [(h.ls i (by rw [← h.L.1]; exact hi)).adr]; exact (g.L.2.2 i (by rw [← h.L.1]; exact hi)).1.adr.1
  refine ⟨⟨by have := h.L.2.2.2.1; have := h.L.1; omega, fun e => by rw [h.L.2.1] at e; cases e⟩, .inr (by rw [h.L.2.1, h.L.2.2.1]), fun i hi => ?_⟩
  have hi' : i < r.Ll.length := by rw [← h.L.1]; exact hi
  refine ⟨((h.ls i hi').good (g.L.2.2 i hi').1).1, ?_⟩
  have q := flat_at zLg _ 0 (lgs_len aL) h.L.2.2.2.2 i (by rw [List.length_append]; omega)
  rw [getD_app hi] at q
  rw [h.L.2.2.1]; exact q
theorem RcM.len {W : World} {u r : Rc} (h : RcM W u r) (g : RcG W r) : (rcC u).length = 293 := rcC_len (by rw [h.sc.2.2.1]; exact g.root.1) (by rw [h.sc.2.2.2.2.2]; exact g.bl.1)
set_option maxRecDepth 100000 in
set_option maxHeartbeats 16000000 in
theorem gasLaw_any {a : Option Addr} {b o c : Nat} {rs : List Rc} (hn : rs.length < 10000000) (hb : ∀ i, i < rs.length → BdR (rs.getD i zRc)) (w : World) (hM : MkH w) (hA : MkA w) (hG : RsG w a b o c rs) :
    Calls Tryd.prog 3 #[.slice a rs.length c] w fun e w' => e = .returned (.bool true) ∧ Below w.heap.size w w' := by
  obtain ⟨n, en⟩ : ∃ n, n = rs.length := ⟨_, rfl⟩
  have n1 : (n : Int) < 10000000 := by omega
  have HN : Hid (rs.length = n ∧ n < 10000000) := ⟨en.symm, by omega⟩
  have HB : Hid (∀ i, i < n → BdR (rs.getD i zRc)) := fun i hi => hb i (by omega)
  have GR : Hid (∀ V, Below w.heap.size w V → RsG V a b o c rs ∧ MkH V ∧ MkA V) := fun V BV => ⟨hG.keep BV, hM.keep BV, hA.keep BV⟩
  rw [← en]
  clear hn hb hM hA hG en
  go_enter Tryd.func3, Tryd.ntmps3
  refine wp_seq_k fun K0 h0 => ?_
  have H0 : Hid _ := h0
  clear h0
  go_wp2
  refine H0.out _ _ ?_
  clear H0 K0
  refine wp_seq_k fun K1 h1 => ?_
  have H1 : Hid _ := h1
  clear h1
  go_wp2_with (refine wpList_make_row (k := 293) (bytes := 344) w Tryd.underlying22 rI_r rfl _ _ rfl _ _ _ _ (n + 1) rfl rfl (by omega) (by omega) (by have := HN.out.2; omega) (by have := HN.out.2; omega) ?_; intro cs hcs)
  refine H1.out _ _ ?_
  clear H1 K1
  have HT : Hid ((w.alloc (.cells cs 30)).there w.heap.size 0 ((n + 1) * 293) ∧ Below w.heap.size w (w.alloc (.cells cs 30)) ∧ w.heap.size < (w.alloc (.cells cs 30)).heap.size) := ⟨there_newR hcs.symm, (Below.refl _ _).alloc (Nat.le_refl _) _, by simp⟩
  generalize w.alloc (.cells cs 30) = W1 at *
  clear hcs cs
  obtain ⟨G, eG⟩ : ∃ G, G = w.heap.size := ⟨_, rfl⟩
  have EG : Hid (G = w.heap.size) := eG
  refine wp_seq_k fun K2 h2 => ?_
  have H2 : Hid _ := h2
  clear h2
  go_wp2_with fail
  go_loopg [4] n (fun k iv wr => ∃ (i : Nat) (us : List Rc), k = n - i ∧ i ≤ n ∧ iv = .int .i64 i ∧ us.length = i ∧ Below w.heap.size w wr ∧ (wr.there w.heap.size 0 ((n + 1) * 293) ∧ w.heap.size < wr.heap.size) ∧ ∀ j, j < i → wr.rangeAt w.heap.size (j * 293) (rcC (us.getD j zRc)) ∧ RcM wr (us.getD j zRc) (rs.getD j zRc) ∧ RcP (w.heap.size + 1) (us.getD j zRc) (rs.getD j zRc))
  case atStart => exact ⟨0, [], rfl, Nat.zero_le _, rfl, rfl, HT.out.2.1, ⟨HT.out.1, HT.out.2.2⟩, fun j hj => absurd hj (Nat.not_lt_zero _)⟩
  case round =>
    clear HT
    obtain ⟨i, us, hk, hi, rfl, hl, B, ht, hq⟩ := hrel
    have HK : Hid (gk = n - i ∧ us.length = i ∧ Below w.heap.size w wr ∧ (wr.there w.heap.size 0 ((n + 1) * 293) ∧ w.heap.size < wr.heap.size) ∧ ∀ j, j < i → wr.rangeAt w.heap.size (j * 293) (rcC (us.getD j zRc)) ∧ RcM wr (us.getD j zRc) (rs.getD j zRc) ∧ RcP (w.heap.size + 1) (us.getD j zRc) (rs.getD j zRc)) := ⟨hk, hl, B, ht, hq⟩
    clear hk hl B ht hq
    by_cases h8 : i = n
    · subst h8
      have e1 : decide ((i : Int) < (i : Int)) = false := by simp
      clear hi
      go_wp2
      refine H2.out _ _ ?_
      clear H2
      refine wp_seq_k fun K3 h3 => ?_
      have H3 : Hid _ := h3
      clear h3
      have m9 : (i : Int) < (i : Int) + 1 := by omega
      go_wp2_with first
        | (refine wpList_build1 30 4 (.int .u64 77) (rcC rc77).toArray built_77 rfl rfl ?_)
        | (refine wpList_storeO rfl 30 _ _ rfl w.heap.size (i * 293) (rcC rc77) rfl rfl (by rw [rc77_len]; exact there_part HK.out.2.2.2.1.1 (by omega)) (by rw [rc77_len]; exact size_rc) (rcC_one _) ?_; intro W3 u9 r9 ap tk)
      refine H3.out _ _ ?_
      clear H3 K3
      have hk := HK.out
      have B3 : Below w.heap.size w W3 := u9.below (Nat.le_refl _) hk.2.2.1
      have hg := (GR.out _ hk.2.2.1).1
      have gi : ∀ j, j < i → RcG wr (rs.getD j zRc) := fun j hj => (hg.2.2 j (by rw [HN.out.1]; exact hj)).1
      have lN : w.heap.size < W3.heap.size := by rw [u9.size]; exact hk.2.2.2.1.2
      have c77 : W3.cell? ⟨w.heap.size, i * 293 + 35, none⟩ = some (.int .u64 77) := rc_used (r := rc77) List.length_replicate r9
      have q3 : ∀ j, j < i → W3.rangeAt w.heap.size (j * 293) (rcC (us.getD j zRc)) ∧ RcM W3 (us.getD j zRc) (rs.getD j zRc) := fun j hj => by
        obtain ⟨x1, x2, x3⟩ := hk.2.2.2.2 j hj
        exact ⟨ap _ _ x1 (.inl (by rw [x2.len (gi j hj)]; omega)), x2.but x3 u9 (Nat.lt_succ_self _)⟩
      have FF : Hid (∀ V, Below W3.heap.size W3 V → GsF w V w.heap.size a b o c i rs us) := fun V BV => ⟨B3.trans (BV.mono B3.size), (GR.out _ (B3.trans (BV.mono B3.size))).1, fun j hj => ⟨range_keep (q3 j hj).1 BV, (q3 j hj).2.keep BV⟩, cell_keep BV c77⟩
      have gv : ∀ V, Below W3.heap.size W3 V → ∀ j, j < i → RcG V (rs.getD j zRc) := fun V BV j hj => ((FF.out V BV).hr.2.2 j (by rw [HN.out.1]; exact hj)).1
      have SR : Hid (∀ j, j < i → ∀ V, Below W3.heap.size W3 V → Calls Tryd.prog 10 #[.agg (rcC (us.getD j zRc)).toArray, .agg (rcC (rs.getD j zRc)).toArray] V fun e w' => e = .returned (.bool true) ∧ Below V.heap.size V w') := fun j hj V BV => by
        have m := ((FF.out V BV).hu j hj).2
        have g := gv V BV j hj
        exact sameR_yes m.sc m.L.1 (by have := (HB.out j hj).1; omega) (fun k hk => ((m.ls k hk).good (g.L.2.2 k hk).1).2) (fun k hk => (HB.out j hj).2 k hk) V (m.lsg g) g
      have SL : Hid (∀ j, j < i → ∀ V, Below W3.heap.size W3 V → Calls Tryd.prog 11 #[.agg (rcC (us.getD j zRc)).toArray, .agg (rcC (rs.getD j zRc)).toArray] V fun e w' => e = .returned (.bool true) ∧ Below V.heap.size V w') := fun j hj V BV => stillR_yes (HB.out j hj) V (GR.out _ (FF.out V BV).B).2.1 (GR.out _ (FF.out V BV).B).2.2 ((FF.out V BV).hu j hj).2 (gv V BV j hj)
      have LU : Hid (∀ j, j < i → (Tryd.prog.info? 30).map (·.size) = some (rcC (us.getD j zRc)).length ∧ (Tryd.prog.info? 30).map (·.size) = some (rcC (rs.getD j zRc)).length) := fun j hj => by
        have g := gv W3 (Below.refl _ _) j hj
        exact ⟨by rw [(q3 j hj).2.len g]; exact size_rc, by rw [rcC_len g.root.1 g.bl.1]; exact size_rc⟩
      exact (gas4 HN.out.1 (by have := HN.out.2; omega) SR SL FF LU hk.2.1 (fun j hj => (q3 j hj).2.sc.2.2.2.2.1)).out rfl
    · have hlt : i < n := by omega
      have hlt' : (i : Int) < (n : Int) := by omega
      have hlt1 : (i : Int) < (n : Int) + 1 := by omega
      have hlt2 : i < rs.length := by rw [HN.out.1]; exact hlt
      obtain rfl := (GR.out _ HK.out.2.2.1).1.cons (by omega)
      have ri := ((GR.out _ HK.out.2.2.1).1.2.2 i hlt2).2
      have gi := ((GR.out _ HK.out.2.2.1).1.2.2 i hlt2).1
      have LR : Hid (∀ V, Below w.heap.size w V → Calls Tryd.prog 6 #[.agg (rcC (rs.getD i zRc)).toArray] V fun e w' => ∃ u, e = .returned (.agg (rcC u).toArray) ∧ RcM w' u (rs.getD i zRc) ∧ Below V.heap.size V w' ∧ RcP V.heap.size u (rs.getD i zRc)) := fun V BV => lentR_any (HB.out i hlt) V (GR.out _ BV).2.1 (GR.out _ BV).2.2 ((GR.out _ BV).1.2.2 i hlt2).1
      have GI : Hid (RcG wr (rs.getD i zRc)) := gi
      have ib : (Tryd.prog.info? 30).map (·.size) = some (rcC (rs.getD i zRc)).length := by rw [rcC_len gi.root.1 gi.bl.1]; exact size_rc
      obtain ⟨r, hr⟩ : ∃ r, rs.getD i zRc = r := ⟨_, rfl⟩
      have HR : Hid (rs.getD i zRc = r) := hr
      rw [hr] at ri LR GI ib
      obtain ⟨C, hC⟩ : ∃ C, C = rcC r := ⟨_, rfl⟩
      rw [← hC] at ri LR ib
      clear gi hr hC h8 hi hlt2
      go_wp2_with first
        | (refine wpList_load_midT rfl 30 _ rfl b (o + i * 293) rfl C _ ri Tryd.underlying30 rfl ib ?_)
        | (go_at_call 6; refine (LR.out _ HK.out.2.2.1).mono ?_; rintro e W5 ⟨u, rfl, m5, B5, p5⟩; (have M5 : Hid (RcM W5 u r ∧ Below wr.heap.size wr W5 ∧ RcP wr.heap.size u r ∧ (rcC u).length = 293) := ⟨m5, B5, p5, m5.len (GI.out.keep B5)⟩); clear m5 B5 p5 ri LR)
        | (refine wpList_storeO rfl 30 _ _ rfl w.heap.size (i * 293) (rcC u) rfl rfl (by rw [M5.out.2.2.2]; exact there_keepT (there_part HK.out.2.2.2.1.1 (by omega)) HK.out.2.2.2.1.2 M5.out.2.1) (by rw [M5.out.2.2.2]; exact size_rc) (rcC_one _) ?_; intro W6 u9 r9 ap tk)
      have hk := HK.out
      have m5 := M5.out
      have REL : Hid ((us ++ [u]).length = i + 1 ∧ Below w.heap.size w W6 ∧ (W6.there w.heap.size 0 ((n + 1) * 293) ∧ w.heap.size < W6.heap.size) ∧ ∀ j, j < i + 1 → W6.rangeAt w.heap.size (j * 293) (rcC ((us ++ [u]).getD j zRc)) ∧ RcM W6 ((us ++ [u]).getD j zRc) (rs.getD j zRc) ∧ RcP (w.heap.size + 1) ((us ++ [u]).getD j zRc) (rs.getD j zRc)) := by
        have B5 : Below w.heap.size w W5 := hk.2.2.1.trans (m5.2.1.mono hk.2.2.1.size)
        have s5 := m5.2.1.size
        have s4 := hk.2.2.2.1.2
        refine ⟨by rw [List.length_append, hk.2.1]; rfl, u9.below (Nat.le_refl _) B5, ⟨tk _ _ (there_keepT hk.2.2.2.1.1 s4 m5.2.1), by rw [u9.size]; omega⟩, fun j hj => ?_⟩
        by_cases cj : j < i
        · rw [getD_app (by rw [hk.2.1]; exact cj)]
          obtain ⟨x1, x2, x3⟩ := hk.2.2.2.2 j cj
          have gj := ((GR.out _ hk.2.2.1).1.2.2 j (by rw [HN.out.1]; omega)).1
          exact ⟨ap _ _ (range_keep x1 m5.2.1) (.inl (by rw [x2.len gj]; omega)), (x2.keep m5.2.1).but x3 u9 (Nat.lt_succ_self _), x3⟩
        · obtain rfl : j = i := by omega
          have e0 : (us ++ [u]).getD j zRc = u := by
            have := getD_appR (z := zRc) (L := us) (M := [u]) 0
            rw [hk.2.1] at this
            exact this
          have p6 : RcP (w.heap.size + 1) u r := ⟨Nat.le_trans s4 m5.2.2.1.1, fun k hk2 => ⟨Nat.le_trans s4 (m5.2.2.1.2 k hk2).1, Nat.le_trans s4 (m5.2.2.1.2 k hk2).2⟩⟩
          rw [e0, HR.out]
          exact ⟨r9, m5.1.but p6 u9 (Nat.lt_succ_self _), p6⟩
      clear hk m5 u9 r9 ap tk
      go_roundg (n - (i + 1))
      case measure => have := HK.out.1; omega
      case rel => exact ⟨i + 1, us ++ [u], rfl, by omega, by go_num, REL.out⟩
end Go.Proofs.YtmcpljgojdoniaaDoor.tq

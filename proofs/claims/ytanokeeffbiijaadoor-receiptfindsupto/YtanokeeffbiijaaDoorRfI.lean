import Derived.Test.YtanokeeffbiijaaDoorRfH
/- waybilllaw17.stillLogs. -/
namespace Go.Proofs.YtanokeeffbiijaaDoor.tq
open Go.RowKit Go.Sort
theorem LgW.good {W : World} {e x : Lg} (h : LgW W e x) (g : LgG W x) : LgG W e ∧ SmL e x := by
  refine ⟨⟨by rw [h.adr]; exact g.adr, ?_, ?_⟩, h.adr, h.Tl, h.Dl⟩
  · refine ⟨⟨by rw [h.Tl, h.T.2.2.1]; omega, fun q => by rw [h.T.1] at q; cases q⟩, .inr (by rw [h.T.1, h.T.2.1]), fun i hi => ?_⟩
    rw [h.Tl] at hi ⊢
    refine ⟨(g.T.2.2 i hi).1, ?_⟩
    have q := h.T.2.2.2
    rw [flatC_app, range_app] at q
    have q2 := flat_at [] _ 0 g.T.len q.1 i hi
    rw [h.T.2.1]; exact q2
  · refine ⟨⟨by rw [h.Dl, h.D.2.2.1]; omega, fun q => by rw [h.D.1] at q; cases q⟩, .inr (by rw [h.D.1, h.D.2.1]), ?_, by rw [h.Dl]; exact g.D.2.2.2⟩
    rw [h.Dl, h.D.2.1]
    exact lentL_bz h.D.2.2.2
theorem TwL.keep {W W' : World} {g : Nat} {us ls : List Lg} (h : TwL W g us ls) (B : Below W.heap.size W W') : TwL W' g us ls := ⟨h.len, Nat.lt_of_lt_of_le h.lt B.size, fun j hj => ⟨range_keep (h.at_ j hj).1 B, (h.at_ j hj).2.1.keep B, (h.at_ j hj).2.2⟩, range_keep h.last B⟩
theorem TwL.lsg {W : World} {g b p c : Nat} {a : Option Addr} {us ls : List Lg} (h : TwL W g us ls) (G : LsG W a b p c ls) : LsG W (some ⟨g, 0, none⟩) g 0 (ls.length + 1) us := by
  refine ⟨⟨by rw [h.len]; omega, fun e => by cases e⟩, .inr rfl, fun i hi => ?_⟩
  rw [h.len] at hi
  have q := h.at_ i hi
  exact ⟨(q.2.1.good (G.2.2 i hi).1).1, by rw [Nat.zero_add]; exact q.1⟩
theorem TwL.sm {W : World} {g b p c : Nat} {a : Option Addr} {us ls : List Lg} (h : TwL W g us ls) (G : LsG W a b p c ls) (i : Nat) (hi : i < ls.length) : SmL (us.getD i zLg) (ls.getD i zLg) := ((h.at_ i hi).2.1.good (G.2.2 i hi).1).2
theorem eq_mC2 (w : World) : (Op.equalIn 10000 38 (.agg (hC mC2).toArray) (.agg #[.int .u8 195, .int .u8 0, .int .u8 0, .int .u8 0, .int .u8 0, .int .u8 0, .int .u8 0, .int .u8 0, .int .u8 0, .int .u8 0, .int .u8 0, .int .u8 0, .int .u8 0, .int .u8 0, .int .u8 0, .int .u8 0, .int .u8 0, .int .u8 0, .int .u8 0, .int .u8 0])).run Tryd.prog w = .ok true w := by
  have h := eq_ad (X := mC2) (Y := mC2) rfl rfl w
  rw [decide_eq_true rfl] at h
  exact h
theorem eq_mC3 (w : World) : (Op.equalIn 10000 30 (.agg (hC mC3).toArray) (.agg #[.int .u8 195, .int .u8 0, .int .u8 0, .int .u8 0, .int .u8 0, .int .u8 0, .int .u8 0, .int .u8 0, .int .u8 0, .int .u8 0, .int .u8 0, .int .u8 0, .int .u8 0, .int .u8 0, .int .u8 0, .int .u8 0, .int .u8 0, .int .u8 0, .int .u8 0, .int .u8 0, .int .u8 0, .int .u8 0, .int .u8 0, .int .u8 0, .int .u8 0, .int .u8 0, .int .u8 0, .int .u8 0, .int .u8 0, .int .u8 0, .int .u8 0, .int .u8 0])).run Tryd.prog w = .ok true w := by
  have h := eq_hs (X := mC3) (Y := mC3) rfl rfl w
  rw [decide_eq_true rfl] at h
  exact h
set_option maxRecDepth 100000 in
set_option maxHeartbeats 16000000 in
theorem stillLogs_yes {a : Option Addr} {b p c g : Nat} {us ls : List Lg} (hn : ls.length < 100000000) (hb : ∀ i, i < ls.length → BdL (ls.getD i zLg)) (w : World) (hG : LsG w a b p c ls) (hT : TwL w g us ls) :
    Calls Tryd.prog 11 #[.slice (some ⟨g, 0, none⟩) ls.length (ls.length + 1), .slice a ls.length c] w fun e w' => e = .returned (.bool true) ∧ Below w.heap.size w w' := by
  obtain ⟨n, en⟩ : ∃ n, n = ls.length := ⟨_, rfl⟩
  have n1 : (n : Int) < 100000000 := by omega
  have HN : Hid (ls.length = n ∧ n < 100000000) := ⟨en.symm, by omega⟩
  have HB : Hid (∀ i, i < n → BdL (ls.getD i zLg)) := fun i hi => hb i (by omega)
  have GR : Hid (∀ V, Below w.heap.size w V → LsG V a b p c ls ∧ TwL V g us ls) := fun V BV => ⟨hG.keep BV, hT.keep BV⟩
  have SL : Hid (∀ V, Below w.heap.size w V → Calls Tryd.prog 20 #[.slice (some ⟨g, 0, none⟩) n (n + 1), .slice a n c] V fun e w' => e = .returned (.bool true) ∧ Below V.heap.size V w') := fun V BV => by
    have h := sameLogs_yes (a := some ⟨g, 0, none⟩) (a' := a) (b := g) (o := 0) (c := ls.length + 1) (c' := c) (hT.len) (by omega) (fun i hi => hT.sm hG i hi) hb V ((hT.keep BV).lsg (hG.keep BV)) (hG.keep BV)
    rw [hT.len, ← en] at h; exact h
  have AA : Hid (0 < n → a = some ⟨b, p, none⟩) := fun h => hG.cons (by omega)
  have LM : Hid ((Tryd.prog.info? 38).map (·.size) = some (hC mC2).length ∧ (Tryd.prog.info? 30).map (·.size) = some (hC mC3).length) := ⟨size_ad, size_hs⟩
  have LR : Hid (∀ V, Below w.heap.size w V → V.rangeAt g (n * 22) (hC mC2)) := fun V BV => by
    have q := (hT.keep BV).last
    rw [← en] at q
    exact (lg_parts (l := mC3L) rfl q).1
  have EM := eq_mC2
  have EH := eq_mC3
  rw [← en]
  clear hn hb hG hT en
  go_enter Tryd.func11, Tryd.ntmps11
  have m9 : (n : Int) < (n : Int) + 1 := by omega
  obtain ⟨cA, hcA⟩ : ∃ cA, cA = hC mC2 := ⟨_, rfl⟩
  rw [← hcA] at LM LR EM
  have cE : Hid (cA = hC mC2) := hcA
  clear hcA
  have la := LM.out.1
  go_wp2_with first
    | (go_at_call 20; refine (SL.out _ (Below.refl _ _)).mono ?_; rintro e W1 ⟨rfl, B1⟩; have r1 := LR.out W1 B1)
    | (refine wpList_load_midT rfl 38 _ rfl g (n * 22) rfl cA _ r1 Tryd.underlying38 rfl la ?_)
  clear EM r1 la SL LR
  obtain ⟨cH, hcH⟩ : ∃ cH, cH = hC mC3 := ⟨_, rfl⟩
  rw [← hcH] at LM EH
  have HC : Hid (cH = hC mC3) := hcH
  clear hcH
  go_loopg [6] n (fun k iv wr => ∃ i : Nat, k = n - i ∧ i ≤ n ∧ iv = .int .i64 i ∧ Below w.heap.size w wr)
  case atStart => exact ⟨0, rfl, Nat.zero_le _, rfl, B1⟩
  case round =>
    clear B1
    obtain ⟨i, hk, hi, rfl, B⟩ := hrel
    have HK : Hid (gk = n - i) := hk
    have HB2 : Hid (Below w.heap.size w wr) := B
    clear hk B
    by_cases h8 : i = n
    · subst h8
      clear hi EH
      go_wp2
      simp [bodyPost, results, Tryd.results11, go_sem]
      exact HB2.out
    · have hlt : i < n := by omega
      have hlt' : (i : Int) < (n : Int) := by omega
      obtain rfl := AA.out (by omega)
      have B3 : Hid (∀ d os, Below w.heap.size w (grow (redrawn wr d) os)) := fun d os => HB2.out.trans ((below_regrown wr d os).mono HB2.out.size)
      have FX : Hid (∀ V, Below w.heap.size w V → LgW V (us.getD i zLg) (ls.getD i zLg) ∧ LgG V (ls.getD i zLg) ∧ (V.cell? ⟨g, i * 22 + 20, none⟩ = some (.slice (us.getD i zLg).Ta (us.getD i zLg).Tl.length (us.getD i zLg).Tc) ∧ V.cell? ⟨g, i * 22 + 21, none⟩ = some (.slice (us.getD i zLg).Da (us.getD i zLg).Dl.length (us.getD i zLg).Dc)) ∧ V.cell? ⟨b, p + i * 22 + 20, none⟩ = some (.slice (ls.getD i zLg).Ta (ls.getD i zLg).Tl.length (ls.getD i zLg).Tc) ∧ V.cell? ⟨b, p + i * 22 + 21, none⟩ = some (.slice (ls.getD i zLg).Da (ls.getD i zLg).Dl.length (ls.getD i zLg).Dc)) := fun V BV => by
        obtain ⟨G, T⟩ := GR.out V BV
        have hi2 : i < ls.length := by rw [HN.out.1]; exact hlt
        have q := T.at_ i hi2
        have f := flag_of G hi2
        have gu := (q.2.1.good f.1).1
        have lp := lg_parts gu.adr.1 q.1
        exact ⟨q.2.1, f.1, lp.2, f.2.2⟩
      have BX := HB.out i hlt
      obtain ⟨x, hx⟩ : ∃ x, ls.getD i zLg = x := ⟨_, rfl⟩
      obtain ⟨e, he⟩ : ∃ e, us.getD i zLg = e := ⟨_, rfl⟩
      rw [hx] at BX
      rw [hx, he] at FX
      clear hx he h8 hi HB GR AA
      have eW := (FX.out wr HB2.out).1
      have eT : e.Ta = some ⟨e.Tb, 0, none⟩ ∧ e.Tl.length = x.Tl.length ∧ e.Tc = x.Tl.length + 1 := ⟨eW.T.1, by rw [eW.Tl], eW.T.2.2.1⟩
      have eD : e.Da = some ⟨e.Db, 0, none⟩ ∧ e.Dl.length = x.Dl.length ∧ e.Dc = x.Dl.length + 70 := ⟨eW.D.1, by rw [eW.Dl], eW.D.2.2.1⟩
      have FY : Hid (∀ V, Below w.heap.size w V → V.cell? ⟨g, i * 22 + 20, none⟩ = some (.slice (some ⟨e.Tb, 0, none⟩) x.Tl.length (x.Tl.length + 1)) ∧ V.cell? ⟨g, i * 22 + 21, none⟩ = some (.slice (some ⟨e.Db, 0, none⟩) x.Dl.length (x.Dl.length + 70)) ∧ V.cell? ⟨b, p + i * 22 + 20, none⟩ = some (.slice x.Ta x.Tl.length x.Tc) ∧ V.cell? ⟨b, p + i * 22 + 21, none⟩ = some (.slice x.Da x.Dl.length x.Dc) ∧ V.rangeAt e.Tb (x.Tl.length * 32) cH) := fun V BV => by
        have f := FX.out V BV
        have f2 := f.2.2.1
        rw [eT.1, eT.2.1, eT.2.2, eD.1, eD.2.1, eD.2.2] at f2
        refine ⟨f2.1, f2.2, f.2.2.2.1, f.2.2.2.2, ?_⟩
        have q := f.1.T.2.2.2
        rw [flatC_app, range_app, f.2.1.T.flen, Nat.zero_add, flatC, flatC, List.append_nil] at q
        rw [HC.out]; exact q.2
      have SD : Hid (∀ V, Below w.heap.size w V → Calls Tryd.prog 21 #[.slice (some ⟨e.Db, 0, none⟩) x.Dl.length (x.Dl.length + 70), .slice x.Da x.Dl.length x.Dc] V fun e w' => e = .returned (.bool true) ∧ Below V.heap.size V w') := fun V BV => by
        have f := FX.out V BV
        exact rstill_any (by have := BX.2; omega) f.2.1.D.2.1 V f.1.D.2.2.2 f.2.1.D.2.2.1
      have m1 : (x.Tl.length : Int) < 1000000000 := by have := BX.1; omega
      clear eW eT eD FX BX
      generalize e.Tb = et at *
      generalize e.Db = ed at *
      generalize x.Tl.length = m at *
      generalize x.Dl.length = k4 at *
      generalize x.Ta = xa at *
      generalize x.Tc = xc at *
      generalize x.Da = ya at *
      generalize x.Dc = yc at *
      have m2 : (m : Int) < (m : Int) + 1 := by omega
      have m3 : (m : Int) ≤ (m : Int) + 1 := by omega
      have c1 := (FY.out wr HB2.out).1
      have c3 := (FY.out wr HB2.out).2.2.1
      go_wp2_with fail
      have rb : ∀ w', (∃ q : Regrown, w' = grow (redrawn wr q.d) q.os) → w'.rangeAt et (m * 32) cH := by rintro w' ⟨q, rfl⟩; exact (FY.out _ (B3.out q.d q.os)).2.2.2.2
      have g2 := fun d os => (FY.out _ (B3.out d os)).2.1
      have g4 := fun d os => (FY.out _ (B3.out d os)).2.2.2.1
      have sd : Hid (∀ d os, Calls Tryd.prog 21 #[.slice (some ⟨ed, 0, none⟩) k4 (k4 + 70), .slice ya k4 yc] (grow (redrawn wr d) os) fun e w' => e = .returned (.bool true) ∧ Below (grow (redrawn wr d) os).heap.size (grow (redrawn wr d) os) w') := fun d os => SD.out _ (B3.out d os)
      have ib := LM.out.2
      have eq := EH
      clear c1 c3 FY SD LM EH
      refine wp_region_quiet_below (by kernel_rfl) (by kernel_rfl) ?_
      repeat
        first
          | go_big_quiet_skip
          | (go_big_quiet_want; refine quiet_load_midT 30 _ rfl et (m * 32) rfl cH _ rb Tryd.underlying30 rfl ib ?_; simp only [Act.put, List.setIfInBounds_toArray, List.set_cons_succ, List.set_cons_zero]; go_big_quiet_on)
          | (go_big_quiet_want; go_big_quiet_op; go_big_quiet_on)
          | (go_big_quiet_want
             go_big_quiet_op
             apply Exists.intro
             refine ⟨fun p => ?_, ?_⟩
             · (go_at_call 21; with_reducible exact Calls.regrown_of (sd.out _ _))
             go_big_quiet_on)
      refine wpQuiet_nil ?_
      rintro w2 ⟨p, rfl⟩
      have hb : Hid (Below w.heap.size w (grow (redrawn wr p.d) p.os)) := B3.out p.d p.os
      generalize grow (redrawn wr p.d) p.os = w2 at *
      clear rb g2 g4 sd ib eq B3
      go_wp2
      go_roundg (n - (i + 1))
      case measure => have := HK.out; omega
      case rel => exact ⟨i + 1, rfl, by omega, by go_num, hb.out⟩
end Go.Proofs.YtanokeeffbiijaaDoor.tq

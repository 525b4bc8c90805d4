import Derived.Test.YthbfefalgigbeaaDoorTsI
import Derived.Test.YthbfefalgigbeaaDoorTsJ
import Derived.Test.YthbfefalgigbeaaDoorTsO
/- tx.Same and the document's Same of any two transactions; the twin; untouched. -/
namespace Go.Proofs.YthbfefalgigbeaaDoor.tq
open Go.RowKit Go.Sort
/-- The bounds within which a transaction's lists lie. -/
def BdT (t : Txv) : Prop := t.Dl.length < 1000000000 ∧ t.Hsl.length < 1000000000 ∧ t.Ul.length < 100000000 ∧ t.El.length < 1000000000 ∧ ∀ i, i < t.El.length → (t.El.getD i zEn).ks.length < 1000000000
def SmT (t u : Txv) : Prop := t.ty = u.ty ∧ t.ch = u.ch ∧ t.no = u.no ∧ t.gas = u.gas ∧ t.pr = u.pr ∧ t.ti = u.ti ∧ t.ca = u.ca ∧ t.bc = u.bc ∧ t.cr = u.cr ∧ t.to = u.to ∧ t.va = u.va ∧ t.Dl = u.Dl ∧ eqL sameE zEn t.El u.El = true ∧ t.Hsl = u.Hsl ∧ t.Ul = u.Ul ∧ t.sv = u.sv ∧ t.sr = u.sr ∧ t.ss = u.ss
theorem sameTx_any {t u : Txv} (hb : BdT t) (w : World) (hT : TxG w t) (hU : TxG w u) :
    Calls Tryd.prog 5 #[.agg (txC t).toArray, .agg (txC u).toArray] w fun e w' => (∃ r, e = .returned (.bool r) ∧ (r = true ↔ SmT t u)) ∧ Below w.heap.size w w' := by
  refine (same_walk (C1 := txC t) (C2 := txC u) w (fun W b h => TxB.facts ⟨h, hT.to.1⟩) (fun W b h => TxB.facts ⟨h, hU.to.1⟩)
    ⟨rfl, rfl⟩ (fun w => eq_num 9998 hT.pr hU.pr w) ⟨rfl, rfl⟩ (fun w => eq_num 9998 hT.ti hU.ti w) ⟨rfl, rfl⟩ (fun w => eq_num 9998 hT.ca hU.ca w) ⟨rfl, rfl⟩ (fun w => eq_num 9998 hT.bc hU.bc w) ⟨rfl, rfl⟩ (fun w => eq_num 9998 hT.va hU.va w) ⟨rfl, rfl⟩ (fun w => eq_num 9998 hT.sv hU.sv w) ⟨rfl, rfl⟩ (fun w => eq_num 9998 hT.sr hU.sr w) ⟨rfl, rfl⟩ (fun w => eq_num 9998 hT.ss hU.ss w) ⟨by rw [hC_len]; exact hT.to.1, by rw [hC_len]; exact hU.to.1⟩ (fun w => eq_ad hT.to.1 hU.to.1 w)
    (fun W B => equalB_any (by have := hb.1; omega) hT.D.2.1 hU.D.2.1 W (hT.D.keep B).2.2.1 (hU.D.keep B).2.2.1) (fun W B => equalE_any hb.2.2.2.1 hb.2.2.2.2 W (hT.E.keep B) (hU.E.keep B)) (fun W B => equalH_any hb.2.1 W (hT.Hs.keep B) (hU.Hs.keep B)) (fun W B => equalU_any (by have := hb.2.2.1; omega) W (hT.U.keep B) (hU.U.keep B)) rfl).mono ?_
  rintro e w' ⟨rfl, B⟩
  refine ⟨⟨_, rfl, ?_⟩, B⟩
  simp only [Bool.and_eq_true, decide_eq_true_iff, SmT, eqL_iff eqB_iff, eqL_iff (fun x y => sameA_iff (u := x) (v := y))]
theorem rsameTx_any {t u : Txv} (hb : BdT t) (w : World) (hT : TxG w t) (hU : TxG w u) :
    Calls Tryd.prog 6 #[.agg (txC t).toArray, .agg (txC u).toArray] w fun e w' => (∃ r, e = .returned (.bool r) ∧ (r = true ↔ SmT t u)) ∧ Below w.heap.size w w' := by
  refine (rsame_walk (C1 := txC t) (C2 := txC u) w (fun W b h => TxB.facts ⟨h, hT.to.1⟩) (fun W b h => TxB.facts ⟨h, hU.to.1⟩) ⟨hT.E, hU.E⟩ ⟨hT.U, hU.U⟩ hb.2.2.2.1 (by have := hb.2.2.1; omega) hb.2.2.2.2
    ⟨rfl, rfl⟩ (fun w => eq_num 9998 hT.pr hU.pr w) ⟨rfl, rfl⟩ (fun w => eq_num 9998 hT.ti hU.ti w) ⟨rfl, rfl⟩ (fun w => eq_num 9998 hT.ca hU.ca w) ⟨rfl, rfl⟩ (fun w => eq_num 9998 hT.bc hU.bc w) ⟨rfl, rfl⟩ (fun w => eq_num 9998 hT.va hU.va w) ⟨rfl, rfl⟩ (fun w => eq_num 9998 hT.sv hU.sv w) ⟨rfl, rfl⟩ (fun w => eq_num 9998 hT.sr hU.sr w) ⟨rfl, rfl⟩ (fun w => eq_num 9998 hT.ss hU.ss w) ⟨by rw [hC_len]; exact hT.to.1, by rw [hC_len]; exact hU.to.1⟩ (fun w => eq_ad hT.to.1 hU.to.1 w)
    (fun W B => rsameB_any (by have := hb.1; omega) hT.D.2.1 hU.D.2.1 W (hT.D.keep B).2.2.1 (hU.D.keep B).2.2.1) (fun W B => rsameH_any hb.2.1 W (hT.Hs.keep B) (hU.Hs.keep B)) rfl).mono ?_
  rintro e w' ⟨rfl, B⟩
  refine ⟨⟨_, rfl, ?_⟩, B⟩
  simp only [Bool.and_eq_true, decide_eq_true_iff, SmT, eqL_iff eqB_iff, eqL_iff (fun x y => sameA_iff (u := x) (v := y))]
  constructor
  · rintro ⟨h1, h2, h3, h4, h5, h6, h7, h8, h9, h10, h11, h12, h13, h14, h15, h16, h17, h18⟩
    exact ⟨h1, h2, h3, h7, h4, h5, h6, h11, h8, h9, h10, h15, h17, h16, h18, h12, h13, h14⟩
  · rintro ⟨h1, h2, h3, h7, h4, h5, h6, h11, h8, h9, h10, h15, h17, h16, h18, h12, h13, h14⟩
    exact ⟨h1, h2, h3, h4, h5, h6, h7, h8, h9, h10, h11, h12, h13, h14, h15, h16, h17, h18⟩
theorem sameE_iff {x y : En} : sameE x y = true ↔ x.adr = y.adr ∧ x.ks = y.ks := by
  simp only [sameE, Bool.and_eq_true, decide_eq_true_iff, eqL_iff eqB_iff]
theorem eqE_iff {L M : List En} : eqL sameE zEn L M = true ↔ L.length = M.length ∧ ∀ j, j < L.length → (L.getD j zEn).adr = (M.getD j zEn).adr ∧ (L.getD j zEn).ks = (M.getD j zEn).ks := by
  unfold eqL
  rw [Bool.and_eq_true, decide_eq_true_iff, List.all_eq_true]
  exact and_congr Iff.rfl ⟨fun h j hj => sameE_iff.1 (h j (List.mem_range.2 hj)), fun h j hj => sameE_iff.2 (h j (List.mem_range.1 hj))⟩
theorem LtT.sm {W : World} {u t : Txv} (h : LtT W u t) : SmT u t :=
  ⟨h.sc.1, h.sc.2.1, h.sc.2.2.1, h.sc.2.2.2.1, h.nu.1, h.nu.2.1, h.nu.2.2.1, h.nu.2.2.2.2.1, h.sc.2.2.2.2.1, h.sc.2.2.2.2.2, h.nu.2.2.2.1, h.D.1, eqE_iff.2 ⟨h.E.1, fun j hj => ⟨(h.ks j (by rw [← h.E.1]; exact hj)).adr, (h.ks j (by rw [← h.E.1]; exact hj)).ks⟩⟩, h.Hs.1, h.U.1, h.nu.2.2.2.2.2.1, h.nu.2.2.2.2.2.2.1, h.nu.2.2.2.2.2.2.2⟩
theorem SmT.symm {t u : Txv} (h : SmT t u) : SmT u t := by
  obtain ⟨h1, h2, h3, h4, h5, h6, h7, h8, h9, h10, h11, h12, h13, h14, h15, h16, h17, h18⟩ := h
  have e := eqE_iff.1 h13
  exact ⟨h1.symm, h2.symm, h3.symm, h4.symm, h5.symm, h6.symm, h7.symm, h8.symm, h9.symm, h10.symm, h11.symm, h12.symm, eqE_iff.2 ⟨e.1.symm, fun j hj => ⟨(e.2 j (by rw [e.1]; exact hj)).1.symm, (e.2 j (by rw [e.1]; exact hj)).2.symm⟩⟩, h14.symm, h15.symm, h16.symm, h17.symm, h18.symm⟩
theorem SmT.trans {t u v : Txv} (h : SmT t u) (k : SmT u v) : SmT t v := by
  obtain ⟨h1, h2, h3, h4, h5, h6, h7, h8, h9, h10, h11, h12, h13, h14, h15, h16, h17, h18⟩ := h
  obtain ⟨k1, k2, k3, k4, k5, k6, k7, k8, k9, k10, k11, k12, k13, k14, k15, k16, k17, k18⟩ := k
  have e := eqE_iff.1 h13
  have f := eqE_iff.1 k13
  exact ⟨h1.trans k1, h2.trans k2, h3.trans k3, h4.trans k4, h5.trans k5, h6.trans k6, h7.trans k7, h8.trans k8, h9.trans k9, h10.trans k10, h11.trans k11, h12.trans k12, eqE_iff.2 ⟨e.1.trans f.1, fun j hj => ⟨(e.2 j hj).1.trans (f.2 j (by rw [← e.1]; exact hj)).1, (e.2 j hj).2.trans (f.2 j (by rw [← e.1]; exact hj)).2⟩⟩, h14.trans k14, h15.trans k15, h16.trans k16, h17.trans k17, h18.trans k18⟩
theorem LtT.bd {W : World} {u t : Txv} (h : LtT W u t) (b : BdT t) : BdT u :=
  ⟨by rw [h.D.1]; exact b.1, by rw [h.Hs.1]; exact b.2.1, by rw [h.U.1]; exact b.2.2.1, by rw [h.E.1]; exact b.2.2.2.1, fun i hi => by rw [(h.ks i (by rw [← h.E.1]; exact hi)).ks]; exact b.2.2.2.2 i (by rw [← h.E.1]; exact hi)⟩
set_option maxRecDepth 100000 in
set_option maxHeartbeats 8000000 in
theorem twin_any {t : Txv} (hn : Hid (BdT t)) (w : World) (hM : MkH w) (hA : MkA w) (hG : TxG w t) :
    Calls Tryd.prog 4 #[.agg (txC t).toArray] w fun e w' => ∃ u, e = .returned (.agg (txC u).toArray) ∧ LtT w' u t ∧ Below w.heap.size w w' := by
  have LT : Hid (∀ W, Below w.heap.size w W → Calls Tryd.prog 8 #[.agg (txC t).toArray] W fun e w' => ∃ u, e = .returned (.agg (txC u).toArray) ∧ LtT w' u t ∧ Below W.heap.size W w' ∧ LtP W.heap.size u t) := fun W B => lentTx_any hn W (hM.keep B) (hA.keep B) (hG.keep B)
  have CS : Hid ((Tryd.prog.info? 32).map (·.size) = some (txC t).length) := by show _ = _; rw [txC_len hG.to.1]; exact size_txT
  have TO : Hid (t.to.length = 20) := hG.to.1
  generalize txC t = C at *
  clear hM hA hG
  go_enter Tryd.func4, Tryd.ntmps4
  go_wp2_with first
    | (refine wpList_boxT rfl 32 _ rfl C rfl ?_; intro b1 W1 h1 BB r1)
    | (refine wpList_allocT rfl 32 rfl (some 2) rfl 61 408 rI_t ?_; intro b2 W2 h2 B9 t2; replace BB := BB.trans (B9.mono BB.size); replace r1 := range_keep r1 B9; clear B9; have L2 : Hid (w.heap.size ≤ b2 ∧ b2 < W2.heap.size) := (show w.heap.size ≤ b2 ∧ b2 < W2.heap.size by have := h1.out; have := h2.out; omega); clear h1 h2)
    | (refine wpList_load_midT rfl 32 _ rfl b1 0 rfl C _ r1 Tryd.underlying32 rfl CS.out ?_)
    | (go_at_call 8; refine (LT.out _ BB).mono ?_; rintro x9 W3 ⟨u, rfl, hu, B9, hp⟩; have HP : Hid (LtP W2.heap.size u t) := hp; clear hp; replace BB := BB.trans (B9.mono BB.size); replace t2 := there_keepB t2 B9; have U61 : Hid ((txC u).length = 61) := txC_len (by rw [hu.sc.2.2.2.2.2]; exact TO.out); have HU : Hid (LtT W3 u t) := hu; have UO : Hid (∀ z ∈ txC u, z.oneCell' = true) := txC_one u; clear hu B9 r1)
    | (refine wpList_storeT rfl 32 _ _ rfl b2 (txC u) rfl rfl (by rw [U61.out]; exact t2) (by rw [U61.out]; exact size_txT) UO.out ?_; intro W4 u9 r9 t9)
  have ld := run_loadVar_mid (P := Tryd.prog) W4 b2 0 32 _ _ r9 Tryd.underlying32 rfl (by rw [U61.out]; exact size_txT)
  refine bodyPost_ret (v := .agg (txC u).toArray) ?_ rfl ⟨u, rfl, HU.out.but HP.out u9 L2.out.2, u9.below L2.out.1 BB⟩
  simp [results, Tryd.results4, asAddr, ld, Act.put]
set_option maxRecDepth 100000 in
set_option maxHeartbeats 8000000 in
theorem untouched_yes {u t : Txv} (hn : Hid (BdT t)) (w : World) (hM : MkH w) (hA : MkA w) (hG : TxG w t) (hL : LtT w u t) :
    Calls Tryd.prog 7 #[.agg (txC u).toArray, .agg (txC t).toArray] w fun e w' => e = .returned (.bool true) ∧ Below w.heap.size w w' := by
  have K1 : Hid (∀ W, Below w.heap.size w W → Calls Tryd.prog 6 #[.agg (txC u).toArray, .agg (txC t).toArray] W fun e w' => e = .returned (.bool true) ∧ Below W.heap.size W w') := fun W B => (rsameTx_any (hL.bd hn.out) W ((hL.keep B).good (hG.keep B)) (hG.keep B)).mono fun e w' ⟨⟨r, h1, h2⟩, h3⟩ => ⟨by rw [h1, h2.2 hL.sm], h3⟩
  have K2 : Hid (∀ W, Below w.heap.size w W → Calls Tryd.prog 16 #[.agg (txC u).toArray, .agg (txC t).toArray] W fun e w' => e = .returned (.bool true) ∧ Below W.heap.size W w') := fun W B => stillTx_yes hn W (hM.keep B) (hA.keep B) (hG.keep B) (hL.keep B)
  have S1 : Hid ((Tryd.prog.info? 32).map (·.size) = some (txC u).length) := by show _ = _; rw [txC_len (by rw [hL.sc.2.2.2.2.2]; exact hG.to.1)]; exact size_txT
  have S2 : Hid ((Tryd.prog.info? 32).map (·.size) = some (txC t).length) := by show _ = _; rw [txC_len hG.to.1]; exact size_txT
  generalize txC u = C1 at *
  generalize txC t = C2 at *
  clear hM hA hG hL hn
  go_enter Tryd.func7, Tryd.ntmps7
  go_wp2_with first
    | (refine wpList_boxT rfl 32 _ rfl C1 rfl ?_; intro b1 W1 h1 BB r1)
    | (refine wpList_boxT rfl 32 _ rfl C2 rfl ?_; intro b2 W2 h2 B9 r2; replace BB := BB.trans (B9.mono BB.size); replace r1 := range_keep r1 B9; clear B9)
    | (refine wpList_load_midT rfl 32 _ rfl b1 0 rfl C1 _ r1 Tryd.underlying32 rfl S1.out ?_)
    | (refine wpList_load_midT rfl 32 _ rfl b2 0 rfl C2 _ r2 Tryd.underlying32 rfl S2.out ?_)
    | (go_at_call 6; refine (K1.out _ BB).mono ?_; rintro x9 W3 ⟨rfl, B9⟩; replace BB := BB.trans (B9.mono BB.size); replace r1 := range_keep r1 B9; replace r2 := range_keep r2 B9; clear B9)
    | (go_at_call 16; refine (K2.out _ BB).mono ?_; rintro x9 W4 ⟨rfl, B9⟩; replace BB := BB.trans (B9.mono BB.size); clear B9)
  simp [bodyPost, results, Tryd.results7, go_sem]
  exact BB
end Go.Proofs.YthbfefalgigbeaaDoor.tq

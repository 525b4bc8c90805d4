import Derived.Test.YthbfefalgigbeaaDoorTsP
/- TxSames. -/
namespace Go.Proofs.YthbfefalgigbeaaDoor.tq
open Go.RowKit Go.Sort
set_option maxRecDepth 100000 in
set_option maxHeartbeats 8000000 in
theorem txSames_any {a b : Txv} (ha : Hid (BdT a)) (hb : Hid (BdT b)) (w : World) (hM : MkH w) (hA : MkA w) (ga : TxG w a) (gb : TxG w b) :
    Calls Tryd.prog 3 #[.agg (txC a).toArray, .agg (txC b).toArray] w fun e w' => e = .returned (.bool true) ∧ Below w.heap.size w w' := by
  have TA : Hid (∀ W, Below w.heap.size w W → Calls Tryd.prog 4 #[.agg (txC a).toArray] W fun e w' => ∃ u, e = .returned (.agg (txC u).toArray) ∧ LtT w' u a ∧ Below W.heap.size W w') := fun W B => twin_any ha W (hM.keep B) (hA.keep B) (ga.keep B)
  have TB : Hid (∀ W, Below w.heap.size w W → Calls Tryd.prog 4 #[.agg (txC b).toArray] W fun e w' => ∃ u, e = .returned (.agg (txC u).toArray) ∧ LtT w' u b ∧ Below W.heap.size W w') := fun W B => twin_any hb W (hM.keep B) (hA.keep B) (gb.keep B)
  obtain ⟨r, hr⟩ : ∃ r : Bool, r = true ↔ SmT a b := by
    by_cases h : SmT a b
    · exact ⟨true, by simp [h]⟩
    · exact ⟨false, by simp [h]⟩
  have eqb : ∀ {x y : Bool}, (x = true ↔ SmT a b) → (y = true ↔ SmT a b) → x = y := fun {x y} h1 h2 => by
    cases x <;> cases y <;> simp_all
  have K1 : Hid (∀ (u v : Txv) (V : World), Below w.heap.size w V → LtT V u a → LtT V v b → ∀ W, Below V.heap.size V W → Calls Tryd.prog 5 #[.agg (txC u).toArray, .agg (txC v).toArray] W fun e w' => e = .returned (.bool r) ∧ Below W.heap.size W w') := fun u v V B hu hv W BW => by
    have B2 := B.trans (BW.mono B.size)
    refine (sameTx_any (hu.bd ha.out) W ((hu.keep BW).good (ga.keep B2)) ((hv.keep BW).good (gb.keep B2))).mono ?_
    rintro e w' ⟨⟨s, h1, h2⟩, h3⟩
    refine ⟨by rw [h1, eqb (h2.trans ⟨fun h => hu.sm.symm.trans (h.trans hv.sm), fun h => hu.sm.trans (h.trans hv.sm.symm)⟩) hr], h3⟩
  have K2 : Hid (∀ W, Below w.heap.size w W → Calls Tryd.prog 6 #[.agg (txC a).toArray, .agg (txC b).toArray] W fun e w' => e = .returned (.bool r) ∧ Below W.heap.size W w') := fun W B => (rsameTx_any ha.out W (ga.keep B) (gb.keep B)).mono fun e w' ⟨⟨s, h1, h2⟩, h3⟩ => ⟨by rw [h1, eqb h2 hr], h3⟩
  have K4 : Hid (∀ (u z : Txv) (V : World), Below w.heap.size w V → LtT V u a → ∀ W, Below V.heap.size V W → LtT W z a → Calls Tryd.prog 5 #[.agg (txC u).toArray, .agg (txC z).toArray] W fun e w' => e = .returned (.bool true) ∧ Below W.heap.size W w') := fun u z V B hu W BW hz => by
    have B2 := B.trans (BW.mono B.size)
    refine (sameTx_any (hu.bd ha.out) W ((hu.keep BW).good (ga.keep B2)) (hz.good (ga.keep B2))).mono ?_
    rintro e w' ⟨⟨s, h1, h2⟩, h3⟩
    exact ⟨by rw [h1, h2.2 (hu.sm.trans hz.sm.symm)], h3⟩
  have K5 : Hid (∀ (u : Txv) (V : World), Below w.heap.size w V → LtT V u a → ∀ W, Below V.heap.size V W → Calls Tryd.prog 7 #[.agg (txC u).toArray, .agg (txC a).toArray] W fun e w' => e = .returned (.bool true) ∧ Below W.heap.size W w') := fun u V B hu W BW => untouched_yes ha W ((hM.keep B).keep BW) ((hA.keep B).keep BW) ((ga.keep B).keep BW) (hu.keep BW)
  have K6 : Hid (∀ (u : Txv) (V : World), Below w.heap.size w V → LtT V u b → ∀ W, Below V.heap.size V W → Calls Tryd.prog 7 #[.agg (txC u).toArray, .agg (txC b).toArray] W fun e w' => e = .returned (.bool true) ∧ Below W.heap.size W w') := fun u V B hu W BW => untouched_yes hb W ((hM.keep B).keep BW) ((hA.keep B).keep BW) ((gb.keep B).keep BW) (hu.keep BW)
  have SZ : Hid (∀ (W : World) (u t : Txv), LtT W u t → t.to.length = 20 → (txC u).length = 61) := fun W u t h h2 => txC_len (by rw [h.sc.2.2.2.2.2]; exact h2)
  have LA : Hid (a.to.length = 20 ∧ b.to.length = 20) := ⟨ga.to.1, gb.to.1⟩
  have SA : Hid ((Tryd.prog.info? 32).map (·.size) = some (txC a).length) := by show _ = _; rw [txC_len ga.to.1]; exact size_txT
  have SB : Hid ((Tryd.prog.info? 32).map (·.size) = some (txC b).length) := by show _ = _; rw [txC_len gb.to.1]; exact size_txT
  generalize txC a = Ca at *
  generalize txC b = Cb at *
  clear hM hA ga gb hr eqb ha hb
  go_enter Tryd.func3, Tryd.ntmps3
  go_wp2_with first
    | (refine wpList_boxT rfl 32 _ rfl Ca rfl ?_; intro b2 W1 h1 BB r2)
    | (refine wpList_boxT rfl 32 _ rfl Cb rfl ?_; intro b3 W2 h2 B9 r3; replace BB := BB.trans (B9.mono BB.size); replace r2 := range_keep r2 B9; clear B9)
    | (refine wpList_load_midT rfl 32 _ rfl b2 0 rfl Ca _ r2 Tryd.underlying32 rfl SA.out ?_)
    | (refine wpList_load_midT rfl 32 _ rfl b3 0 rfl Cb _ r3 Tryd.underlying32 rfl SB.out ?_)
    | (go_at_call 4; refine (TA.out _ BB).mono ?_; rintro x9 W3 ⟨u, rfl, hu, B9⟩; replace BB := BB.trans (B9.mono BB.size); replace r2 := range_keep r2 B9; replace r3 := range_keep r3 B9; have U61 : Hid ((txC u).length = 61) := SZ.out _ _ _ hu LA.out.1; have UO : Hid (∀ z ∈ txC u, z.oneCell' = true) := txC_one u; have HU : Hid (LtT W3 u a) := hu; clear hu B9)
    | (refine wpList_allocT rfl 32 rfl (some 5) rfl 61 408 rI_t ?_; intro b5 W4 h5 B5 t5)
    | (refine wpList_storeT rfl 32 _ _ rfl b5 (txC u) rfl rfl (by rw [U61.out]; exact t5) (by rw [U61.out]; exact size_txT) UO.out ?_; intro W5 u9 r5 t9; have B9 : Below W3.heap.size W3 W5 := u9.below (Nat.le_of_eq h5.out.1.symm) B5; replace BB := BB.trans (B9.mono BB.size); replace r2 := range_keep r2 B9; replace r3 := range_keep r3 B9; replace HU : Hid (LtT W5 u a) := HU.out.keep B9; clear t5 h5 B5 u9 t9 B9)
    | (go_at_call 4; refine (TB.out _ BB).mono ?_; rintro x9 W6 ⟨v, rfl, hv, B9⟩; replace BB := BB.trans (B9.mono BB.size); replace r2 := range_keep r2 B9; replace r3 := range_keep r3 B9; replace r5 := range_keep r5 B9; replace HU : Hid (LtT W6 u a) := HU.out.keep B9; have V61 : Hid ((txC v).length = 61) := SZ.out _ _ _ hv LA.out.2; have VO : Hid (∀ z ∈ txC v, z.oneCell' = true) := txC_one v; have HV : Hid (LtT W6 v b) := hv; clear hv B9)
    | (refine wpList_allocT rfl 32 rfl (some 6) rfl 61 408 rI_t ?_; intro b6 W7 h6 B6 t6)
    | (refine wpList_storeT rfl 32 _ _ rfl b6 (txC v) rfl rfl (by rw [V61.out]; exact t6) (by rw [V61.out]; exact size_txT) VO.out ?_; intro V u9 r6 t9; have B9 : Below W6.heap.size W6 V := u9.below (Nat.le_of_eq h6.out.1.symm) B6; replace BB := BB.trans (B9.mono BB.size); replace r2 := range_keep r2 B9; replace r3 := range_keep r3 B9; replace r5 := range_keep r5 B9; replace HU : Hid (LtT V u a) := HU.out.keep B9; replace HV : Hid (LtT V v b) := HV.out.keep B9; clear t6 h6 B6 u9 t9 B9)
  have C1 : Hid (∀ W, Below V.heap.size V W → Calls Tryd.prog 5 #[.agg (txC u).toArray, .agg (txC v).toArray] W fun e w' => e = .returned (.bool r) ∧ Below W.heap.size W w') := K1.out u v V BB HU.out HV.out
  have C2 : Hid (∀ W, Below V.heap.size V W → Calls Tryd.prog 6 #[.agg Ca.toArray, .agg Cb.toArray] W fun e w' => e = .returned (.bool r) ∧ Below W.heap.size W w') := fun W B => K2.out W (BB.trans (B.mono BB.size))
  have C3 : Hid (∀ W, Below V.heap.size V W → Calls Tryd.prog 4 #[.agg Ca.toArray] W fun e w' => ∃ z, e = .returned (.agg (txC z).toArray) ∧ LtT w' z a ∧ Below W.heap.size W w') := fun W B => TA.out W (BB.trans (B.mono BB.size))
  have C4 : Hid (∀ (z : Txv) (W : World), Below V.heap.size V W → LtT W z a → Calls Tryd.prog 5 #[.agg (txC u).toArray, .agg (txC z).toArray] W fun e w' => e = .returned (.bool true) ∧ Below W.heap.size W w') := fun z W B hz => K4.out u z V BB HU.out W B hz
  have C5 : Hid (∀ W, Below V.heap.size V W → Calls Tryd.prog 7 #[.agg (txC u).toArray, .agg Ca.toArray] W fun e w' => e = .returned (.bool true) ∧ Below W.heap.size W w') := K5.out u V BB HU.out
  have C6 : Hid (∀ W, Below V.heap.size V W → Calls Tryd.prog 7 #[.agg (txC v).toArray, .agg Cb.toArray] W fun e w' => e = .returned (.bool true) ∧ Below W.heap.size W w') := K6.out v V BB HV.out
  have S5 : Hid ((Tryd.prog.info? 32).map (·.size) = some (txC u).length) := by show _ = _; rw [U61.out]; exact size_txT
  have S6 : Hid ((Tryd.prog.info? 32).map (·.size) = some (txC v).length) := by show _ = _; rw [V61.out]; exact size_txT
  have HH : Hid (Below w.heap.size w V ∧ V.rangeAt b2 0 Ca ∧ V.rangeAt b3 0 Cb ∧ V.rangeAt b5 0 (txC u) ∧ V.rangeAt b6 0 (txC v)) := ⟨BB, r2, r3, r5, r6⟩
  clear K1 K2 K4 K5 K6 TA TB SZ LA HU HV U61 V61 UO VO BB r2 r3 r5 r6
  generalize txC u = Cu at *
  generalize txC v = Cv at *
  refine wp_region_held_drew (S := fun w' => Below V.heap.size V w') (by kernel_rfl) ((Below.refl _ _).drew) (fun hHeld => ?_)
  refine wpAnyH_takeT (i := 0) (oi := _) (v := .agg Cu.toArray) 11 rfl (by kernel_rfl) (by kernel_rfl) (by kernel_rfl) (by kernel_rfl) (fun _ _ _ h => h) (Or.inl ⟨by kernel_rfl, ?_⟩) (by assumption) ?_
  · intro wq hSw
    exact yields_midT 32 _ rfl b5 0 rfl Cu _ (range_keep HH.out.2.2.2.1 hSw) Tryd.underlying32 rfl S5.out
  simp only [Act.put, List.setIfInBounds_toArray, List.set_cons_succ, List.set_cons_zero]
  refine wpAnyH_takeT (i := 1) (oi := _) (v := .agg Cv.toArray) 12 rfl (by kernel_rfl) (by kernel_rfl) (by kernel_rfl) (by kernel_rfl) (fun _ _ _ h => h) (Or.inl ⟨by kernel_rfl, ?_⟩) (by assumption) ?_
  · intro wq hSw
    exact yields_midT 32 _ rfl b6 0 rfl Cv _ (range_keep HH.out.2.2.2.2 hSw) Tryd.underlying32 rfl S6.out
  simp only [Act.put, List.setIfInBounds_toArray, List.set_cons_succ, List.set_cons_zero]
  refine wpAnyH_takeT (i := 3) (oi := _) (v := .agg Ca.toArray) 14 rfl (by kernel_rfl) (by kernel_rfl) (by kernel_rfl) (by kernel_rfl) (fun _ _ _ h => h) (Or.inl ⟨by kernel_rfl, ?_⟩) (by assumption) ?_
  · intro wq hSw
    exact yields_midT 32 _ rfl b2 0 rfl Ca _ (range_keep HH.out.2.1 hSw) Tryd.underlying32 rfl SA.out
  simp only [Act.put, List.setIfInBounds_toArray, List.set_cons_succ, List.set_cons_zero]
  refine wpAnyH_takeT (i := 4) (oi := _) (v := .agg Cb.toArray) 15 rfl (by kernel_rfl) (by kernel_rfl) (by kernel_rfl) (by kernel_rfl) (fun _ _ _ h => h) (Or.inl ⟨by kernel_rfl, ?_⟩) (by assumption) ?_
  · intro wq hSw
    exact yields_midT 32 _ rfl b3 0 rfl Cb _ (range_keep HH.out.2.2.1 hSw) Tryd.underlying32 rfl SB.out
  simp only [Act.put, List.setIfInBounds_toArray, List.set_cons_succ, List.set_cons_zero]
  clear hHeld
  refine wpAnyH_ready (rs := [2]) (by kernel_rfl) (by simp) ?_
  refine AllReadyH.cons rfl (fun K hK => ?_) AllReadyH.nil
  go_simp
  go_wp2_with (go_at_call 5; refine (C1.out _ (by first | exact Below.refl _ _ | exact (Below.refl _ _).drew)).mono ?_; rintro e y0 ⟨rfl, hb⟩)
  have B0 : Below V.heap.size V y0 := ((Below.refl _ _).drew).trans (hb.mono (Nat.le_refl _))
  refine hK.out _ _ B0 (fun hHeld => ?_)
  clear hK K hb
  clear hHeld
  refine wpAnyH_ready (rs := [5]) (by kernel_rfl) (by simp) ?_
  refine AllReadyH.cons rfl (fun K hK => ?_) AllReadyH.nil
  go_simp
  go_wp2_with (go_at_call 6; refine (C2.out _ B0).mono ?_; rintro e y1 ⟨rfl, hb⟩)
  have B1 : Below V.heap.size V y1 := B0.trans (hb.mono B0.size)
  refine hK.out _ _ B1 (fun hHeld => ?_)
  clear hK K hb
  refine wpAnyH_takeT (i := 6) (oi := _) (v := .bool true) 17 rfl (by kernel_rfl) (by kernel_rfl) (by kernel_rfl) (by kernel_rfl) (fun _ _ _ h => h) (Or.inl ⟨by kernel_rfl, ?_⟩) (by assumption) ?_
  · intro wq hSw
    have _ := hSw
    go_simp
  simp only [Act.put, List.setIfInBounds_toArray, List.set_cons_succ, List.set_cons_zero]
  refine wpAnyH_takeT (i := 7) (oi := _) (v := .bool true) 18 rfl (by kernel_rfl) (by kernel_rfl) (by kernel_rfl) (by kernel_rfl) (fun _ _ _ h => h) (Or.inl ⟨by kernel_rfl, ?_⟩) (by assumption) ?_
  · intro wq hSw
    have _ := hSw
    go_simp
  simp only [Act.put, List.setIfInBounds_toArray, List.set_cons_succ, List.set_cons_zero]
  refine wpAnyH_takeT (i := 8) (oi := _) (v := .agg Cu.toArray) 19 rfl (by kernel_rfl) (by kernel_rfl) (by kernel_rfl) (by kernel_rfl) (fun _ _ _ h => h) (Or.inl ⟨by kernel_rfl, ?_⟩) (by assumption) ?_
  · intro wq hSw
    exact yields_midT 32 _ rfl b5 0 rfl Cu _ (range_keep HH.out.2.2.2.1 hSw) Tryd.underlying32 rfl S5.out
  simp only [Act.put, List.setIfInBounds_toArray, List.set_cons_succ, List.set_cons_zero]
  refine wpAnyH_takeT (i := 9) (oi := _) (v := .agg Ca.toArray) 20 rfl (by kernel_rfl) (by kernel_rfl) (by kernel_rfl) (by kernel_rfl) (fun _ _ _ h => h) (Or.inl ⟨by kernel_rfl, ?_⟩) (by assumption) ?_
  · intro wq hSw
    exact yields_midT 32 _ rfl b2 0 rfl Ca _ (range_keep HH.out.2.1 hSw) Tryd.underlying32 rfl SA.out
  simp only [Act.put, List.setIfInBounds_toArray, List.set_cons_succ, List.set_cons_zero]
  clear hHeld
  refine wpAnyH_ready (rs := [10]) (by kernel_rfl) (by simp) ?_
  refine AllReadyH.cons rfl (fun K hK => ?_) AllReadyH.nil
  go_simp
  go_wp2_with (go_at_call 4; refine (C3.out _ B1).mono ?_; rintro e y2 ⟨z, rfl, hz, hb⟩)
  have B2 : Below V.heap.size V y2 := B1.trans (hb.mono B1.size)
  refine hK.out _ _ B2 (fun hHeld => ?_)
  clear hK K hb
  clear hHeld
  refine wpAnyH_ready (rs := [11]) (by kernel_rfl) (by simp) ?_
  refine AllReadyH.cons rfl (fun K hK => ?_) AllReadyH.nil
  go_simp
  go_wp2_with (go_at_call 5; refine (C4.out _ _ B2 hz).mono ?_; rintro e y3 ⟨rfl, hb⟩)
  have B3 : Below V.heap.size V y3 := B2.trans (hb.mono B2.size)
  refine hK.out _ _ B3 (fun hHeld => ?_)
  clear hK K hb
  refine wpAnyH_takeT (i := 12) (oi := _) (v := .bool true) 23 rfl (by kernel_rfl) (by kernel_rfl) (by kernel_rfl) (by kernel_rfl) (fun _ _ _ h => h) (Or.inl ⟨by kernel_rfl, ?_⟩) (by assumption) ?_
  · intro wq hSw
    have _ := hSw
    go_simp
  simp only [Act.put, List.setIfInBounds_toArray, List.set_cons_succ, List.set_cons_zero]
  refine wpAnyH_takeT (i := 13) (oi := _) (v := .bool true) 24 rfl (by kernel_rfl) (by kernel_rfl) (by kernel_rfl) (by kernel_rfl) (fun _ _ _ h => h) (Or.inl ⟨by kernel_rfl, ?_⟩) (by assumption) ?_
  · intro wq hSw
    have _ := hSw
    go_simp
  simp only [Act.put, List.setIfInBounds_toArray, List.set_cons_succ, List.set_cons_zero]
  refine wpAnyH_takeT (i := 14) (oi := _) (v := .agg Cu.toArray) 25 rfl (by kernel_rfl) (by kernel_rfl) (by kernel_rfl) (by kernel_rfl) (fun _ _ _ h => h) (Or.inl ⟨by kernel_rfl, ?_⟩) (by assumption) ?_
  · intro wq hSw
    exact yields_midT 32 _ rfl b5 0 rfl Cu _ (range_keep HH.out.2.2.2.1 hSw) Tryd.underlying32 rfl S5.out
  simp only [Act.put, List.setIfInBounds_toArray, List.set_cons_succ, List.set_cons_zero]
  refine wpAnyH_takeT (i := 15) (oi := _) (v := .agg Ca.toArray) 26 rfl (by kernel_rfl) (by kernel_rfl) (by kernel_rfl) (by kernel_rfl) (fun _ _ _ h => h) (Or.inl ⟨by kernel_rfl, ?_⟩) (by assumption) ?_
  · intro wq hSw
    exact yields_midT 32 _ rfl b2 0 rfl Ca _ (range_keep HH.out.2.1 hSw) Tryd.underlying32 rfl SA.out
  simp only [Act.put, List.setIfInBounds_toArray, List.set_cons_succ, List.set_cons_zero]
  clear hHeld
  refine wpAnyH_ready (rs := [16]) (by kernel_rfl) (by simp) ?_
  refine AllReadyH.cons rfl (fun K hK => ?_) AllReadyH.nil
  go_simp
  go_wp2_with (go_at_call 7; refine (C5.out _ B3).mono ?_; rintro e y4 ⟨rfl, hb⟩)
  have B4 : Below V.heap.size V y4 := B3.trans (hb.mono B3.size)
  refine hK.out _ _ B4 (fun hHeld => ?_)
  clear hK K hb
  refine wpAnyH_takeT (i := 17) (oi := _) (v := .bool true) 28 rfl (by kernel_rfl) (by kernel_rfl) (by kernel_rfl) (by kernel_rfl) (fun _ _ _ h => h) (Or.inl ⟨by kernel_rfl, ?_⟩) (by assumption) ?_
  · intro wq hSw
    have _ := hSw
    go_simp
  simp only [Act.put, List.setIfInBounds_toArray, List.set_cons_succ, List.set_cons_zero]
  refine wpAnyH_takeT (i := 18) (oi := _) (v := .bool true) 29 rfl (by kernel_rfl) (by kernel_rfl) (by kernel_rfl) (by kernel_rfl) (fun _ _ _ h => h) (Or.inl ⟨by kernel_rfl, ?_⟩) (by assumption) ?_
  · intro wq hSw
    have _ := hSw
    go_simp
  simp only [Act.put, List.setIfInBounds_toArray, List.set_cons_succ, List.set_cons_zero]
  refine wpAnyH_takeT (i := 19) (oi := _) (v := .agg Cv.toArray) 30 rfl (by kernel_rfl) (by kernel_rfl) (by kernel_rfl) (by kernel_rfl) (fun _ _ _ h => h) (Or.inl ⟨by kernel_rfl, ?_⟩) (by assumption) ?_
  · intro wq hSw
    exact yields_midT 32 _ rfl b6 0 rfl Cv _ (range_keep HH.out.2.2.2.2 hSw) Tryd.underlying32 rfl S6.out
  simp only [Act.put, List.setIfInBounds_toArray, List.set_cons_succ, List.set_cons_zero]
  refine wpAnyH_takeT (i := 20) (oi := _) (v := .agg Cb.toArray) 31 rfl (by kernel_rfl) (by kernel_rfl) (by kernel_rfl) (by kernel_rfl) (fun _ _ _ h => h) (Or.inl ⟨by kernel_rfl, ?_⟩) (by assumption) ?_
  · intro wq hSw
    exact yields_midT 32 _ rfl b3 0 rfl Cb _ (range_keep HH.out.2.2.1 hSw) Tryd.underlying32 rfl SB.out
  simp only [Act.put, List.setIfInBounds_toArray, List.set_cons_succ, List.set_cons_zero]
  clear hHeld
  refine wpAnyH_ready (rs := [21]) (by kernel_rfl) (by simp) ?_
  refine AllReadyH.cons rfl (fun K hK => ?_) AllReadyH.nil
  go_simp
  go_wp2_with (go_at_call 7; refine (C6.out _ B4).mono ?_; rintro e y5 ⟨rfl, hb⟩)
  have B5 : Below V.heap.size V y5 := B4.trans (hb.mono B4.size)
  refine hK.out _ _ B5 (fun hHeld => ?_)
  clear hK K hb
  refine wpAnyH_takeT (i := 22) (oi := _) (v := .bool true) 33 rfl (by kernel_rfl) (by kernel_rfl) (by kernel_rfl) (by kernel_rfl) (fun _ _ _ h => h) (Or.inl ⟨by kernel_rfl, ?_⟩) (by assumption) ?_
  · intro wq hSw
    have _ := hSw
    go_simp
  simp only [Act.put, List.setIfInBounds_toArray, List.set_cons_succ, List.set_cons_zero]
  refine wpAnyH_takeT (i := 23) (oi := _) (v := .bool true) 4 rfl (by kernel_rfl) (by kernel_rfl) (by kernel_rfl) (by kernel_rfl) (fun _ _ _ h => h) (Or.inl ⟨by kernel_rfl, ?_⟩) (by assumption) ?_
  · intro wq hSw
    have _ := hSw
    go_simp
  simp only [Act.put, List.setIfInBounds_toArray, List.set_cons_succ, List.set_cons_zero]
  refine wpAnyH_done (by kernel_rfl) ?_ _
  have BF := HH.out.1.trans (B5.mono HH.out.1.size)
  clear hHeld HH B0 B1 B2 B3 B4 B5
  go_wp2
  simp [bodyPost, results, Tryd.results3, go_sem]
  exact BF
end Go.Proofs.YthbfefalgigbeaaDoor.tq

import Derived.Test.YtpgpciaafjodgaaGreatDoorXnE
/- Layer 21: Prove and ProveStorage of a nil state. -/
namespace Go.Proofs.YtpgpciaafjodgaaGreatDoor
open Go.RowKit Go.Sort
theorem one_partN {W : World} {g c : Nat} {X : List (BitVec 8)} (t : TypeId) (hc : X.length ≤ c) (h : Byo W g 0 X) : Prts (W.alloc (.cells #[.slice (some ⟨g, 0, none⟩) X.length c] t)) W.heap.size 0 [⟨some ⟨g, 0, none⟩, g, 0, c, X⟩] := by
  intro i hi
  have e : i = 0 := by simpa using hi
  subst e
  refine ⟨?_, .inr rfl, hc, h.keep ((Below.refl _ _).alloc (Nat.le_refl _) _)⟩
  rw [World.cell?_alloc_mark]
  rfl
theorem byoN {W : World} {g : Nat} {X : List (BitVec 8)} (h : W.rangeAt g 0 (byts X)) : Byo W g 0 X := fun i hi => by
  have e : (byts X)[i]? = some (.int .u8 (Y (X.getD i 0))) := by
    rw [byts, List.getElem?_map, List.getElem?_eq_getElem hi]
    simp [List.getD, hi]
  exact h i _ e
/-- The tables of keccak. -/
def KtN (W : World) : Prop := Tab W 2 turnsN ∧ Lns W 1 marksN
theorem KtN.keep {W w1 : World} (h : KtN W) (hb : Below W.heap.size W w1) : KtN w1 := ⟨h.1.keep hb, h.2.keep hb⟩
theorem KtN.alloc {W : World} (h : KtN W) (o : Obj) : KtN (W.alloc o) := ⟨h.1.alloc o, h.2.alloc o⟩
set_option maxRecDepth 100000 in
set_option maxHeartbeats 4000000 in
theorem Prove_no {X : List (BitVec 8)} (hX : X.length = 20) (w : World) (hk : KtN w) : Calls Tryz.prog 23 #[.pointer none, .agg (byts X).toArray] w fun e w' => e = .returned (.slice none 0 0) ∧ Below w.heap.size w w' := by
  have KS : Hid (∀ W g, KtN W → W.rangeAt g 0 (byts X) → ∃ Z : List Value, (Z.length = 32 ∧ Z.toArray.all (·.oneCell') = true) ∧ Calls Tryz.prog 45 #[.slice (some ⟨W.heap.size, 0, none⟩) 1 1] (W.alloc (.cells #[.slice (some ⟨g, 0, none⟩) 20 20] 48)) fun e w' => e = .returned (.agg Z.toArray) ∧ Below (W.heap.size + 1) (W.alloc (.cells #[.slice (some ⟨g, 0, none⟩) 20 20] 48)) w') := fun W g hk h => by
    have hp := one_partN (W := W) (g := g) (c := 20) (X := X) 48 (by omega) (byoN h)
    rw [hX] at hp
    have hs := sum_any (a := some ⟨W.heap.size, 0, none⟩) (bp := W.heap.size) (op := 0) (cp := 1) (PS := [⟨some ⟨g, 0, none⟩, g, 0, 20, X⟩]) (by simp [catX, hX]) (by simp) (by simp) (.inr rfl) _ hp (hk.alloc _).1 (hk.alloc _).2
    rw [World.size_alloc] at hs
    exact ⟨_, ⟨by rw [byts_len]; exact hashL_len _, one_byts _⟩, hs⟩
  have AC : Hid (∀ w, Calls Tryz.prog 42 #[.pointer none] w fun e w' => ∃ b, e = .returned (.pointer (some ⟨b, 0, none⟩)) ∧ w'.cell? ⟨b, 0, none⟩ = some .nilIface ∧ Below w.heap.size w w') := accTrie_no
  have rX : (w.alloc (.cells (byts X).toArray 24)).rangeAt w.heap.size 0 (byts X) := rangeBoxN
  obtain ⟨Z, ⟨lZ, oZ⟩, SU⟩ := KS.out (w.alloc (.cells (byts X).toArray 24)) w.heap.size (hk.alloc _) rX
  rw [World.size_alloc] at SU
  have lX : (byts X).toArray.size = 20 := by simp [byts_len, hX]
  clear KS hk rX
  generalize (byts X).toArray = A at *
  have BA : Below w.heap.size w ((w.alloc (.cells A 24)).alloc (.cells #[.slice (some ⟨w.heap.size, 0, none⟩) 20 20] 48)) := ((Below.refl _ _).alloc (Nat.le_refl _) _).alloc (by simp) _
  go_enter Tryz.func23, Tryz.ntmps23
  go_wp2_with fail
  with_reducible refine SU.mono ?_
  rintro e w1 ⟨rfl, B1⟩
  have TH := there_newN (W := w1) (b := w1.heap.size) (cs := haN.toArray) (t := 26) rfl (n := Z.toArray.size) (by rw [List.size_toArray, List.size_toArray, lZ, haN_len])
  have zh := haN_zero
  have iz : (Tryz.prog.info? 26).map (·.size) = some Z.toArray.size := by rw [List.size_toArray, lZ]; exact ha_sizeN
  generalize haN = ZZ at *
  go_wp2_with ((refine wpList_store_mid rfl 26 _ _ rfl w1.heap.size 0 Z.toArray rfl rfl TH iz oZ ?_); (refine wpList_worldN (fun U => Below w1.heap.size w1 U) (laid_inN ((Below.refl _ _).alloc (Nat.le_refl _) _) (Nat.le_refl _) (by simpa using TH)).1 ?_); rintro U BU)
  have BB : Below w.heap.size w U := (BA.trans (B1.mono (by first | omega | (simp; omega)))).trans (BU.mono (by have := B1.size; simp at this; omega))
  clear BU TH B1 BA SU iz oZ zh lX lZ
  generalize w1.heap.size = b5 at *
  clear w1
  refine wp_region_held_drew (S := fun w' => Below U.heap.size U w') (by kernel_rfl) ((Below.refl _ _).drew) (fun hHeld => ?_)
  refine wpAnyH_takeD (i := 0) (oi := _) (v := .pointer none) 9 rfl (by kernel_rfl) (by kernel_rfl) (by kernel_rfl) (by kernel_rfl) (fun _ _ _ h => h) (Or.inl ⟨by kernel_rfl, ?_⟩) (by assumption) ?_
  · intro wq hSw
    have _ := hSw
    go_simp
  simp only [Act.put, List.setIfInBounds_toArray, List.set_cons_succ, List.set_cons_zero]
  refine wpAnyH_takeD (i := 2) (oi := _) (v := .slice (some ⟨b5, 0, none⟩) 32 32) 11 rfl (by kernel_rfl) (by kernel_rfl) (by kernel_rfl) (by kernel_rfl) (fun _ _ _ h => h) (Or.inl ⟨by kernel_rfl, ?_⟩) (by assumption) ?_
  · intro wq hSw
    have _ := hSw
    go_simp
  simp only [Act.put, List.setIfInBounds_toArray, List.set_cons_succ, List.set_cons_zero]
  clear hHeld
  refine wpAnyH_ready (rs := [1]) (by kernel_rfl) (by simp) ?_
  refine AllReadyH.cons rfl (fun K hK => ?_) AllReadyH.nil
  go_simp
  go_wp2_with (go_at_call 42; refine (AC.out _).mono ?_; rintro e y0 ⟨bt, rfl, ct, hb⟩)
  have B0 : Below U.heap.size U y0 := ((Below.refl _ _).drew).trans (hb.mono (Nat.le_refl _))
  refine hK.out _ _ B0 (fun hHeld => ?_)
  clear hK K hb AC
  clear hHeld
  refine wpAnyH_ready (rs := [3]) (by kernel_rfl) (by simp) ?_
  refine AllReadyH.cons rfl (fun K hK => ?_) AllReadyH.nil
  go_simp
  go_wp2_with (go_at_call 46; refine (nodes_no _ ct).mono ?_; rintro e y1 ⟨rfl, hb⟩)
  have B1 := B0.trans (hb.mono B0.size)
  refine hK.out _ _ B1 (fun hHeld => ?_)
  clear hK K hb B0 ct
  refine wpAnyH_takeD (i := 4) (oi := _) (v := .slice none 0 0) 4 rfl (by kernel_rfl) (by kernel_rfl) (by kernel_rfl) (by kernel_rfl) (fun _ _ _ h => h) (Or.inl ⟨by kernel_rfl, ?_⟩) (by assumption) ?_
  · intro wq hSw
    have _ := hSw
    go_simp
  simp only [Act.put, List.setIfInBounds_toArray, List.set_cons_succ, List.set_cons_zero]
  refine wpAnyH_done (by kernel_rfl) ?_ _
  have B := BB.trans (B1.mono BB.size)
  clear hHeld B1 BB
  go_wp2
  simp [bodyPost, results, Tryz.results23, go_sem]
  exact B
set_option maxRecDepth 100000 in
set_option maxHeartbeats 4000000 in
theorem ProveStorage_no {A : List Value} {X : List (BitVec 8)} (hA : A.length = 20) (hX : X.length = 32) (w : World) (hk : KtN w) : Calls Tryz.prog 24 #[.pointer none, .agg A.toArray, .agg (byts X).toArray] w fun e w' => e = .returned (.slice none 0 0) ∧ Below w.heap.size w w' := by
  have KS : Hid (∀ W g, KtN W → W.rangeAt g 0 (byts X) → ∃ Z : List Value, (Z.length = 32 ∧ Z.toArray.all (·.oneCell') = true) ∧ Calls Tryz.prog 45 #[.slice (some ⟨W.heap.size, 0, none⟩) 1 1] (W.alloc (.cells #[.slice (some ⟨g, 0, none⟩) 32 32] 48)) fun e w' => e = .returned (.agg Z.toArray) ∧ Below (W.heap.size + 1) (W.alloc (.cells #[.slice (some ⟨g, 0, none⟩) 32 32] 48)) w') := fun W g hk h => by
    have hp := one_partN (W := W) (g := g) (c := 32) (X := X) 48 (by omega) (byoN h)
    rw [hX] at hp
    have hs := sum_any (a := some ⟨W.heap.size, 0, none⟩) (bp := W.heap.size) (op := 0) (cp := 1) (PS := [⟨some ⟨g, 0, none⟩, g, 0, 32, X⟩]) (by simp [catX, hX]) (by simp) (by simp) (.inr rfl) _ hp (hk.alloc _).1 (hk.alloc _).2
    rw [World.size_alloc] at hs
    exact ⟨_, ⟨by rw [byts_len]; exact hashL_len _, one_byts _⟩, hs⟩
  have AT : Hid (∀ w, Calls Tryz.prog 28 #[.pointer none, .agg A.toArray] w fun e w' => e = .returned (.agg #[.int .u64 0, .int .u64 0, .int .u64 0, .int .u64 0, .int .u64 0, .slice none 0 0, .map none]) ∧ Below w.heap.size w w') := fun w => at_no A.toArray w
  have ST : Hid (∀ w, Calls Tryz.prog 44 #[.agg #[.int .u64 0, .int .u64 0, .int .u64 0, .int .u64 0, .int .u64 0, .slice none 0 0, .map none]] w fun e w' => ∃ b, e = .returned (.pointer (some ⟨b, 0, none⟩)) ∧ w'.cell? ⟨b, 0, none⟩ = some .nilIface ∧ Below w.heap.size w w') := storTrie_no
  have iA : (Tryz.prog.info? 24).map (·.size) = some A.length := by rw [hA]; exact ad_sizeN
  have rX : ((w.alloc (.cells A.toArray 24)).alloc (.cells (byts X).toArray 26)).rangeAt (w.heap.size + 1) 0 (byts X) := by
    have h := rangeBoxN (W := w.alloc (.cells A.toArray 24)) (M := byts X) (t := 26)
    rw [World.size_alloc] at h
    exact h
  obtain ⟨Z, ⟨lZ, oZ⟩, SU⟩ := KS.out ((w.alloc (.cells A.toArray 24)).alloc (.cells (byts X).toArray 26)) (w.heap.size + 1) ((hk.alloc _).alloc _) rX
  rw [World.size_alloc, World.size_alloc] at SU
  have lX : (byts X).toArray.size = 32 := by simp [byts_len, hX]
  clear KS hk rX
  generalize (byts X).toArray = XX at *
  have rA : (((w.alloc (.cells A.toArray 24)).alloc (.cells XX 26)).alloc (.cells #[.slice (some ⟨w.heap.size + 1, 0, none⟩) 32 32] 48)).rangeAt w.heap.size 0 A := range_keepN (range_keepN rangeBoxN ((Below.refl _ _).alloc (Nat.le_refl _) _)) ((Below.refl _ _).alloc (Nat.le_refl _) _)
  have BA : Below w.heap.size w (((w.alloc (.cells A.toArray 24)).alloc (.cells XX 26)).alloc (.cells #[.slice (some ⟨w.heap.size + 1, 0, none⟩) 32 32] 48)) := by repeat (first | with_reducible exact Below.refl _ _ | with_reducible refine Below.alloc ?_ (by first | omega | (simp; done) | (simp; omega)) _)
  go_enter Tryz.func24, Tryz.ntmps24
  go_wp2_with fail
  with_reducible refine SU.mono ?_
  rintro e w1 ⟨rfl, B1⟩
  have TH := there_newN (W := w1) (b := w1.heap.size) (cs := haN.toArray) (t := 26) rfl (n := Z.toArray.size) (by rw [List.size_toArray, List.size_toArray, lZ, haN_len])
  have zh := haN_zero
  have iz : (Tryz.prog.info? 26).map (·.size) = some Z.toArray.size := by rw [List.size_toArray, lZ]; exact ha_sizeN
  generalize haN = ZZ at *
  go_wp2_with ((refine wpList_store_mid rfl 26 _ _ rfl w1.heap.size 0 Z.toArray rfl rfl TH iz oZ ?_); (refine wpList_worldN (fun U => Below w1.heap.size w1 U) (laid_inN ((Below.refl _ _).alloc (Nat.le_refl _) _) (Nat.le_refl _) (by simpa using TH)).1 ?_); rintro U BU)
  have BB : Below w.heap.size w U := (BA.trans (B1.mono (by first | omega | (simp; omega)))).trans (BU.mono (by have := B1.size; simp at this; omega))
  have rA2 : U.rangeAt w.heap.size 0 A := by
    have hw : w.heap.size < w1.heap.size := by have := B1.size; simp at this; omega
    intro j v hv
    rw [BU.cell (p := ⟨w.heap.size, 0 + j, none⟩) hw, B1.cell (p := ⟨w.heap.size, 0 + j, none⟩) (by simp; omega)]
    exact rA j v hv
  clear BU TH B1 BA SU iz oZ zh lX lZ rA
  generalize w1.heap.size = b7 at *
  clear w1
  refine wp_region_held_drew (S := fun w' => Below U.heap.size U w') (by kernel_rfl) ((Below.refl _ _).drew) (fun hHeld => ?_)
  refine wpAnyH_takeD (i := 0) (oi := _) (v := .pointer none) 11 rfl (by kernel_rfl) (by kernel_rfl) (by kernel_rfl) (by kernel_rfl) (fun _ _ _ h => h) (Or.inl ⟨by kernel_rfl, ?_⟩) (by assumption) ?_
  · intro wq hSw
    have _ := hSw
    go_simp
  simp only [Act.put, List.setIfInBounds_toArray, List.set_cons_succ, List.set_cons_zero]
  refine wpAnyH_takeD (i := 1) (oi := _) (v := .agg A.toArray) 12 rfl (by kernel_rfl) (by kernel_rfl) (by kernel_rfl) (by kernel_rfl) (fun _ _ _ h => h) (Or.inl ⟨by kernel_rfl, ?_⟩) (by assumption) ?_
  · intro wq hSw
    exact yields_midN 24 _ rfl w.heap.size 0 rfl A _ (range_keepN rA2 hSw) Tryz.underlying24 rfl iA
  simp only [Act.put, List.setIfInBounds_toArray, List.set_cons_succ, List.set_cons_zero]
  refine wpAnyH_takeD (i := 4) (oi := _) (v := .slice (some ⟨b7, 0, none⟩) 32 32) 15 rfl (by kernel_rfl) (by kernel_rfl) (by kernel_rfl) (by kernel_rfl) (fun _ _ _ h => h) (Or.inl ⟨by kernel_rfl, ?_⟩) (by assumption) ?_
  · intro wq hSw
    have _ := hSw
    go_simp
  simp only [Act.put, List.setIfInBounds_toArray, List.set_cons_succ, List.set_cons_zero]
  clear hHeld
  refine wpAnyH_ready (rs := [2]) (by kernel_rfl) (by simp) ?_
  refine AllReadyH.cons rfl (fun K hK => ?_) AllReadyH.nil
  go_simp
  go_wp2_with (go_at_call 28; refine (AT.out _).mono ?_; rintro e y0 ⟨rfl, hb⟩)
  have B0 : Below U.heap.size U y0 := ((Below.refl _ _).drew).trans (hb.mono (Nat.le_refl _))
  refine hK.out _ _ B0 (fun hHeld => ?_)
  clear hK K hb AT
  clear hHeld
  refine wpAnyH_ready (rs := [3]) (by kernel_rfl) (by simp) ?_
  refine AllReadyH.cons rfl (fun K hK => ?_) AllReadyH.nil
  go_simp
  go_wp2_with (go_at_call 44; refine (ST.out _).mono ?_; rintro e y1 ⟨bt, rfl, ct, hb⟩)
  have B1 := B0.trans (hb.mono B0.size)
  refine hK.out _ _ B1 (fun hHeld => ?_)
  clear hK K hb ST B0
  clear hHeld
  refine wpAnyH_ready (rs := [5]) (by kernel_rfl) (by simp) ?_
  refine AllReadyH.cons rfl (fun K hK => ?_) AllReadyH.nil
  go_simp
  go_wp2_with (go_at_call 46; refine (nodes_no _ ct).mono ?_; rintro e y2 ⟨rfl, hb⟩)
  have B2 := B1.trans (hb.mono B1.size)
  refine hK.out _ _ B2 (fun hHeld => ?_)
  clear hK K hb B1 ct
  refine wpAnyH_takeD (i := 6) (oi := _) (v := .slice none 0 0) 6 rfl (by kernel_rfl) (by kernel_rfl) (by kernel_rfl) (by kernel_rfl) (fun _ _ _ h => h) (Or.inl ⟨by kernel_rfl, ?_⟩) (by assumption) ?_
  · intro wq hSw
    have _ := hSw
    go_simp
  simp only [Act.put, List.setIfInBounds_toArray, List.set_cons_succ, List.set_cons_zero]
  refine wpAnyH_done (by kernel_rfl) ?_ _
  have B := BB.trans (B2.mono BB.size)
  clear hHeld B2 BB
  go_wp2
  simp [bodyPost, results, Tryz.results24, go_sem]
  exact B
end Go.Proofs.YtpgpciaafjodgaaGreatDoor

import Derived.Test.YtaefmdofchjofaaXsC
import Derived.Test.YtaefmdofchjofaaXsE
/- Layer 21: Item of the document. -/
namespace Go.Proofs.Ytaefmdofchjofaa
open Go.RowKit Go.Sort
set_option maxRecDepth 100000 in
set_option maxHeartbeats 4000000 in
theorem encoded_any {t : Tr} {d q : Value} (hw : wtT t < 4194304) (w : World) (h : It w t d q) :
    Calls Try.prog 22 #[.agg #[.bool t.l, d, q]] w fun e w' => ∃ v, e = .returned v ∧ OwnB w.heap.size w' v (encZ t) ∧ Below w.heap.size w w' := by
  have C : Hid (∀ W, Below w.heap.size w W → Calls Try.prog 41 #[.agg #[.bool t.l, d, q]] W fun e w' => ∃ v', e = .returned (.tuple #[v', .int .i64 (errT t)]) ∧ OwnB W.heap.size w' v' (encZ t) ∧ Below W.heap.size W w') := fun W B => rEncode_any hw W (It.keep B t h)
  generalize errT t = E at *
  generalize encZ t = X at *
  obtain ⟨da, dn, dc, qa, qn, qc, rfl, rfl⟩ := h.slices
  generalize t.l = l at *
  clear h hw
  go_enter Try.func22, Try.ntmps22
  go_wp2_with fail
  have B0 : Below w.heap.size w (w.alloc (.cells #[.bool l, .slice da dn dc, .slice qa qn qc] 48)) := (Below.refl _ _).alloc (Nat.le_refl _) _
  with_reducible refine (C.out _ B0).mono ?_
  rintro e w1 ⟨v, rfl, hO, hb⟩
  have B1 := B0.trans (hb.mono B0.size)
  have O1 := hO.base (B' := w.heap.size) B0.size
  clear hO hb B0 C
  go_wp2
  simp [bodyPost, results, Try.results22, go_sem]
  exact ⟨O1, B1⟩
set_option maxRecDepth 100000 in
set_option maxHeartbeats 8000000 in
theorem ritem21_any {n b : Int} {S C : List Int} (hn : Word n) (hS : S.length = 32) (hC : C.length = 32) (w : World) :
    Calls Try.prog 5 #[.agg (acM n b (u8L S) (u8L C)).toArray] w fun e w' => ∃ v, e = .returned (.tuple #[v, .int .i64 0]) ∧ OwnB w.heap.size w' v (acX n b S C) ∧ Below w.heap.size w w' := by
  have C0 : Hid (∀ W, Calls Try.prog 19 #[.int .u64 n] W fun e w' => ∃ d q, e = .returned (.agg #[.bool false, d, q]) ∧ It w' (.mk false (stripL (putL n)) []) d q ∧ Below W.heap.size W w') := fun W => (rSmall_any hn W).mono fun e w' ⟨d, q, h1, h2, h3⟩ => ⟨d, q, h1, Ot.it _ h2, h3⟩
  have C1 : Hid (∀ W, Calls Try.prog 20 #[.agg #[.int .u64 (l0 b), .int .u64 (l1 b), .int .u64 (l2 b), .int .u64 (l3 b)]] W fun e w' => ∃ d q, e = .returned (.agg #[.bool false, d, q]) ∧ It w' (.mk false (stripL (putL b)) []) d q ∧ Below W.heap.size W w') := fun W => (rNumber_any W).mono fun e w' ⟨d, q, h1, h2, h3⟩ => ⟨d, q, h1, Ot.it _ h2, h3⟩
  have C2 : Hid (∀ W g o (X : List Int), X.length = 32 → Bz W g o X → Calls Try.prog 21 #[.slice (some ⟨g, o, none⟩) 32 32] W fun e w' => ∃ d q, e = .returned (.agg #[.bool false, d, q]) ∧ It w' (.mk false X []) d q ∧ Below W.heap.size W w') := fun W g o X hX h => (rText_any hX.symm (by omega) (.inr rfl) (fun x => by cases x) W h).mono fun e w' ⟨d, q, h1, h2, h3⟩ => ⟨d, q, h1, Ot.it _ h2, h3⟩
  have C3 : Hid (∀ W g, Its W g 0 [.mk false (stripL (putL n)) [], .mk false (stripL (putL b)) [], .mk false S [], .mk false C []] → Calls Try.prog 23 #[.slice (some ⟨g, 0, none⟩) 4 4] W fun e w' => ∃ d q, e = .returned (.agg #[.bool true, d, q]) ∧ It w' (acT n b S C) d q ∧ Below W.heap.size W w') := fun W g h => (rList_any (ts := [.mk false (stripL (putL n)) [], .mk false (stripL (putL b)) [], .mk false S [], .mk false C []]) (by have h := acT_wt (n := n) (b := b) hS hC; unfold acT at h; rw [wtT] at h; omega) (.inr rfl) W h).mono fun e w' ⟨d, q, h1, h2, h3⟩ => ⟨d, q, h1, Ot.it _ h2, h3⟩
  have C4 : Hid (∀ W d q, It W (acT n b S C) d q → Calls Try.prog 22 #[.agg #[.bool true, d, q]] W fun e w' => ∃ v, e = .returned v ∧ OwnB W.heap.size w' v (acX n b S C) ∧ Below W.heap.size W w') := fun W d q h => by
    refine (encoded_any (by have := acT_wt (n := n) (b := b) hS hC; omega) W h).mono ?_
    rintro e w' ⟨v, rfl, h2, h3⟩
    rw [encZ_ac] at *
    exact ⟨v, rfl, h2, h3⟩
  generalize acX n b S C = X at *
  have AMH : Hid (∀ W, W.rangeAt w.heap.size 0 (acM n b (u8L S) (u8L C)) → Acb W w.heap.size n b S C) := fun W h => Acb.of hS h
  have HL : Hid (S.length = 32 ∧ C.length = 32) := ⟨hS, hC⟩
  generalize acM n b (u8L S) (u8L C) = M at *
  clear hS hC hn
  go_enter Try.func5, Try.ntmps5
  go_wp2_with fail
  refine wp_world (fun W => Below w.heap.size w W ∧ Acb W w.heap.size n b S C) ⟨(Below.refl _ _).alloc (Nat.le_refl _) _, AMH.out _ rangeBox⟩ ?_
  rintro W ⟨B, hU⟩
  have HH : Hid (Below w.heap.size w W ∧ Acb W w.heap.size n b S C) := ⟨B, hU⟩
  clear B hU AMH
  refine wp_region_held_drew (S := fun w' => Below W.heap.size W w') (by kernel_rfl) ((Below.refl _ _).drew) (fun hHeld => ?_)
  refine wpAnyH_takeD (i := 0) (oi := _) (v := .pointer (some ⟨w.heap.size, 0, none⟩)) 5 rfl (by kernel_rfl) (by kernel_rfl) (by kernel_rfl) (by kernel_rfl) (fun _ _ _ h => h) (Or.inl ⟨by kernel_rfl, ?_⟩) (by assumption) ?_
  · intro wq hSw
    have _ := hSw
    go_simp
  simp only [Act.put, List.setIfInBounds_toArray, List.set_cons_succ, List.set_cons_zero]
  refine wpAnyH_takeD (i := 1) (oi := _) (v := .int .u64 n) 6 rfl (by kernel_rfl) (by kernel_rfl) (by kernel_rfl) (by kernel_rfl) (fun _ _ _ h => h) (Or.inl ⟨by kernel_rfl, ?_⟩) (by assumption) ?_
  · intro wq hSw
    have gg := (HH.out.2.keep hSw).non
    go_simp
  simp only [Act.put, List.setIfInBounds_toArray, List.set_cons_succ, List.set_cons_zero]
  refine wpAnyH_takeD (i := 3) (oi := _) (v := .pointer (some ⟨w.heap.size, 1, none⟩)) 8 rfl (by kernel_rfl) (by kernel_rfl) (by kernel_rfl) (by kernel_rfl) (fun _ _ _ h => h) (Or.inl ⟨by kernel_rfl, ?_⟩) (by assumption) ?_
  · intro wq hSw
    have _ := hSw
    go_simp
  simp only [Act.put, List.setIfInBounds_toArray, List.set_cons_succ, List.set_cons_zero]
  refine wpAnyH_takeD (i := 4) (oi := _) (v := .agg #[.int .u64 (l0 b), .int .u64 (l1 b), .int .u64 (l2 b), .int .u64 (l3 b)]) 9 rfl (by kernel_rfl) (by kernel_rfl) (by kernel_rfl) (by kernel_rfl) (fun _ _ _ h => h) (Or.inl ⟨by kernel_rfl, ?_⟩) (by assumption) ?_
  · intro wq hSw
    have gg := (HH.out.2.keep hSw).num
    go_simp
  simp only [Act.put, List.setIfInBounds_toArray, List.set_cons_succ, List.set_cons_zero]
  refine wpAnyH_takeD (i := 6) (oi := _) (v := .pointer (some ⟨w.heap.size, 5, none⟩)) 11 rfl (by kernel_rfl) (by kernel_rfl) (by kernel_rfl) (by kernel_rfl) (fun _ _ _ h => h) (Or.inl ⟨by kernel_rfl, ?_⟩) (by assumption) ?_
  · intro wq hSw
    have _ := hSw
    go_simp
  simp only [Act.put, List.setIfInBounds_toArray, List.set_cons_succ, List.set_cons_zero]
  refine wpAnyH_takeD (i := 7) (oi := _) (v := .slice (some ⟨w.heap.size, 5, none⟩) 32 32) 12 rfl (by kernel_rfl) (by kernel_rfl) (by kernel_rfl) (by kernel_rfl) (fun _ _ _ h => h) (Or.inl ⟨by kernel_rfl, ?_⟩) (by assumption) ?_
  · intro wq hSw
    have _ := hSw
    go_simp
  simp only [Act.put, List.setIfInBounds_toArray, List.set_cons_succ, List.set_cons_zero]
  refine wpAnyH_takeD (i := 9) (oi := _) (v := .pointer (some ⟨w.heap.size, 37, none⟩)) 14 rfl (by kernel_rfl) (by kernel_rfl) (by kernel_rfl) (by kernel_rfl) (fun _ _ _ h => h) (Or.inl ⟨by kernel_rfl, ?_⟩) (by assumption) ?_
  · intro wq hSw
    have _ := hSw
    go_simp
  simp only [Act.put, List.setIfInBounds_toArray, List.set_cons_succ, List.set_cons_zero]
  refine wpAnyH_takeD (i := 10) (oi := _) (v := .slice (some ⟨w.heap.size, 37, none⟩) 32 32) 15 rfl (by kernel_rfl) (by kernel_rfl) (by kernel_rfl) (by kernel_rfl) (fun _ _ _ h => h) (Or.inl ⟨by kernel_rfl, ?_⟩) (by assumption) ?_
  · intro wq hSw
    have _ := hSw
    go_simp
  simp only [Act.put, List.setIfInBounds_toArray, List.set_cons_succ, List.set_cons_zero]
  clear hHeld
  refine wpAnyH_ready (rs := [2]) (by kernel_rfl) (by simp) ?_
  refine AllReadyH.cons rfl (fun K hK => ?_) AllReadyH.nil
  go_simp
  go_wp2_with (go_at_call 19; refine (C0.out _).mono ?_; rintro e y0 ⟨d0, q0, rfl, hO0, hb⟩)
  have B0 : Below W.heap.size W y0 := ((Below.refl _ _).drew).trans (hb.mono (Nat.le_refl _))
  refine hK.out _ _ B0 (fun hHeld => ?_)
  clear hK K hb C0
  clear hHeld
  refine wpAnyH_ready (rs := [5]) (by kernel_rfl) (by simp) ?_
  refine AllReadyH.cons rfl (fun K hK => ?_) AllReadyH.nil
  go_simp
  go_wp2_with (go_at_call 20; refine (C1.out _).mono ?_; rintro e y1 ⟨d1, q1, rfl, hO1, hb⟩)
  have B1 := B0.trans (hb.mono B0.size)
  replace hO0 := It.keep hb _ hO0
  refine hK.out _ _ B1 (fun hHeld => ?_)
  clear hK K hb C1 B0 y0
  clear hHeld
  refine wpAnyH_ready (rs := [8]) (by kernel_rfl) (by simp) ?_
  refine AllReadyH.cons rfl (fun K hK => ?_) AllReadyH.nil
  go_simp
  go_wp2_with (go_at_call 21; refine (C2.out _ _ _ _ HL.out.1 (HH.out.2.keep B1).sto).mono ?_; rintro e y2 ⟨d2, q2, rfl, hO2, hb⟩)
  have B2 := B1.trans (hb.mono B1.size)
  replace hO0 := It.keep hb _ hO0
  replace hO1 := It.keep hb _ hO1
  refine hK.out _ _ B2 (fun hHeld => ?_)
  clear hK K hb B1 y1
  clear hHeld
  refine wpAnyH_ready (rs := [11]) (by kernel_rfl) (by simp) ?_
  refine AllReadyH.cons rfl (fun K hK => ?_) AllReadyH.nil
  go_simp
  go_wp2_with (go_at_call 21; refine (C2.out _ _ _ _ HL.out.2 (HH.out.2.keep B2).cod).mono ?_; rintro e y3 ⟨d3, q3, rfl, hO3, hb⟩)
  have B3 := B2.trans (hb.mono B2.size)
  replace hO0 := It.keep hb _ hO0
  replace hO1 := It.keep hb _ hO1
  replace hO2 := It.keep hb _ hO2
  refine hK.out _ _ B3 (fun hHeld => ?_)
  clear hK K hb B2 y2 C2
  clear hHeld
  refine wpAnyH_ready (rs := [12]) (by kernel_rfl) (by simp) ?_
  refine AllReadyH.cons rfl (fun K hK => ?_) AllReadyH.nil
  go_simp
  go_wp2_with fail
  refine kworldS (fun U => Below W.heap.size W U ∧ Its U y3.heap.size 0 [.mk false (stripL (putL n)) [], .mk false (stripL (putL b)) [], .mk false S [], .mk false C []]) ⟨B3.alloc B3.size _, its4 hO0 hO1 hO2 hO3⟩ ?_
  rintro U ⟨BU, hI⟩
  refine hK.out _ _ BU (fun hHeld => ?_)
  clear hK K B3 hO0 hO1 hO2 hO3
  generalize y3.heap.size = bi at *
  clear y3
  refine wpAnyH_takeD (i := 13) (oi := _) (v := .slice (some ⟨bi, 0, none⟩) 4 4) 4 rfl (by kernel_rfl) (by kernel_rfl) (by kernel_rfl) (by kernel_rfl) (fun _ _ _ h => h) (Or.inl ⟨by kernel_rfl, ?_⟩) (by assumption) ?_
  · intro wq hSw
    have _ := hSw
    go_simp
  simp only [Act.put, List.setIfInBounds_toArray, List.set_cons_succ, List.set_cons_zero]
  refine wpAnyH_done (by kernel_rfl) ?_ _
  clear hHeld
  go_wp2_with fail
  refine (C3.out _ _ hI).mono ?_
  rintro e y4 ⟨d4, q4, rfl, hO4, hb⟩
  have B4 := BU.trans (hb.mono BU.size)
  clear hb C3 BU hI
  go_wp2_with fail
  refine (C4.out _ _ _ hO4).mono ?_
  rintro e y5 ⟨v, rfl, hP, hb⟩
  have B5 := B4.trans (hb.mono B4.size)
  have hP' := hP.base (B' := w.heap.size) (Nat.le_trans HH.out.1.size B4.size)
  clear hb C4 B4 hO4 hP
  have B := HH.out.1.trans (B5.mono HH.out.1.size)
  clear HH B5
  go_wp2
  simp [bodyPost, results, Try.results5, go_sem]
  exact ⟨hP', B⟩
end Go.Proofs.Ytaefmdofchjofaa

/- Layer 21: Parse of both sides, of any bytes. -/
namespace Go.Proofs.Ytaefmdofchjofaa
open Go.RowKit Go.Sort
theorem pa_four {A : List Int} {X : List Int} {t0 t1 t2 t3 : Tr} (hl : A.length ≤ 16777216) (hd : decP A = (0, .mk true X [t0, t1, t2, t3])) :
    paM A = (open Classical in if (nuE t0 8 = 0 ∧ nuE t1 32 = 0 ∧ fiE t2 = 0 ∧ fiE t3 = 0) then acM (l0 (nuV t0 8)) (nuV t1 32) (u8L t2.X) (u8L t3.X) else acZ) ∧ paE A = (open Classical in if (nuE t0 8 = 0 ∧ nuE t1 32 = 0 ∧ fiE t2 = 0 ∧ fiE t3 = 0) then 0 else 214) := by
  have e0 : tI A 0 = t0 := by unfold tI; rw [hd]; rfl
  have e1 : tI A 1 = t1 := by unfold tI; rw [hd]; rfl
  have e2 : tI A 2 = t2 := by unfold tI; rw [hd]; rfl
  have e3 : tI A 3 = t3 := by unfold tI; rw [hd]; rfl
  by_cases h : nuE t0 8 = 0 ∧ nuE t1 32 = 0 ∧ fiE t2 = 0 ∧ fiE t3 = 0
  · have k : paOk A := ⟨hl, by rw [hd], by rw [hd]; rfl, by rw [hd]; rfl, by rw [e0]; exact h.1, by rw [e1]; exact h.2.1, by rw [e2]; exact h.2.2.1, by rw [e3]; exact h.2.2.2⟩
    rw [(paE_ok k).1, (paE_ok k).2, e0, e1, e2, e3, if_pos h, if_pos h]
    exact ⟨rfl, rfl⟩
  · have k : ¬ paOk A := fun k => h ⟨by rw [← e0]; exact k.2.2.2.2.1, by rw [← e1]; exact k.2.2.2.2.2.1, by rw [← e2]; exact k.2.2.2.2.2.2.1, by rw [← e3]; exact k.2.2.2.2.2.2.2⟩
    have hn : ¬ 16777216 < A.length := by omega
    rw [(paE_no hn k).1, (paE_no hn k).2, if_neg h, if_neg h]
    exact ⟨rfl, rfl⟩
/-- Parse of the program, of any bytes. -/
theorem parse_any {A : List Int} {a : Option Addr} {b o c : Nat} (hA : Byts A) (hc : A.length ≤ c) (hnc : a = none → c = 0) (ha : Az a b o A) (w : World) (hz : Bz w b o A) :
    Calls Try.prog 7 #[.slice a A.length c] w fun e w' => e = .returned (.tuple #[.agg (paM A).toArray, .int .i64 (paE A)]) ∧ Below w.heap.size w w' := by
  by_cases h1 : 16777216 < A.length
  · rw [(paE_far h1).1, (paE_far h1).2]; exact parse_far h1 w
  · by_cases h2 : 110 < A.length
    · have k : ¬ paOk A := fun k => by have := paOk_short hA k; omega
      rw [(paE_no h1 k).1, (paE_no h1 k).2]; exact parse_wide h1 h2 w
    · obtain ⟨de, ⟨l, X, ts⟩, hd⟩ : ∃ de t, decP A = (de, t) := ⟨_, _, rfl⟩
      by_cases h3 : de = 0 ∧ ts.length = 4
      · obtain ⟨rfl, h4⟩ := h3
        obtain ⟨t0, t1, t2, t3, rfl⟩ := quad_of h4
        have hl := four_list hA (by rw [hd]) (by rw [hd]; rfl)
        rw [hd] at hl
        obtain rfl : l = true := hl
        rw [(pa_four (by omega) hd).1, (pa_four (by omega) hd).2]
        exact parse_four hA hc hnc ha w hz (by omega) hd
      · have k : ¬ paOk A := fun k => h3 ⟨by have := k.2.1; rw [hd] at this; exact this, by have := k.2.2.2.1; rw [hd] at this; exact this⟩
        rw [(paE_no h1 k).1, (paE_no h1 k).2]
        exact parse_bad hA hc hnc ha w hz (by omega) hd h3
/-- The document's, of any bytes. -/
theorem rparse21_any {A : List Int} {a : Option Addr} {b o c : Nat} (hA : Byts A) (hc : A.length ≤ c) (hnc : a = none → c = 0) (ha : Az a b o A) (w : World) (hz : Bz w b o A) :
    Calls Try.prog 8 #[.slice a A.length c] w fun e w' => e = .returned (.tuple #[.agg (paM A).toArray, .int .i64 (paE A)]) ∧ Below w.heap.size w w' := by
  by_cases h1 : 16777216 < A.length
  · rw [(paE_far h1).1, (paE_far h1).2]; exact rparse21_far h1 w
  · obtain ⟨de, ⟨l, X, ts⟩, hd⟩ : ∃ de t, decP A = (de, t) := ⟨_, _, rfl⟩
    by_cases h3 : de = 0 ∧ l = true ∧ ts.length = 4
    · obtain ⟨rfl, rfl, h4⟩ := h3
      obtain ⟨t0, t1, t2, t3, rfl⟩ := quad_of h4
      rw [(pa_four (by omega) hd).1, (pa_four (by omega) hd).2]
      exact rparse21_four hA hc hnc ha w hz (by omega) hd
    · have k : ¬ paOk A := fun k => h3 ⟨by have := k.2.1; rw [hd] at this; exact this, by have := k.2.2.1; rw [hd] at this; exact this, by have := k.2.2.2.1; rw [hd] at this; exact this⟩
      rw [(paE_no h1 k).1, (paE_no h1 k).2]
      exact rparse21_bad hA hc hnc ha w hz (by omega) hd h3
end Go.Proofs.Ytaefmdofchjofaa

import Derived.Test.YtkbmonlbgnnjlaaDoorAdKc
import Derived.Test.YtkbmonlbgnnjlaaDoorAdLast
import Derived.Deep.RegionHeld
import Derived.OrdersHeld
/- Layer 14: AuthDigest of the program. -/
namespace Go.Proofs.YtkbmonlbgnnjlaaDoor
open Go.RowKit Go.Sort
theorem kworldX {K : Act → World → Prop} {a : Act} {w : World} (I : World → Prop) (h : I w) (k : ∀ V, I V → K a V) : K a w := k w h
theorem Bts.ptX {W : World} {g : Nat} {L : List Int} (h : Bts W g L) (hy : Bys L) : PtC.ok W ⟨some ⟨g, 0, none⟩, g, 0, L.length, L⟩ := ⟨.inr rfl, Nat.le_refl _, hy, fun i hi => by show W.cell? ⟨g, 0 + i, none⟩ = _; rw [Nat.zero_add]; exact h.1 i hi⟩
theorem bys5 : Bys [5] := fun x hx => by simp at hx; omega
theorem allC_two (p q : PtC) : allC [p, q] = p.X ++ q.X := by simp [allC]
theorem ptsC_two {W : World} {p q : PtC} {v1 v2 : Value} {g : Nat} {ty : TypeId} (e : g = W.heap.size) (e1 : v1 = p.val) (e2 : v2 = q.val) (h1 : p.ok W) (h2 : q.ok W) : PtsC (W.alloc (.cells #[v1, v2] ty)) g 0 [p, q] := by
  subst e; subst e1; subst e2
  have B : Below W.heap.size W (W.alloc (.cells #[p.val, q.val] ty)) := (Below.refl _ _).alloc (Nat.le_refl _) _
  rw [PtsC, PtsC, PtsC]
  exact ⟨⟨by simp, h1.keep B⟩, ⟨by simp, h2.keep B⟩, trivial⟩
set_option maxRecDepth 100000 in
set_option maxHeartbeats 8000000 in
theorem aut_any {c : Int} {A : List Int} {n p r s : Int} {D : List Value} (hc : Num c) (hA : A.length = 20) (hB : Bys A) (hn : Word n) (eD : Hid (D = (kecC (5 :: autX c A n)).map (Value.int .u8))) (w : World) (hk : KtC w) :
    Calls Tryd.prog 4 #[.agg (auM c A n p r s).toArray] w fun e w' => e = .returned (.agg D.toArray) ∧ Below w.heap.size w w' := by
  have AL : Hid (A.length = 20 ∧ Bys A) := ⟨hA, hB⟩
  have C0 : Hid (∀ W, Calls Tryd.prog 8 #[.agg #[.int .u64 (l0 c), .int .u64 (l1 c), .int .u64 (l2 c), .int .u64 (l3 c)]] W fun e w' => ∃ d q, e = .returned (.agg #[.bool false, d, q]) ∧ It w' (.mk false (stripL (putL c)) []) d q ∧ Below W.heap.size W w') := fun W => (number_any hc W).mono fun e w' ⟨d, q, h1, h2, h3⟩ => ⟨d, q, h1, Ot.it _ h2, h3⟩
  have C1 : Hid (∀ W g, Bz W g 4 A → Calls Tryd.prog 9 #[.slice (some ⟨g, 4, none⟩) 20 20] W fun e w' => ∃ d q, e = .returned (.agg #[.bool false, d, q]) ∧ It w' (.mk false A []) d q ∧ Below W.heap.size W w') := fun W g h => (text_any hA.symm (by omega) (.inr rfl) W h).mono fun e w' ⟨d, q, h1, h2, h3⟩ => ⟨d, q, h1, Ot.it _ h2, h3⟩
  have C2 : Hid (∀ W, Calls Tryd.prog 10 #[.int .u64 n] W fun e w' => ∃ d q, e = .returned (.agg #[.bool false, d, q]) ∧ It w' (.mk false (stripL (putL n)) []) d q ∧ Below W.heap.size W w') := fun W => (small_any hn W).mono fun e w' ⟨d, q, h1, h2, h3⟩ => ⟨d, q, h1, Ot.it _ h2, h3⟩
  have C3 : Hid (∀ W g, Its W g 0 [.mk false (stripL (putL c)) [], .mk false A [], .mk false (stripL (putL n)) []] → Calls Tryd.prog 7 #[.slice (some ⟨g, 0, none⟩) 3 3] W fun e w' => ∃ d q, e = .returned (.agg #[.bool true, d, q]) ∧ It w' (autT (stripL (putL c)) A (stripL (putL n))) d q ∧ Below W.heap.size W w') := fun W g h => (list_any (ts := [.mk false (stripL (putL c)) [], .mk false A [], .mk false (stripL (putL n)) []]) (by have h := autX_len (c := c) (n := n) hA; rw [autT, wtT] at h; omega) (.inr rfl) W h).mono fun e w' ⟨d, q, h1, h2, h3⟩ => ⟨d, q, h1, Ot.it _ h2, h3⟩
  have C4 : Hid (∀ W d q, It W (autT (stripL (putL c)) A (stripL (putL n))) d q → Calls Tryd.prog 6 #[.agg #[.bool true, d, q]] W fun e w' => ∃ a g k, e = .returned (.tuple #[.slice a (autX c A n).length k, .int .i64 0]) ∧ (PtC.ok w' ⟨a, g, 0, k, autX c A n⟩ ∧ (a = none → k = 0)) ∧ Below W.heap.size W w') := fun W d q h => by
    refine (Encode_any (by have := autX_len (c := c) (n := n) hA; omega) W h).mono ?_
    rintro e w' ⟨v, rfl, h2, h3⟩
    rw [encZ_aut, autT_err] at *
    obtain ⟨a, g, k, rfl, h5, h6, h7, _, _, h8⟩ := h2.lies
    exact ⟨a, g, k, rfl, ⟨⟨h6, h5, autX_by hA hB, h7⟩, h8⟩, h3⟩
  have XL : Hid ((autX c A n).length ≤ 1000) := autX_wt hA
  generalize autX c A n = X at *
  have AM : ∀ W, W.rangeAt w.heap.size 0 (auM c A n p r s) → Au W w.heap.size c A n := fun W h => Au.of hA h
  have AMH : Hid (∀ W, W.rangeAt w.heap.size 0 (auM c A n p r s) → Au W w.heap.size c A n) := AM
  clear AM
  have ML : Hid ((auM c A n p r s).length = 34) := auM_len hA
  generalize auM c A n p r s = M at *
  go_enter Tryd.func4, Tryd.ntmps4
  go_wp2_with fail
  refine wp_world (fun W => Below w.heap.size w W ∧ KtC W ∧ Bts W (w.heap.size + 1) (List.replicate 32 0) ∧ Au W w.heap.size c A n) ⟨by repeat (first | with_reducible exact Below.refl _ _ | with_reducible refine Below.alloc ?_ (by first | omega | (simp; done) | (simp; omega)) _), (hk.alloc _).alloc _, Bts.new (List.replicate 32 0) _ (by simp), (AMH.out _ rangeBox).keep ((Below.refl _ _).alloc (Nat.le_refl _) _)⟩ ?_
  rintro W ⟨B, hT, hR, hU⟩
  have o1 : w.heap.size ≤ w.heap.size + 1 := by omega
  generalize w.heap.size + 1 = br at *
  have HH : Hid (Below w.heap.size w W ∧ KtC W ∧ Bts W br (List.replicate 32 0) ∧ Au W w.heap.size c A n) := ⟨B, hT, hR, hU⟩
  clear B hT hR hU hk AMH ML
  refine wp_region_held_drew (S := fun w' => Below W.heap.size W w') (by kernel_rfl) ((Below.refl _ _).drew) (fun hHeld => ?_)
  refine wpAnyH_takeD (i := 0) (oi := _) (v := .pointer (some ⟨w.heap.size, 0, none⟩)) 6 rfl (by kernel_rfl) (by kernel_rfl) (by kernel_rfl) (by kernel_rfl) (fun _ _ _ h => h) (Or.inl ⟨by kernel_rfl, ?_⟩) (by assumption) ?_
  · intro wq hSw
    have _ := hSw
    go_simp
  simp only [Act.put, List.setIfInBounds_toArray, List.set_cons_succ, List.set_cons_zero]
  refine wpAnyH_takeD (i := 1) (oi := _) (v := .agg #[.int .u64 (l0 c), .int .u64 (l1 c), .int .u64 (l2 c), .int .u64 (l3 c)]) 7 rfl (by kernel_rfl) (by kernel_rfl) (by kernel_rfl) (by kernel_rfl) (fun _ _ _ h => h) (Or.inl ⟨by kernel_rfl, ?_⟩) (by assumption) ?_
  · intro wq hSw
    have gg := (HH.out.2.2.2.keep hSw).num
    go_simp
  simp only [Act.put, List.setIfInBounds_toArray, List.set_cons_succ, List.set_cons_zero]
  refine wpAnyH_takeD (i := 3) (oi := _) (v := .pointer (some ⟨w.heap.size, 4, none⟩)) 9 rfl (by kernel_rfl) (by kernel_rfl) (by kernel_rfl) (by kernel_rfl) (fun _ _ _ h => h) (Or.inl ⟨by kernel_rfl, ?_⟩) (by assumption) ?_
  · intro wq hSw
    have _ := hSw
    go_simp
  simp only [Act.put, List.setIfInBounds_toArray, List.set_cons_succ, List.set_cons_zero]
  refine wpAnyH_takeD (i := 4) (oi := _) (v := .slice (some ⟨w.heap.size, 4, none⟩) 20 20) 10 rfl (by kernel_rfl) (by kernel_rfl) (by kernel_rfl) (by kernel_rfl) (fun _ _ _ h => h) (Or.inl ⟨by kernel_rfl, ?_⟩) (by assumption) ?_
  · intro wq hSw
    have _ := hSw
    go_simp
  simp only [Act.put, List.setIfInBounds_toArray, List.set_cons_succ, List.set_cons_zero]
  refine wpAnyH_takeD (i := 6) (oi := _) (v := .pointer (some ⟨w.heap.size, 24, none⟩)) 12 rfl (by kernel_rfl) (by kernel_rfl) (by kernel_rfl) (by kernel_rfl) (fun _ _ _ h => h) (Or.inl ⟨by kernel_rfl, ?_⟩) (by assumption) ?_
  · intro wq hSw
    have _ := hSw
    go_simp
  simp only [Act.put, List.setIfInBounds_toArray, List.set_cons_succ, List.set_cons_zero]
  refine wpAnyH_takeD (i := 7) (oi := _) (v := .int .u64 n) 13 rfl (by kernel_rfl) (by kernel_rfl) (by kernel_rfl) (by kernel_rfl) (fun _ _ _ h => h) (Or.inl ⟨by kernel_rfl, ?_⟩) (by assumption) ?_
  · intro wq hSw
    have gg := (HH.out.2.2.2.keep hSw).non
    go_simp
  simp only [Act.put, List.setIfInBounds_toArray, List.set_cons_succ, List.set_cons_zero]
  clear hHeld
  refine wpAnyH_ready (rs := [2]) (by kernel_rfl) (by simp) ?_
  refine AllReadyH.cons rfl (fun K hK => ?_) AllReadyH.nil
  go_simp
  go_wp2_with (go_at_call 8; refine (C0.out _).mono ?_; rintro e y0 ⟨d0, q0, rfl, hO0, hb⟩)
  have B0 : Below W.heap.size W y0 := ((Below.refl _ _).drew).trans (hb.mono (Nat.le_refl _))
  refine hK.out _ _ B0 (fun hHeld => ?_)
  clear hK K hb C0
  clear hHeld
  refine wpAnyH_ready (rs := [5]) (by kernel_rfl) (by simp) ?_
  refine AllReadyH.cons rfl (fun K hK => ?_) AllReadyH.nil
  go_simp
  go_wp2_with (go_at_call 9; refine (C1.out _ _ (HH.out.2.2.2.keep B0).adr).mono ?_; rintro e y1 ⟨d1, q1, rfl, hO1, hb⟩)
  have B1 := B0.trans (hb.mono B0.size)
  replace hO0 := It.keep hb _ hO0
  refine hK.out _ _ B1 (fun hHeld => ?_)
  clear hK K hb C1 B0 y0
  clear hHeld
  refine wpAnyH_ready (rs := [8]) (by kernel_rfl) (by simp) ?_
  refine AllReadyH.cons rfl (fun K hK => ?_) AllReadyH.nil
  go_simp
  go_wp2_with (go_at_call 10; refine (C2.out _).mono ?_; rintro e y2 ⟨d2, q2, rfl, hO2, hb⟩)
  have B2 := B1.trans (hb.mono B1.size)
  replace hO0 := It.keep hb _ hO0
  replace hO1 := It.keep hb _ hO1
  refine hK.out _ _ B2 (fun hHeld => ?_)
  clear hK K hb C2 B1 y1
  clear hHeld
  refine wpAnyH_ready (rs := [9]) (by kernel_rfl) (by simp) ?_
  refine AllReadyH.cons rfl (fun K hK => ?_) AllReadyH.nil
  go_simp
  go_wp2_with fail
  refine kworldX (fun U => Below W.heap.size W U ∧ Its U y2.heap.size 0 [.mk false (stripL (putL c)) [], .mk false A [], .mk false (stripL (putL n)) []]) ⟨B2.alloc B2.size _, its3 hO0 hO1 hO2⟩ ?_
  rintro U ⟨BU, hI⟩
  refine hK.out _ _ BU (fun hHeld => ?_)
  clear hK K B2 hO0 hO1 hO2
  generalize y2.heap.size = bi at *
  clear y2
  clear hHeld
  refine wpAnyH_ready (rs := [10]) (by kernel_rfl) (by simp) ?_
  refine AllReadyH.cons rfl (fun K hK => ?_) AllReadyH.nil
  go_simp
  go_wp2_with (go_at_call 7; refine (C3.out _ _ hI).mono ?_; rintro e y3 ⟨d3, q3, rfl, hO3, hb⟩)
  have B3 := BU.trans (hb.mono BU.size)
  refine hK.out _ _ B3 (fun hHeld => ?_)
  clear hK K hb C3 BU U hI
  clear hHeld
  refine wpAnyH_ready (rs := [11]) (by kernel_rfl) (by simp) ?_
  refine AllReadyH.cons rfl (fun K hK => ?_) AllReadyH.nil
  go_simp
  go_wp2_with (go_at_call 6; refine (C4.out _ _ _ hO3).mono ?_; rintro e y4 ⟨a, g, k, rfl, hP, hb⟩)
  have B4 := B3.trans (hb.mono B3.size)
  refine hK.out _ _ B4 (fun hHeld => ?_)
  clear hK K hb C4 B3 y3 hO3
  refine wpAnyH_takeD (i := 12) (oi := _) (v := .tuple #[.slice a X.length k, .int .i64 0]) 5 rfl (by kernel_rfl) (by kernel_rfl) (by kernel_rfl) (by kernel_rfl) (fun _ _ _ h => h) (Or.inl ⟨by kernel_rfl, ?_⟩) (by assumption) ?_
  · intro wq hSw
    have _ := hSw
    go_simp
  simp only [Act.put, List.setIfInBounds_toArray, List.set_cons_succ, List.set_cons_zero]
  refine wpAnyH_takeD (i := 13) (oi := _) (v := .slice a X.length k) 18 rfl (by kernel_rfl) (by kernel_rfl) (by kernel_rfl) (by kernel_rfl) (fun _ _ _ h => h) (Or.inl ⟨by kernel_rfl, ?_⟩) (by assumption) ?_
  · intro wq hSw
    have _ := hSw
    go_simp
  simp only [Act.put, List.setIfInBounds_toArray, List.set_cons_succ, List.set_cons_zero]
  refine wpAnyH_takeD (i := 14) (oi := _) (v := .int .i64 0) 19 rfl (by kernel_rfl) (by kernel_rfl) (by kernel_rfl) (by kernel_rfl) (fun _ _ _ h => h) (Or.inl ⟨by kernel_rfl, ?_⟩) (by assumption) ?_
  · intro wq hSw
    have _ := hSw
    go_simp
  simp only [Act.put, List.setIfInBounds_toArray, List.set_cons_succ, List.set_cons_zero]
  refine wpAnyH_takeD (i := 15) (oi := _) (v := .slice a X.length k) 3 rfl (by kernel_rfl) (by kernel_rfl) (by kernel_rfl) (by kernel_rfl) (fun _ _ _ h => h) (Or.inl ⟨by kernel_rfl, ?_⟩) (by assumption) ?_
  · intro wq hSw
    have _ := hSw
    go_simp
  simp only [Act.put, List.setIfInBounds_toArray, List.set_cons_succ, List.set_cons_zero]
  refine wpAnyH_takeD (i := 16) (oi := _) (v := .int .i64 0) 4 rfl (by kernel_rfl) (by kernel_rfl) (by kernel_rfl) (by kernel_rfl) (fun _ _ _ h => h) (Or.inl ⟨by kernel_rfl, ?_⟩) (by assumption) ?_
  · intro wq hSw
    have _ := hSw
    go_simp
  simp only [Act.put, List.setIfInBounds_toArray, List.set_cons_succ, List.set_cons_zero]
  refine wpAnyH_done (by kernel_rfl) ?_ _
  have B := HH.out.1.trans (B4.mono HH.out.1.size)
  have hT := HH.out.2.1.keep B4
  have hR := HH.out.2.2.1.keep (by simp) B4
  clear HH hHeld B4
  go_wp2_with fail
  refine calls_world (fun U => Below w.heap.size w U ∧ KtC U ∧ Bts U br (List.replicate 32 0) ∧ PtsC U (y4.heap.size + 1) 0 [⟨some ⟨y4.heap.size, 0, none⟩, y4.heap.size, 0, 1, [5]⟩, ⟨a, g, 0, k, X⟩]) ⟨(B.alloc B.size _).alloc (by have := B.size; simp; omega) _, (hT.alloc _).alloc _, (hR.alloc (by simp) _).alloc (by simp) _, ptsC_two (by simp) rfl rfl ((Bts.new (W := y4) [5] _ rfl).ptX bys5) (hP.1.keep ((Below.refl _ _).alloc (Nat.le_refl _) _))⟩ ?_
  clear B hT hR hP
  rintro U ⟨B, hT, hR, hP⟩
  generalize y4.heap.size + 1 = bs at *
  refine (ksumC (ps := [⟨some ⟨y4.heap.size, 0, none⟩, y4.heap.size, 0, 1, [5]⟩, ⟨a, g, 0, k, X⟩]) (n := 2) (c := 2) rfl (by rw [allC_two]; simp only [List.length_append, List.length_cons, List.length_nil]; have := XL.out; omega) (by show 2 ≤ 1000; decide) (Nat.le_refl 2) U hP hT).mono ?_
  rw [allC_two]
  simp only [List.cons_append, List.nil_append]
  rw [← eD.out]
  rintro e y5 ⟨rfl, hb⟩
  replace B := B.trans (hb.mono B.size)
  replace hR := hR.keep (by simp) hb
  clear hb U hT hP XL
  have kD : D.length = 32 := by rw [eD.out, List.length_map, kecC_len]
  have oc : D.toArray.all (·.oneCell') = true := by rw [eD.out]; exact one_cells _
  have KD : Hid (D.length = 32) := kD
  have sz : D.toArray.size = 32 := by simp [kD]
  have tr := hR.there (k := D.toArray.size) (by rw [sz]; rfl)
  clear kD eD
  go_wp2_with ((refine wpList_store_mid rfl 30 _ _ rfl br 0 D.toArray rfl rfl tr (by rw [sz]; kernel_rfl) oc ?_); (refine wpList_worldA (fun W => Below w.heap.size w W ∧ W.rangeAt br 0 D) (laid_in B o1 (by simpa using tr)) ?_); (rintro W ⟨B', hD⟩))
  have ld := run_loadVar_mid (P := Tryd.prog) W br 0 30 D _ hD Tryd.underlying30 rfl (by rw [KD.out]; kernel_rfl)
  refine bodyPost_ret (v := .agg D.toArray) ?_ rfl ⟨rfl, B'⟩
  simp [results, Tryd.results4, Act.put, asAddr, ld]
end Go.Proofs.YtkbmonlbgnnjlaaDoor

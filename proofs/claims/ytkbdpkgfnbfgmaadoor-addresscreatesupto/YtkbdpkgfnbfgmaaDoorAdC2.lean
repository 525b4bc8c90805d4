import Derived.Test.YtkbdpkgfnbfgmaaDoorAdKc
import Derived.Test.YtkbdpkgfnbfgmaaDoorRsA
/- Layer 9: Create2 of the program. -/
namespace Go.Proofs.YtkbdpkgfnbfgmaaDoor
open Go.RowKit Go.Sort
/-- The text of a maker, a salt and code. -/
noncomputable def cr2X (A S X : List Int) : List Int := 255 :: (A ++ (S ++ kecC X))
theorem Bts.pt {W : World} {g : Nat} {L : List Int} (h : Bts W g L) (hy : Bys L) : PtC.ok W ⟨some ⟨g, 0, none⟩, g, 0, L.length, L⟩ := ⟨.inr rfl, Nat.le_refl _, hy, fun i hi => by show W.cell? ⟨g, 0 + i, none⟩ = _; rw [Nat.zero_add]; exact h.1 i hi⟩
theorem kworld {K : Act → World → Prop} {a : Act} {w : World} (I : World → Prop) (h : I w) (k : ∀ V, I V → K a V) : K a w := k w h
theorem bys255 : Bys [255] := fun x hx => by simp at hx; omega
theorem allC_four (p q r s : PtC) : allC [p, q, r, s] = p.X ++ (q.X ++ (r.X ++ s.X)) := by simp [allC]
theorem ptsC_oneE {W : World} {p : PtC} {v : Value} {g : Nat} {ty : TypeId} (e : g = W.heap.size) (ev : v = p.val) (h : p.ok W) : PtsC (W.alloc (.cells #[v] ty)) g 0 [p] := by subst e; subst ev; exact ptsC_one h
theorem ptsC_fourE {W : World} {p q r s : PtC} {v1 v2 v3 v4 : Value} {g : Nat} {ty : TypeId} (e : g = W.heap.size) (e1 : v1 = p.val) (e2 : v2 = q.val) (e3 : v3 = r.val) (e4 : v4 = s.val) (h1 : p.ok W) (h2 : q.ok W) (h3 : r.ok W) (h4 : s.ok W) : PtsC (W.alloc (.cells #[v1, v2, v3, v4] ty)) g 0 [p, q, r, s] := by subst e; subst e1; subst e2; subst e3; subst e4; exact ptsC_four h1 h2 h3 h4
set_option maxRecDepth 100000 in
set_option maxHeartbeats 8000000 in
theorem create2_any {A S X : List Int} {a : Option Addr} {b o c m : Nat} {D : List Value} (em : m = X.length) (hA : A.length = 20) (hB : Bys A) (hS : S.length = 32) (hSB : Bys S) (hX : X.length < 1073741824) (eD : Hid (D = (adrC (cr2X A S X)).map (Value.int .u8))) (w : World) (hp : PtC.ok w ⟨a, b, o, c, X⟩) (hk : KtC w) :
    Calls Tryd.prog 5 #[.agg (A.map (Value.int .u8)).toArray, .agg (S.map (Value.int .u8)).toArray, .slice a m c] w fun e w' => e = .returned (.agg D.toArray) ∧ Below w.heap.size w w' := by
  have AL : Hid (A.length = 20 ∧ Bys A ∧ S.length = 32 ∧ Bys S ∧ X.length < 1073741824) := ⟨hA, hB, hS, hSB, hX⟩
  have EM : Hid (m = X.length) := em
  clear em
  go_enter Tryd.func5, Tryd.ntmps5
  go_wp2_with fail
  refine calls_world (fun W => Below w.heap.size w W ∧ KtC W ∧ Bts W (w.heap.size + 1 + 1) (List.replicate 20 0) ∧ (Bts W w.heap.size A ∧ Bts W (w.heap.size + 1) S) ∧ PtsC W (w.heap.size + 1 + 1 + 1) 0 [⟨a, b, o, c, X⟩]) ⟨by repeat (first | with_reducible exact Below.refl _ _ | with_reducible refine Below.alloc ?_ (by first | omega | (simp; done) | (simp; omega)) _), (((hk.alloc _).alloc _).alloc _).alloc _, (Bts.new (List.replicate 20 0) _ (by simp)).alloc (by simp) _, ⟨(((Bts.new A _ rfl).alloc (by omega) _).alloc (by omega) _).alloc (by omega) _, ((Bts.new S _ (by simp)).alloc (by omega) _).alloc (by omega) _⟩, ptsC_oneE (by simp) (by rw [EM.out]; rfl) (hp.keep (by repeat (first | with_reducible exact Below.refl _ _ | with_reducible refine Below.alloc ?_ (by first | omega | (simp; done) | (simp; omega)) _)))⟩ ?_
  rintro W ⟨B, hT, hR, ⟨h1, h2⟩, hP⟩
  have o1 : w.heap.size ≤ w.heap.size + 1 + 1 := by omega
  have n1 : w.heap.size + 1 + 1 ≠ w.heap.size := by omega
  generalize w.heap.size + 1 + 1 + 1 = bq at *
  generalize w.heap.size + 1 + 1 = br at *
  generalize w.heap.size + 1 = bs at *
  clear hp hk
  refine (ksumC (ps := [⟨a, b, o, c, X⟩]) rfl (by rw [allC_one]; exact AL.out.2.2.2.2) (by show 1 ≤ 1000; decide) (Nat.le_refl _) W hP hT).mono ?_
  rw [allC_one]
  rintro e w1 ⟨rfl, hb⟩
  replace B := B.trans (hb.mono B.size)
  replace hT := hT.keep hb
  replace hR := hR.keep (by simp) hb
  replace h1 := h1.keep (by omega) hb
  replace h2 := h2.keep (by omega) hb
  clear hb W hP EM
  obtain ⟨N, eN⟩ : ∃ N, N = kecC X := ⟨_, rfl⟩
  rw [← eN]
  have hN : N.length = 32 := by rw [eN, kecC_len]
  have NB : Hid (N.length = 32 ∧ Bys N ∧ D = (adrC (255 :: (A ++ (S ++ N)))).map (Value.int .u8)) := ⟨hN, by rw [eN]; exact kecC_bys X, by rw [eN]; exact eD.out⟩
  obtain ⟨M, eM⟩ : ∃ M, M = N.map (Value.int .u8) := ⟨_, rfl⟩
  rw [← eM]
  have sz : M.toArray.size = 32 := by rw [eM]; simp [hN]
  have oc : M.toArray.all (·.oneCell') = true := by rw [eM]; exact one_cells N
  have FF : ∀ t, Hid (Below w.heap.size w ((w1.alloc (.cells ((List.replicate 32 (0 : Int)).map (Value.int .u8)).toArray t)).setCells w1.heap.size 0 M) ∧ KtC ((w1.alloc (.cells ((List.replicate 32 (0 : Int)).map (Value.int .u8)).toArray t)).setCells w1.heap.size 0 M) ∧ Bts ((w1.alloc (.cells ((List.replicate 32 (0 : Int)).map (Value.int .u8)).toArray t)).setCells w1.heap.size 0 M) br (List.replicate 20 0) ∧ (Bts ((w1.alloc (.cells ((List.replicate 32 (0 : Int)).map (Value.int .u8)).toArray t)).setCells w1.heap.size 0 M) w.heap.size A ∧ Bts ((w1.alloc (.cells ((List.replicate 32 (0 : Int)).map (Value.int .u8)).toArray t)).setCells w1.heap.size 0 M) bs S) ∧ Bts ((w1.alloc (.cells ((List.replicate 32 (0 : Int)).map (Value.int .u8)).toArray t)).setCells w1.heap.size 0 M) w1.heap.size N) := fun t => by
    have B0 : Below w1.heap.size w1 ((w1.alloc (.cells ((List.replicate 32 (0 : Int)).map (Value.int .u8)).toArray t)).setCells w1.heap.size 0 M) := below_setCells (Nat.le_refl _) M 0 _ ((Below.refl _ _).alloc (Nat.le_refl _) _)
    exact ⟨B.trans (B0.mono B.size), hT.keep B0, hR.keep (by simp) B0, ⟨h1.keep (by omega) B0, h2.keep (by omega) B0⟩, by rw [eM]; exact (Bts.new (List.replicate 32 0) t rfl).storedA (by simp [hN])⟩
  clear B hT hR h1 h2 eM eN eD
  go_wp2_with ((refine wpList_store_mid rfl 26 _ _ rfl w1.heap.size 0 M.toArray rfl rfl (there_new rfl (by rw [sz]; rfl)) (by rw [sz]; kernel_rfl) oc ?_); (refine wpList_worldA (fun W => Below w.heap.size w W ∧ KtC W ∧ Bts W br (List.replicate 20 0) ∧ (Bts W w.heap.size A ∧ Bts W bs S) ∧ Bts W w1.heap.size N) (FF _).out ?_); (rintro W ⟨B, hT, hR, ⟨h1, h2⟩, h3⟩); (clear FF oc sz))
  have HH : Hid (Below w.heap.size w W ∧ KtC W ∧ Bts W br (List.replicate 20 0) ∧ (Bts W w.heap.size A ∧ Bts W bs S) ∧ Bts W w1.heap.size N) := ⟨B, hT, hR, ⟨h1, h2⟩, h3⟩
  clear B hT hR h1 h2 h3
  generalize w1.heap.size = b3 at *
  clear w1
  simp only [Act.put]
  refine wp_region_held_drew (S := fun w' => Below w.heap.size w w') (by kernel_rfl) (HH.out.1.drew) (fun hHeld => ?_)
  refine wpAnyH_takeD (i := 1) (oi := _) (v := .slice (some ⟨w.heap.size, 0, none⟩) 20 20) 12 rfl (by kernel_rfl) (by kernel_rfl) (by kernel_rfl) (by kernel_rfl) (fun _ _ _ h => h) (Or.inl ⟨by kernel_rfl, ?_⟩) (by assumption) ?_
  · intro wq hSw
    have _ := hSw
    go_simp
  simp only [Act.put, List.setIfInBounds_toArray, List.set_cons_succ, List.set_cons_zero]
  refine wpAnyH_takeD (i := 2) (oi := _) (v := .slice (some ⟨bs, 0, none⟩) 32 32) 13 rfl (by kernel_rfl) (by kernel_rfl) (by kernel_rfl) (by kernel_rfl) (fun _ _ _ h => h) (Or.inl ⟨by kernel_rfl, ?_⟩) (by assumption) ?_
  · intro wq hSw
    have _ := hSw
    go_simp
  simp only [Act.put, List.setIfInBounds_toArray, List.set_cons_succ, List.set_cons_zero]
  refine wpAnyH_takeD (i := 3) (oi := _) (v := .slice (some ⟨b3, 0, none⟩) 32 32) 14 rfl (by kernel_rfl) (by kernel_rfl) (by kernel_rfl) (by kernel_rfl) (fun _ _ _ h => h) (Or.inl ⟨by kernel_rfl, ?_⟩) (by assumption) ?_
  · intro wq hSw
    have _ := hSw
    go_simp
  simp only [Act.put, List.setIfInBounds_toArray, List.set_cons_succ, List.set_cons_zero]
  refine wpAnyH_ready (rs := [0]) (by kernel_rfl) (by simp) ?_
  refine AllReadyH.cons rfl (fun K hK => ?_) AllReadyH.nil
  go_simp
  go_wp2_with fail
  refine kworld (fun V => Below W.heap.size W V ∧ PtC.ok V ⟨some ⟨W.heap.size, 0, none⟩, W.heap.size, 0, 1, [255]⟩) ⟨((Below.refl _ _).alloc (Nat.le_refl _) _).drew, ((Bts.new (W := W) [255] _ rfl).pt bys255).keep ((Below.refl _ _).drew)⟩ ?_
  rintro V ⟨BV, hP0⟩
  refine hK.out _ _ (HH.out.1.trans (BV.mono HH.out.1.size)) (fun hHeld => ?_)
  clear hK K hHeld
  refine wpAnyH_ready (rs := [4]) (by kernel_rfl) (by simp) ?_
  refine AllReadyH.cons rfl (fun K hK => ?_) AllReadyH.nil
  go_simp
  go_wp2_with fail
  refine kworld (fun U => Below W.heap.size W U ∧ PtsC U V.heap.size 0 [⟨some ⟨W.heap.size, 0, none⟩, W.heap.size, 0, 1, [255]⟩, ⟨some ⟨w.heap.size, 0, none⟩, w.heap.size, 0, A.length, A⟩, ⟨some ⟨bs, 0, none⟩, bs, 0, S.length, S⟩, ⟨some ⟨b3, 0, none⟩, b3, 0, N.length, N⟩]) ⟨BV.alloc BV.size _, ptsC_fourE rfl rfl (by rw [PtC.val]; show _ = Value.slice _ A.length A.length; rw [AL.out.1]) (by rw [PtC.val]; show _ = Value.slice _ S.length S.length; rw [AL.out.2.2.1]) (by rw [PtC.val]; show _ = Value.slice _ N.length N.length; rw [NB.out.1]) hP0 ((HH.out.2.2.2.1.1.pt AL.out.2.1).keep BV) ((HH.out.2.2.2.1.2.pt AL.out.2.2.2.1).keep BV) ((HH.out.2.2.2.2.pt NB.out.2.1).keep BV)⟩ ?_
  clear hP0
  rintro U ⟨BU, hP⟩
  refine hK.out _ _ (HH.out.1.trans (BU.mono HH.out.1.size)) (fun hHeld => ?_)
  clear hK K hHeld BV
  generalize V.heap.size = b4 at *
  clear V
  refine wpAnyH_ready (rs := [5]) (by kernel_rfl) (by simp) ?_
  refine AllReadyH.cons rfl (fun K hK => ?_) AllReadyH.nil
  go_simp
  have SM := ksumC (ps := [⟨some ⟨W.heap.size, 0, none⟩, W.heap.size, 0, 1, [255]⟩, ⟨some ⟨w.heap.size, 0, none⟩, w.heap.size, 0, A.length, A⟩, ⟨some ⟨bs, 0, none⟩, bs, 0, S.length, S⟩, ⟨some ⟨b3, 0, none⟩, b3, 0, N.length, N⟩]) (n := 4) (c := 4) rfl (by rw [allC_four]; simp only [List.length_append, List.length_cons, List.length_nil]; have := AL.out; have := NB.out; omega) (by show 4 ≤ 1000; decide) (Nat.le_refl 4) U hP (HH.out.2.1.keep BU)
  rw [allC_four] at SM
  simp only [List.cons_append, List.nil_append] at SM
  have ED : Hid (D = ((kecC (255 :: (A ++ (S ++ N)))).map (Value.int .u8)).drop 12) := by rw [← List.map_drop]; exact NB.out.2.2
  have mk : ((kecC (255 :: (A ++ (S ++ N)))).map (Value.int .u8)).length = 32 := by rw [List.length_map, kecC_len]
  have mo : ∀ v ∈ (kecC (255 :: (A ++ (S ++ N)))).map (Value.int .u8), v.oneCell' = true := fun v hv => by obtain ⟨z, _, rfl⟩ := List.mem_map.1 hv; rfl
  clear hP
  have SM' : Hid (∀ _ : Nat, Calls Tryd.prog 11 #[.slice (some ⟨b4, 0, none⟩) 4 4] U fun e w' => e = .returned (.agg ((kecC (255 :: (A ++ (S ++ N)))).map (Value.int .u8)).toArray) ∧ Below U.heap.size U w') := fun _ => SM
  clear SM
  generalize (kecC (255 :: (A ++ (S ++ N)))).map (Value.int .u8) = M5 at *
  have MM : Hid (M5.length = 32 ∧ ∀ v ∈ M5, v.oneCell' = true) := ⟨mk, mo⟩
  clear mk mo
  go_wp2_with (go_at_call 11; refine (SM'.out 0).mono ?_; rintro e y1 ⟨rfl, hbx⟩)
  have BY := BU.trans (hbx.mono BU.size)
  refine hK.out _ _ (HH.out.1.trans (BY.mono HH.out.1.size)) (fun hHeld => ?_)
  clear hK K BU hbx SM' U hHeld
  refine wpAnyH_ready (rs := [6]) (by kernel_rfl) (by simp) ?_
  refine AllReadyH.cons rfl (fun K hK => ?_) AllReadyH.nil
  go_simp
  go_wp2_with (go_at_call 12; refine (last20_any MM.out.1 MM.out.2 _).mono ?_; rw [← ED.out]; rintro e y2 ⟨rfl, hbx⟩)
  have BZ := BY.trans (hbx.mono BY.size)
  refine hK.out _ _ (HH.out.1.trans (BZ.mono HH.out.1.size)) (fun hHeld => ?_)
  clear hK K hbx hHeld BY y1
  have kD : D.length = 20 := by rw [ED.out, List.length_drop, MM.out.1]
  have oc : D.toArray.all (·.oneCell') = true := all_oneCell_toArray fun v hv => MM.out.2 v (by rw [ED.out] at hv; exact List.mem_of_mem_drop hv)
  have KD : Hid (D.length = 20) := kD
  have sz : D.toArray.size = 20 := by simp [kD]
  have B9 := HH.out.1.trans (BZ.mono HH.out.1.size)
  have tr := (HH.out.2.2.1.keep (by simp) BZ).there (k := D.toArray.size) (by rw [sz]; rfl)
  clear kD ED MM
  refine wpAnyH_ready (rs := [7]) (by kernel_rfl) (by simp) ?_
  refine AllReadyH.cons rfl (fun K hK => ?_) AllReadyH.nil
  refine (if_pos (by kernel_rfl)).mpr ?_
  refine wp_store_mid 23 _ _ rfl br 0 D.toArray rfl rfl tr (by rw [sz]; kernel_rfl) oc ?_
  have LI := laid_in B9 o1 (by simpa using tr)
  refine kworld (fun V => Below w.heap.size w V ∧ V.rangeAt br 0 D) LI ?_
  clear LI tr BZ B9
  rintro V ⟨B', hD⟩
  refine hK.out _ _ B' (fun hHeld => ?_)
  clear hK K hHeld
  refine wpAnyH_done (by kernel_rfl) ?_ _
  go_wp2_with fail
  have ld := run_loadVar_mid (P := Tryd.prog) V br 0 23 D _ hD Tryd.underlying23 rfl (by rw [KD.out]; kernel_rfl)
  refine bodyPost_ret (v := .agg D.toArray) ?_ rfl ⟨rfl, B'⟩
  simp [results, Tryd.results5, Act.put, asAddr, ld]
end Go.Proofs.YtkbdpkgfnbfgmaaDoor

/- Layer 9: Create2 of the document. -/
namespace Go.Proofs.YtkbdpkgfnbfgmaaDoor
open Go.RowKit Go.Sort
set_option maxRecDepth 100000 in
set_option maxHeartbeats 8000000 in
theorem rcreate2_any {A S X : List Int} {a : Option Addr} {b o c m : Nat} {D : List Value} (em : m = X.length) (hA : A.length = 20) (hB : Bys A) (hS : S.length = 32) (hSB : Bys S) (hX : X.length < 1073741824) (eD : Hid (D = (adrC (cr2X A S X)).map (Value.int .u8))) (hnc : a = none → c = 0) (w : World) (hp : PtC.ok w ⟨a, b, o, c, X⟩) (hk : RtC w) :
    Calls Tryd.prog 8 #[.agg (A.map (Value.int .u8)).toArray, .agg (S.map (Value.int .u8)).toArray, .slice a m c] w fun e w' => e = .returned (.agg D.toArray) ∧ Below w.heap.size w w' := by
  have AL : Hid (A.length = 20 ∧ Bys A ∧ S.length = 32 ∧ Bys S ∧ X.length < 1073741824) := ⟨hA, hB, hS, hSB, hX⟩
  have EM : Hid (m = X.length) := em
  clear em
  go_enter Tryd.func8, Tryd.ntmps8
  go_wp2_with fail
  refine calls_world (fun W => Below w.heap.size w W ∧ RtC W ∧ Bts W (w.heap.size + 1 + 1) (List.replicate 20 0) ∧ (Bts W w.heap.size A ∧ Bts W (w.heap.size + 1) S) ∧ PtC.ok W ⟨a, b, o, c, X⟩) ⟨by repeat (first | with_reducible exact Below.refl _ _ | with_reducible refine Below.alloc ?_ (by first | omega | (simp; done) | (simp; omega)) _), ((hk.alloc _).alloc _).alloc _, Bts.new (List.replicate 20 0) _ (by simp), ⟨((Bts.new A _ rfl).alloc (by omega) _).alloc (by omega) _, (Bts.new S _ (by simp)).alloc (by omega) _⟩, hp.keep (by repeat (first | with_reducible exact Below.refl _ _ | with_reducible refine Below.alloc ?_ (by first | omega | (simp; done) | (simp; omega)) _))⟩ ?_
  rintro W ⟨B, hT, hR, ⟨h1, h2⟩, hP⟩
  have o1 : w.heap.size ≤ w.heap.size + 1 + 1 := by omega
  generalize w.heap.size + 1 + 1 = br at *
  generalize w.heap.size + 1 = bs at *
  clear hp hk
  refine (rofC EM.out hP.2.2.1 AL.out.2.2.2.2 hP.1 hnc W hP.2.2.2 hT).mono ?_
  rintro e w1 ⟨rfl, hb⟩
  replace B := B.trans (hb.mono B.size)
  replace hT := hT.keep hb
  replace hR := hR.keep (by simp) hb
  replace h1 := h1.keep (by omega) hb
  replace h2 := h2.keep (by omega) hb
  clear hb W hP EM
  obtain ⟨N, eN⟩ : ∃ N, N = kecC X := ⟨_, rfl⟩
  rw [← eN]
  have hN : N.length = 32 := by rw [eN, kecC_len]
  have NB : Hid (N.length = 32 ∧ Bys N ∧ D = (adrC (255 :: (A ++ (S ++ N)))).map (Value.int .u8)) := ⟨hN, by rw [eN]; exact kecC_bys X, by rw [eN]; exact eD.out⟩
  obtain ⟨M, eM⟩ : ∃ M, M = N.map (Value.int .u8) := ⟨_, rfl⟩
  rw [← eM]
  have sz : M.toArray.size = 32 := by rw [eM]; simp [hN]
  have oc : M.toArray.all (·.oneCell') = true := by rw [eM]; exact one_cells N
  have FF : ∀ t, Hid (Below w.heap.size w ((w1.alloc (.cells ((List.replicate 32 (0 : Int)).map (Value.int .u8)).toArray t)).setCells w1.heap.size 0 M) ∧ RtC ((w1.alloc (.cells ((List.replicate 32 (0 : Int)).map (Value.int .u8)).toArray t)).setCells w1.heap.size 0 M) ∧ Bts ((w1.alloc (.cells ((List.replicate 32 (0 : Int)).map (Value.int .u8)).toArray t)).setCells w1.heap.size 0 M) br (List.replicate 20 0) ∧ (Bts ((w1.alloc (.cells ((List.replicate 32 (0 : Int)).map (Value.int .u8)).toArray t)).setCells w1.heap.size 0 M) w.heap.size A ∧ Bts ((w1.alloc (.cells ((List.replicate 32 (0 : Int)).map (Value.int .u8)).toArray t)).setCells w1.heap.size 0 M) bs S) ∧ Bts ((w1.alloc (.cells ((List.replicate 32 (0 : Int)).map (Value.int .u8)).toArray t)).setCells w1.heap.size 0 M) w1.heap.size N) := fun t => by
    have B0 : Below w1.heap.size w1 ((w1.alloc (.cells ((List.replicate 32 (0 : Int)).map (Value.int .u8)).toArray t)).setCells w1.heap.size 0 M) := below_setCells (Nat.le_refl _) M 0 _ ((Below.refl _ _).alloc (Nat.le_refl _) _)
    exact ⟨B.trans (B0.mono B.size), hT.keep B0, hR.keep (by simp) B0, ⟨h1.keep (by omega) B0, h2.keep (by omega) B0⟩, by rw [eM]; exact (Bts.new (List.replicate 32 0) t rfl).storedA (by simp [hN])⟩
  clear B hT hR h1 h2 eM eN eD
  go_wp2_with ((refine wpList_store_mid rfl 26 _ _ rfl w1.heap.size 0 M.toArray rfl rfl (there_new rfl (by rw [sz]; rfl)) (by rw [sz]; kernel_rfl) oc ?_); (refine wpList_worldA (fun W => Below w.heap.size w W ∧ RtC W ∧ Bts W br (List.replicate 20 0) ∧ (Bts W w.heap.size A ∧ Bts W bs S) ∧ Bts W w1.heap.size N) (FF _).out ?_); (rintro W ⟨B, hT, hR, ⟨h1, h2⟩, h3⟩); (clear FF oc sz))
  have HH : Hid (Below w.heap.size w W ∧ RtC W ∧ Bts W br (List.replicate 20 0) ∧ (Bts W w.heap.size A ∧ Bts W bs S) ∧ Bts W w1.heap.size N) := ⟨B, hT, hR, ⟨h1, h2⟩, h3⟩
  clear B hT hR h1 h2 h3
  generalize w1.heap.size = b3 at *
  clear w1
  simp only [Act.put]
  refine wp_region_held_drew (S := fun w' => Below w.heap.size w w') (by kernel_rfl) (HH.out.1.drew) (fun hHeld => ?_)
  refine wpAnyH_takeD (i := 1) (oi := _) (v := .slice (some ⟨w.heap.size, 0, none⟩) 20 20) 11 rfl (by kernel_rfl) (by kernel_rfl) (by kernel_rfl) (by kernel_rfl) (fun _ _ _ h => h) (Or.inl ⟨by kernel_rfl, ?_⟩) (by assumption) ?_
  · intro wq hSw
    have _ := hSw
    go_simp
  simp only [Act.put, List.setIfInBounds_toArray, List.set_cons_succ, List.set_cons_zero]
  refine wpAnyH_takeD (i := 2) (oi := _) (v := .slice (some ⟨bs, 0, none⟩) 32 32) 12 rfl (by kernel_rfl) (by kernel_rfl) (by kernel_rfl) (by kernel_rfl) (fun _ _ _ h => h) (Or.inl ⟨by kernel_rfl, ?_⟩) (by assumption) ?_
  · intro wq hSw
    have _ := hSw
    go_simp
  simp only [Act.put, List.setIfInBounds_toArray, List.set_cons_succ, List.set_cons_zero]
  refine wpAnyH_takeD (i := 3) (oi := _) (v := .slice (some ⟨b3, 0, none⟩) 32 32) 13 rfl (by kernel_rfl) (by kernel_rfl) (by kernel_rfl) (by kernel_rfl) (fun _ _ _ h => h) (Or.inl ⟨by kernel_rfl, ?_⟩) (by assumption) ?_
  · intro wq hSw
    have _ := hSw
    go_simp
  simp only [Act.put, List.setIfInBounds_toArray, List.set_cons_succ, List.set_cons_zero]
  refine wpAnyH_ready (rs := [0]) (by kernel_rfl) (by simp) ?_
  refine AllReadyH.cons rfl (fun K hK => ?_) AllReadyH.nil
  go_simp
  go_wp2_with fail
  refine kworld (fun V => Below W.heap.size W V ∧ PtC.ok V ⟨some ⟨W.heap.size, 0, none⟩, W.heap.size, 0, 1, [255]⟩) ⟨((Below.refl _ _).alloc (Nat.le_refl _) _).drew, ((Bts.new (W := W) [255] _ rfl).pt bys255).keep ((Below.refl _ _).drew)⟩ ?_
  rintro V ⟨BV, hP0⟩
  refine hK.out _ _ (HH.out.1.trans (BV.mono HH.out.1.size)) (fun hHeld => ?_)
  clear hK K hHeld
  refine wpAnyH_ready (rs := [4]) (by kernel_rfl) (by simp) ?_
  refine AllReadyH.cons rfl (fun K hK => ?_) AllReadyH.nil
  go_simp
  go_wp2_with fail
  refine kworld (fun U => Below W.heap.size W U ∧ PtsC U V.heap.size 0 [⟨some ⟨W.heap.size, 0, none⟩, W.heap.size, 0, 1, [255]⟩, ⟨some ⟨w.heap.size, 0, none⟩, w.heap.size, 0, A.length, A⟩, ⟨some ⟨bs, 0, none⟩, bs, 0, S.length, S⟩, ⟨some ⟨b3, 0, none⟩, b3, 0, N.length, N⟩]) ⟨BV.alloc BV.size _, ptsC_fourE rfl rfl (by rw [PtC.val]; show _ = Value.slice _ A.length A.length; rw [AL.out.1]) (by rw [PtC.val]; show _ = Value.slice _ S.length S.length; rw [AL.out.2.2.1]) (by rw [PtC.val]; show _ = Value.slice _ N.length N.length; rw [NB.out.1]) hP0 ((HH.out.2.2.2.1.1.pt AL.out.2.1).keep BV) ((HH.out.2.2.2.1.2.pt AL.out.2.2.2.1).keep BV) ((HH.out.2.2.2.2.pt NB.out.2.1).keep BV)⟩ ?_
  clear hP0
  rintro U ⟨BU, hP⟩
  refine hK.out _ _ (HH.out.1.trans (BU.mono HH.out.1.size)) (fun hHeld => ?_)
  clear hK K hHeld BV
  generalize V.heap.size = b4 at *
  clear V
  refine wpAnyH_ready (rs := [5]) (by kernel_rfl) (by simp) ?_
  refine AllReadyH.cons rfl (fun K hK => ?_) AllReadyH.nil
  go_simp
  have SC : Hid (∀ U', Below U.heap.size U U' → Calls Tryd.prog 36 #[.slice (some ⟨b4, 0, none⟩) 4 4] U' fun e w' => e = .returned (.agg ((kecC (255 :: (A ++ (S ++ N)))).map (Value.int .u8)).toArray) ∧ Below U'.heap.size U' w') := fun U' hU => by
    have SM := rsumC (ps := [⟨some ⟨W.heap.size, 0, none⟩, W.heap.size, 0, 1, [255]⟩, ⟨some ⟨w.heap.size, 0, none⟩, w.heap.size, 0, A.length, A⟩, ⟨some ⟨bs, 0, none⟩, bs, 0, S.length, S⟩, ⟨some ⟨b3, 0, none⟩, b3, 0, N.length, N⟩]) (n := 4) (c := 4) rfl (by rw [allC_four]; simp only [List.length_append, List.length_cons, List.length_nil]; have := AL.out; have := NB.out; omega) (by show 4 ≤ 1000; decide) (fun p hp e => by
      simp only [List.mem_cons, List.not_mem_nil, or_false] at hp
      rcases hp with rfl | rfl | rfl | rfl <;> cases e) U' (hP.keep hU) ((HH.out.2.1.keep BU).keep hU)
    rw [allC_four] at SM
    simp only [List.cons_append, List.nil_append] at SM
    exact SM
  have ED : Hid (D = ((kecC (255 :: (A ++ (S ++ N)))).drop 12).map (Value.int .u8)) := NB.out.2.2
  clear hP
  go_wp2_with (go_at_call 21; refine (rlast_walk (A := kecC (255 :: (A ++ (S ++ N)))) (kecC_len _) _ SC).mono ?_; rw [← ED.out]; rintro e y2 ⟨rfl, hbx⟩)
  have BZ := BU.trans (hbx.mono BU.size)
  refine hK.out _ _ (HH.out.1.trans (BZ.mono HH.out.1.size)) (fun hHeld => ?_)
  clear hK K hbx hHeld SC BU U
  have kD : D.length = 20 := by rw [ED.out, List.length_map, List.length_drop, kecC_len]
  have oc : D.toArray.all (·.oneCell') = true := by rw [ED.out]; exact one_cells _
  have KD : Hid (D.length = 20) := kD
  have sz : D.toArray.size = 20 := by simp [kD]
  have B9 := HH.out.1.trans (BZ.mono HH.out.1.size)
  have tr := (HH.out.2.2.1.keep (by simp) BZ).there (k := D.toArray.size) (by rw [sz]; rfl)
  clear kD ED
  refine wpAnyH_ready (rs := [6]) (by kernel_rfl) (by simp) ?_
  refine AllReadyH.cons rfl (fun K hK => ?_) AllReadyH.nil
  refine (if_pos (by kernel_rfl)).mpr ?_
  refine wp_store_mid 23 _ _ rfl br 0 D.toArray rfl rfl tr (by rw [sz]; kernel_rfl) oc ?_
  have LI := laid_in B9 o1 (by simpa using tr)
  refine kworld (fun V => Below w.heap.size w V ∧ V.rangeAt br 0 D) LI ?_
  clear LI tr BZ B9
  rintro V ⟨B', hD⟩
  refine hK.out _ _ B' (fun hHeld => ?_)
  clear hK K hHeld
  refine wpAnyH_done (by kernel_rfl) ?_ _
  go_wp2_with fail
  have ld := run_loadVar_mid (P := Tryd.prog) V br 0 23 D _ hD Tryd.underlying23 rfl (by rw [KD.out]; kernel_rfl)
  refine bodyPost_ret (v := .agg D.toArray) ?_ rfl ⟨rfl, B'⟩
  simp [results, Tryd.results8, Act.put, asAddr, ld]
end Go.Proofs.YtkbdpkgfnbfgmaaDoor

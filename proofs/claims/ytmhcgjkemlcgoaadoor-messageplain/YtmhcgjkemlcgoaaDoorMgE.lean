import Derived.Test.YtmhcgjkemlcgoaaDoorMgD
/- Intended of both sides. -/
namespace Go.Proofs.YtmhcgjkemlcgoaaDoor
open Go.RowKit Go.Sort
theorem bys19 : Bys [25, 0] := fun x hx => by
  simp only [List.mem_cons, List.not_mem_nil, or_false] at hx
  rcases hx with rfl | rfl <;> exact ⟨by decide, by decide⟩
set_option maxRecDepth 100000 in
set_option maxHeartbeats 8000000 in
theorem intended_any {A X : List Int} {a : Option Addr} {b o c m : Nat} {D : List Value} (em : m = X.length) (hA : A.length = 20) (hB : Bys A) (hX : X.length ≤ 140737488351232) (eD : Hid (D = (intM A X).map (Value.int .u8))) (w : World) (hp : PtC.ok w ⟨a, b, o, c, X⟩) (hk : KtC w) :
    Calls Tryd.prog 6 #[.agg (A.map (Value.int .u8)).toArray, .slice a m c] w fun e w' => e = .returned (.agg D.toArray) ∧ Below w.heap.size w w' := by
  have EM : Hid (m = X.length ∧ X.length ≤ 140737488351232 ∧ A.length = 20 ∧ Bys A) := ⟨em, hX, hA, hB⟩
  clear em hX
  have kD : D.length = 32 := by rw [eD.out, List.length_map, intM, kecC_len]
  have oc : D.toArray.all (·.oneCell') = true := by rw [eD.out]; exact one_cells _
  have KD : Hid (D.length = 32) := kD
  have sz : D.toArray.size = 32 := by simp [kD]
  have CS : Hid (∀ W bq g g2, KtC W → PtsC W bq 0 [⟨some ⟨g, 0, none⟩, g, 0, 2, [25, 0]⟩, ⟨some ⟨g2, 0, none⟩, g2, 0, 20, A⟩, ⟨a, b, o, c, X⟩] → Calls Tryd.prog 12 #[.slice (some ⟨bq, 0, none⟩) 3 3] W fun e w' => e = .returned (.agg D.toArray) ∧ Below W.heap.size W w') := fun W bq g g2 hk PT => by
    have SM := ksumC (ps := [⟨some ⟨g, 0, none⟩, g, 0, 2, [25, 0]⟩, ⟨some ⟨g2, 0, none⟩, g2, 0, 20, A⟩, ⟨a, b, o, c, X⟩]) (n := 3) (c := 3) rfl (by rw [allC_three]; simp only [List.length_append, List.length_cons, List.length_nil]; have := EM.out; omega) (by show 3 ≤ 1000; decide) (Nat.le_refl 3) _ PT hk
    rw [allC_three] at SM
    rw [eD.out, intM]
    exact SM
  go_enter Tryd.func6, Tryd.ntmps6
  go_wp2_with fail
  refine calls_world (fun W => Below w.heap.size w W ∧ KtC W ∧ Bts W (w.heap.size + 1) (List.replicate 32 0) ∧ PtsC W (w.heap.size + 1 + 1 + 1) 0 [⟨some ⟨w.heap.size + 1 + 1, 0, none⟩, w.heap.size + 1 + 1, 0, 2, [25, 0]⟩, ⟨some ⟨w.heap.size, 0, none⟩, w.heap.size, 0, 20, A⟩, ⟨a, b, o, c, X⟩]) ⟨(by repeat (first | with_reducible exact Below.refl _ _ | with_reducible refine Below.alloc ?_ (by first | omega | (simp; done) | (simp; omega)) _)), (((hk.alloc _).alloc _).alloc _).alloc _, ((Bts.new (List.replicate 32 0) _ (by simp)).alloc (by simp) _).alloc (by simp) _, ptsC_three (by simp) rfl (by rw [PtC.val]; show _ = Value.slice _ A.length 20; rw [hA]) (by rw [PtC.val, EM.out.1]) ⟨.inr rfl, Nat.le_refl 2, bys19, ((Bts.new [25, 0] _ (by simp)).ptM bys19).2.2.2⟩ ⟨.inr rfl, (by show A.length ≤ 20; omega), hB, ((((Bts.new A _ rfl).alloc (by omega) _).alloc (by omega) _).ptM hB).2.2.2⟩ (hp.keep (by repeat (first | with_reducible exact Below.refl _ _ | with_reducible refine Below.alloc ?_ (by first | omega | (simp; done) | (simp; omega)) _)))⟩ ?_
  rintro W ⟨B, hT, hR, hP⟩
  have o1 : w.heap.size ≤ w.heap.size + 1 := by omega
  generalize w.heap.size + 1 + 1 + 1 = bq at *
  generalize w.heap.size + 1 + 1 = b2 at *
  generalize w.heap.size + 1 = br at *
  refine (CS.out W bq _ _ hT hP).mono ?_
  rintro e y1 ⟨rfl, hb⟩
  replace B := B.trans (hb.mono B.size)
  have tr := (hR.keep (by simp) hb).there (k := D.toArray.size) (by rw [sz]; rfl)
  clear hb hT hR hP hp hk CS W hA hB eD
  go_wp2_with (refine wpList_store_mid rfl 27 _ _ rfl br 0 D.toArray rfl rfl tr (by rw [sz]; kernel_rfl) oc ?_; refine wpList_worldA (fun W' => Below w.heap.size w W' ∧ W'.rangeAt br 0 D) (laid_in B o1 (by simpa using tr)) ?_; rintro W' ⟨B', hD⟩)
  have ld := run_loadVar_mid (P := Tryd.prog) W' br 0 27 D _ hD Tryd.underlying27 rfl (by rw [KD.out]; kernel_rfl)
  refine bodyPost_ret (v := .agg D.toArray) ?_ rfl ⟨rfl, B'⟩
  simp [results, Tryd.results6, Act.put, asAddr, ld]
set_option maxRecDepth 100000 in
set_option maxHeartbeats 8000000 in
theorem rintended_any {A X : List Int} {a : Option Addr} {b o c m : Nat} {D : List Value} (em : m = X.length) (hA : A.length = 20) (hB : Bys A) (hX : X.length ≤ 140737488351232) (eD : Hid (D = (intM A X).map (Value.int .u8))) (hnc : a = none → c = 0) (w : World) (hp : PtC.ok w ⟨a, b, o, c, X⟩) (hk : RtC w) :
    Calls Tryd.prog 8 #[.agg (A.map (Value.int .u8)).toArray, .slice a m c] w fun e w' => e = .returned (.agg D.toArray) ∧ Below w.heap.size w w' := by
  have EM : Hid (m = X.length ∧ X.length ≤ 140737488351232 ∧ A.length = 20 ∧ Bys A) := ⟨em, hX, hA, hB⟩
  clear em hX
  have kD : D.length = 32 := by rw [eD.out, List.length_map, intM, kecC_len]
  have oc : D.toArray.all (·.oneCell') = true := by rw [eD.out]; exact one_cells _
  have KD : Hid (D.length = 32) := kD
  have sz : D.toArray.size = 32 := by simp [kD]
  have CS : Hid (∀ W bq g g2, RtC W → PtsC W bq 0 [⟨some ⟨g, 0, none⟩, g, 0, 2, [25, 0]⟩, ⟨some ⟨g2, 0, none⟩, g2, 0, 20, A⟩, ⟨a, b, o, c, X⟩] → Calls Tryd.prog 15 #[.slice (some ⟨bq, 0, none⟩) 3 3] W fun e w' => e = .returned (.agg D.toArray) ∧ Below W.heap.size W w') := fun W bq g g2 hk PT => by
    have SM := rsumC (ps := [⟨some ⟨g, 0, none⟩, g, 0, 2, [25, 0]⟩, ⟨some ⟨g2, 0, none⟩, g2, 0, 20, A⟩, ⟨a, b, o, c, X⟩]) (n := 3) (c := 3) rfl (by rw [allC_three]; simp only [List.length_append, List.length_cons, List.length_nil]; have := EM.out; omega) (by show 3 ≤ 1000; decide) (fun p hp e => by simp only [List.mem_cons, List.not_mem_nil, or_false] at hp; rcases hp with rfl | rfl | rfl; (cases e); (cases e); exact hnc e) _ PT hk
    rw [allC_three] at SM
    rw [eD.out, intM]
    exact SM
  go_enter Tryd.func8, Tryd.ntmps8
  have RA : Hid (∀ o t, ((w.alloc (.cells (A.map (Value.int .u8)).toArray 24)).alloc (.cells o t)).rangeAt w.heap.size 0 (A.map (Value.int .u8))) := fun o t => World.rangeAt_alloc rangeBox _
  have lA : Hid ((A.map (Value.int .u8)).length = 20) := by rw [List.length_map]; exact hA
  have oA : (A.map (Value.int .u8)).toArray.all (·.oneCell') = true := one_cells _
  have zA : (A.map (Value.int .u8)).toArray.size = 20 := by simp [hA]
  have FF : Hid (Below w.heap.size w ((((w.alloc (.cells (A.map (Value.int .u8)).toArray 24)).alloc (.cells ((List.replicate 32 (0 : Int)).map (Value.int .u8)).toArray 27)).alloc (.cells ((List.replicate 20 (0 : Int)).map (Value.int .u8)).toArray 24)).setCells (w.heap.size + 1 + 1) 0 (A.map (Value.int .u8))) ∧ RtC ((((w.alloc (.cells (A.map (Value.int .u8)).toArray 24)).alloc (.cells ((List.replicate 32 (0 : Int)).map (Value.int .u8)).toArray 27)).alloc (.cells ((List.replicate 20 (0 : Int)).map (Value.int .u8)).toArray 24)).setCells (w.heap.size + 1 + 1) 0 (A.map (Value.int .u8))) ∧ Bts ((((w.alloc (.cells (A.map (Value.int .u8)).toArray 24)).alloc (.cells ((List.replicate 32 (0 : Int)).map (Value.int .u8)).toArray 27)).alloc (.cells ((List.replicate 20 (0 : Int)).map (Value.int .u8)).toArray 24)).setCells (w.heap.size + 1 + 1) 0 (A.map (Value.int .u8))) (w.heap.size + 1) (List.replicate 32 0) ∧ Bts ((((w.alloc (.cells (A.map (Value.int .u8)).toArray 24)).alloc (.cells ((List.replicate 32 (0 : Int)).map (Value.int .u8)).toArray 27)).alloc (.cells ((List.replicate 20 (0 : Int)).map (Value.int .u8)).toArray 24)).setCells (w.heap.size + 1 + 1) 0 (A.map (Value.int .u8))) (w.heap.size + 1 + 1) A ∧ PtC.ok ((((w.alloc (.cells (A.map (Value.int .u8)).toArray 24)).alloc (.cells ((List.replicate 32 (0 : Int)).map (Value.int .u8)).toArray 27)).alloc (.cells ((List.replicate 20 (0 : Int)).map (Value.int .u8)).toArray 24)).setCells (w.heap.size + 1 + 1) 0 (A.map (Value.int .u8))) ⟨a, b, o, c, X⟩) := by
    have B0 : Below w.heap.size w (((w.alloc (.cells (A.map (Value.int .u8)).toArray 24)).alloc (.cells ((List.replicate 32 (0 : Int)).map (Value.int .u8)).toArray 27)).alloc (.cells ((List.replicate 20 (0 : Int)).map (Value.int .u8)).toArray 24)) := (by repeat (first | with_reducible exact Below.refl _ _ | with_reducible refine Below.alloc ?_ (by first | omega | (simp; done) | (simp; omega)) _))
    have B1 := below_setCells (by omega) (A.map (Value.int .u8)) 0 (((w.alloc (.cells (A.map (Value.int .u8)).toArray 24)).alloc (.cells ((List.replicate 32 (0 : Int)).map (Value.int .u8)).toArray 27)).alloc (.cells ((List.replicate 20 (0 : Int)).map (Value.int .u8)).toArray 24)) B0 (b := w.heap.size + 1 + 1)
    refine ⟨B1, hk.keep B1, ?_, ?_, hp.keep B1⟩
    · exact Bts.cells_putA ((Bts.new (List.replicate 32 0) _ (by simp)).alloc (by simp) _) (by omega) _ _
    · exact (Bts.new (List.replicate 20 0) _ (by simp)).storedA (by simp [hA])
  go_wp2_with (first
    | (refine wpList_load_mid rfl 24 _ rfl w.heap.size 0 rfl (A.map (Value.int .u8)) _ (RA.out _ _) Tryd.underlying24 rfl (by rw [lA.out]; kernel_rfl) ?_)
    | (refine wpList_store_mid rfl 24 _ _ rfl (w.heap.size + 1 + 1) 0 (A.map (Value.int .u8)).toArray rfl rfl (there_new (by simp) (by rw [zA]; rfl)) (by rw [zA]; kernel_rfl) oA ?_; refine wpList_worldA (fun W => Below w.heap.size w W ∧ RtC W ∧ Bts W (w.heap.size + 1) (List.replicate 32 0) ∧ Bts W (w.heap.size + 1 + 1) A ∧ PtC.ok W ⟨a, b, o, c, X⟩) FF.out ?_; (rintro W ⟨B, hT, hR, hA2, hP⟩))
    | (go_at_call 15; refine (CS.out _ _ W.heap.size (w.heap.size + 1 + 1) ((hT.alloc _).alloc _) (ptsC_three (by simp) rfl (by rw [PtC.val]; show _ = Value.slice _ A.length 20; rw [hA]) (by rw [PtC.val, EM.out.1]) ⟨.inr rfl, Nat.le_refl 2, bys19, ((Bts.new [25, 0] _ rfl).ptM bys19).2.2.2⟩ ⟨.inr rfl, (by show A.length ≤ 20; omega), hB, ((hA2.alloc (by omega) _).ptM hB).2.2.2⟩ (hP.keep (by repeat (first | with_reducible exact Below.refl _ _ | with_reducible refine Below.alloc ?_ (by first | omega | (simp; done) | (simp; omega)) _))))).mono ?_; rintro e y1 ⟨rfl, hbx⟩; have hq := (((Below.refl W.heap.size W).alloc (Nat.le_refl _) _).alloc (by simp) _).trans (hbx.mono (by simp; omega)); have BY := B.trans (hq.mono B.size); have tr := (hR.keep (by simp) hq).there (k := D.toArray.size) (by rw [sz]; rfl))
    | (refine wpList_store_mid rfl 27 _ _ rfl (w.heap.size + 1) 0 D.toArray rfl rfl tr (by rw [sz]; kernel_rfl) oc ?_; refine wpList_worldA (fun W' => Below w.heap.size w W' ∧ W'.rangeAt (w.heap.size + 1) 0 D) (laid_in BY (by omega) (by simpa using tr)) ?_; rintro W' ⟨B', hD⟩))
  have ld := run_loadVar_mid (P := Tryd.prog) W' (w.heap.size + 1) 0 27 D _ hD Tryd.underlying27 rfl (by rw [KD.out]; kernel_rfl)
  refine bodyPost_ret (v := .agg D.toArray) ?_ rfl ⟨rfl, B'⟩
  simp [results, Tryd.results8, Act.put, asAddr, ld]
end Go.Proofs.YtmhcgjkemlcgoaaDoor

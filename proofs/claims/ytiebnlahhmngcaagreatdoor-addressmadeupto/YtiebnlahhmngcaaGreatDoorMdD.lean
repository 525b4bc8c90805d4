import Derived.Test.YtiebnlahhmngcaaGreatDoorCut
import Derived.Test.YtiebnlahhmngcaaGreatDoorRzL
/- AddressMade: Create2. -/
namespace Go.Proofs.YtiebnlahhmngcaaGreatDoor
open Go.RowKit Go.Sort
/-- What holds all along: the world below, the boxes. -/
structure Sm (w W : World) (k : Int) (A S : List Int) : Prop where
  B : Below w.heap.size w W
  k : Nm W w.heap.size k
  a : Bts W (w.heap.size + 1) A
  s : Bts W (w.heap.size + 1 + 1) S
  la : A.length = 20
  ls : S.length = 32
theorem Sm.keep {w W W' : World} {k : Int} {A S : List Int} (h : Sm w W k A S) (hb : Below W.heap.size W W') : Sm w W' k A S :=
  ⟨h.B.trans (hb.mono h.B.size), h.k.keep hb, h.a.keep (by rw [h.la]; decide) hb, h.s.keep (by rw [h.ls]; decide) hb, h.la, h.ls⟩
theorem PtsC.keepM {W W' : World} (B : Below W.heap.size W W') {b : Nat} : ∀ {o : Nat} {ps : List PtC}, PtsC W b o ps → PtsC W' b o ps
  | _, [], _ => trivial
  | o, p :: ps, h => by rw [PtsC] at h ⊢; exact ⟨⟨cell_keep B h.1.1, h.1.2.keep B⟩, PtsC.keepM B h.2⟩
set_option maxRecDepth 100000 in
set_option maxHeartbeats 32000000 in
theorem md3 {w W : World} {k x y fe ge : Int} {i : Bool} {DA DC A S X : List Int} {a : Option Addr} {b o c : Nat} (hB : Bys A) (hSB : Bys S) (hX : X.length < 1073741000) (KM : Hid (KeyM k x y i DA DC fe ge)) (TB : Hid (∀ V, Below w.heap.size w V → Mds V ∧ Cols V ∧ KtC V)) (hp : PtC.ok w ⟨a, b, o, c, X⟩) (SM0 : Sm w W k A S) {t0 t1 t2 t3 t7 t9 t10 t11 t12 t13 t14 t15 t16 t17 t18 t19 t20 t21 t22 t23 t24 t25 t26 t27 t28 t29 t30 t31 t32 t33 t34 t35 t36 t37 t38 t39 t40 t41 t42 t43 t44 t45 t46 t47 t48 t49 t50 t51 t52 t53 t54 t55 t56 t57 t58 t59 t60 t61 t62 t63 t64 t65 t66 t67 t68 t69 t70 t71 t72 t73 t74 t75 t76 t77 t78 t79 t80 t81 t82 t83 t84 t85 t86 t87 t88 t89 t90 t91 t92 t93 t94 t95 t96 t97 t98 t99 t100 t101 t102 t103 t104 t105 t106 t107 t108 t109 t110 t111 t112 t113 t114 t115 t116 t117 t118 t119 t120 t121 t122 t123 t124 t125 t126 t127 t128 t129 t130 : Value} :
    WpFrom Tryz.prog Tryz.f3 3 (bodyPost Tryz.prog Tryz.f3 fun e w' => e = .returned (.bool true) ∧ Below w.heap.size w w') { tmps := #[t0, t1, t2, t3, .slice a X.length c, .pointer (some ⟨w.heap.size, 0, none⟩), .pointer (some ⟨(w.heap.size + 1), 0, none⟩), t7, .pointer (some ⟨(w.heap.size + 1 + 1), 0, none⟩), t9, t10, t11, t12, t13, t14, t15, t16, t17, t18, t19, t20, t21, t22, t23, t24, t25, t26, t27, t28, t29, t30, t31, t32, t33, t34, t35, t36, t37, t38, t39, t40, t41, t42, t43, t44, t45, t46, t47, t48, t49, t50, t51, t52, t53, t54, t55, t56, t57, t58, t59, t60, t61, t62, t63, t64, t65, t66, t67, t68, t69, t70, t71, t72, t73, t74, t75, t76, t77, t78, t79, t80, t81, t82, t83, t84, t85, t86, t87, t88, t89, t90, t91, t92, t93, t94, t95, t96, t97, t98, t99, t100, t101, t102, t103, t104, t105, t106, t107, t108, t109, t110, t111, t112, t113, t114, t115, t116, t117, t118, t119, t120, t121, t122, t123, t124, t125, t126, t127, t128, t129, t130], defers := [] } W := by
  obtain ⟨MA, eMA⟩ : ∃ MA, Hid (MA = A.map (Value.int .u8)) := ⟨_, rfl⟩
  obtain ⟨MS, eMS⟩ : ∃ MS, Hid (MS = S.map (Value.int .u8)) := ⟨_, rfl⟩
  obtain ⟨D3, eD3⟩ : ∃ D3, Hid (D3 = (adrC (cr2X A S X)).map (Value.int .u8)) := ⟨_, rfl⟩
  obtain ⟨N, eN⟩ : ∃ N, Hid (N = kecC X) := ⟨_, rfl⟩
  obtain ⟨M, eM⟩ : ∃ M, Hid (M = N.map (Value.int .u8)) := ⟨_, rfl⟩
  obtain ⟨M4, e4⟩ : ∃ M4, Hid (M4 = (kecC (cr2X A S X)).map (Value.int .u8)) := ⟨_, rfl⟩
  have lN : N.length = 32 := by rw [eN.out, kecC_len]
  have AL : Hid (A.length = 20 ∧ Bys A ∧ S.length = 32 ∧ Bys S ∧ N.length = 32 ∧ Bys N) := ⟨SM0.la, hB, SM0.ls, hSB, lN, by rw [eN.out]; exact kecC_bys X⟩
  have S1 : Hid (∀ V bs, Below w.heap.size w V → PtsC V bs 0 [⟨a, b, o, c, X⟩] → Calls Tryz.prog 11 #[.slice (some ⟨bs, 0, none⟩) 1 1] V fun e w' => e = .returned (.agg M.toArray) ∧ Below V.heap.size V w') := fun V bs B h => by
    have h := ksumC (ps := [⟨a, b, o, c, X⟩]) (n := 1) (c := 1) rfl (by rw [allC_one]; show X.length < _; omega) (by show 1 ≤ 1000; decide) (Nat.le_refl 1) V h (TB.out V B).2.2
    rw [allC_one, show kecC (PtC.X ⟨a, b, o, c, X⟩) = N from eN.out.symm, ← eM.out] at h; exact h
  have CP : Hid (∀ V, Below w.heap.size w V → Calls Tryz.prog 13 #[.slice a X.length c] V fun e w' => ∃ a' g' c', e = .returned (.slice a' X.length c') ∧ PtC.ok w' ⟨a', g', 0, c', X⟩ ∧ Below V.heap.size V w') := fun V B => by
    refine (ecopied_any (X := X) (cd := c) (by omega) hp.1 V (hp.keep B).2.2.2).mono ?_
    rintro e' w' ⟨v, rfl, hO, hb⟩
    obtain ⟨a', g', c', rfl, q1, q2, q3, _, _, q4⟩ := hO.lies
    exact ⟨a', g', c', rfl, ⟨q2, q1, hp.2.2.1, q3⟩, hb⟩
  have CC : Hid (∀ V a' g' c', Below w.heap.size w V → PtC.ok V ⟨a', g', 0, c', X⟩ → Calls Tryz.prog 12 #[.agg MA.toArray, .agg MS.toArray, .slice a' X.length c'] V fun e w' => e = .returned (.agg D3.toArray) ∧ Below V.heap.size V w') := fun V a' g' c' B h => by rw [eMA.out, eMS.out]; exact create2_any rfl SM0.la hB SM0.ls hSB (by omega) eD3 V h (TB.out V B).2.2
  have S4 : Hid (∀ V b5 bh bs, Below w.heap.size w V → PtsC V bs 0 [⟨some ⟨b5, 0, none⟩, b5, 0, 1, [255]⟩, ⟨some ⟨w.heap.size + 1, 0, none⟩, w.heap.size + 1, 0, A.length, A⟩, ⟨some ⟨w.heap.size + 1 + 1, 0, none⟩, w.heap.size + 1 + 1, 0, S.length, S⟩, ⟨some ⟨bh, 0, none⟩, bh, 0, N.length, N⟩] → Calls Tryz.prog 11 #[.slice (some ⟨bs, 0, none⟩) 4 4] V fun e w' => e = .returned (.agg M4.toArray) ∧ Below V.heap.size V w') := fun V b5 bh bs B h => by
    have h := ksumC (ps := [⟨some ⟨b5, 0, none⟩, b5, 0, 1, [255]⟩, ⟨some ⟨w.heap.size + 1, 0, none⟩, w.heap.size + 1, 0, A.length, A⟩, ⟨some ⟨w.heap.size + 1 + 1, 0, none⟩, w.heap.size + 1 + 1, 0, S.length, S⟩, ⟨some ⟨bh, 0, none⟩, bh, 0, N.length, N⟩]) (n := 4) (c := 4) rfl (by rw [allC_four]; simp only [List.length_append, List.length_cons, List.length_nil]; have := AL.out; omega) (by show 4 ≤ 1000; decide) (Nat.le_refl 4) V h (TB.out V B).2.2
    rw [allC_four] at h
    simp only [List.cons_append, List.nil_append] at h
    rw [e4.out, cr2X, ← eN.out]; exact h
  have L4 : Hid (∀ V, Calls Tryz.prog 10 #[.agg M4.toArray] V fun e w' => e = .returned (.agg D3.toArray) ∧ Below V.heap.size V w') := fun V => by rw [eD3.out, adrC]; exact mlast_any (kecC_len _) e4 V
  have EQ3 : ∀ w, (Op.equalIn 10000 26 (.agg D3.toArray) (.agg D3.toArray)).run Tryz.prog w = .ok true w := fun w => by rw [eD3.out, eq_adrJ (adrC_len _) (adrC_len _) w]; simp
  have sz : M.toArray.size = 32 := by rw [eM.out]; simp [lN]
  have oc : M.toArray.all (·.oneCell') = true := by rw [eM.out]; exact one_cells N
  have ST : Hid (∀ (V : World) t, Bts ((V.alloc (.cells ((List.replicate 32 (0 : Int)).map (Value.int .u8)).toArray t)).setCells V.heap.size 0 M) V.heap.size N) := fun V t => by rw [eM.out]; exact (Bts.new (List.replicate 32 0) t rfl).storedA (by simp [lN])
  have ML : Hid (MA.length = 20 ∧ MS.length = 32) := by rw [eMA.out, eMS.out, List.length_map, List.length_map]; exact ⟨SM0.la, SM0.ls⟩
  have RA : Hid (∀ V, Sm w V k A S → V.rangeAt (w.heap.size + 1) 0 MA ∧ V.rangeAt (w.heap.size + 1 + 1) 0 MS) := fun V h => by rw [eMA.out, eMS.out]; exact ⟨h.a.1.range, h.s.1.range⟩
  have HP : Hid (∀ V, Below w.heap.size w V → PtC.ok V ⟨a, b, o, c, X⟩) := fun V h => hp.keep h
  have n0 : 0 < N.length := by rw [lN]; decide
  have N0 : Hid (0 < N.length) := n0
  clear n0 eMA eMS eD3 eN eM e4 lN hB hSB hX hp
  refine WpFrom.intro rfl ?_
  refine wp_seq_k fun K h => ?_
  have H : Hid _ := h
  clear h
  go_wp2_with fail
  refine calls_world (fun V => Sm w V k A S ∧ PtsC V W.heap.size 0 [⟨a, b, o, c, X⟩]) ⟨SM0.keep ((Below.refl _ _).alloc (Nat.le_refl _) _), ptsC_one (HP.out W SM0.B)⟩ ?_
  rintro V ⟨SV, hP⟩
  generalize W.heap.size = bs at *
  clear SM0 W
  with_reducible refine (S1.out V bs SV.B hP).mono ?_
  rintro e w1 ⟨rfl, hb⟩
  replace SV := SV.keep hb
  clear hb hP V S1
  have F1 : ∀ t, Hid (Sm w ((w1.alloc (.cells ((List.replicate 32 (0 : Int)).map (Value.int .u8)).toArray t)).setCells w1.heap.size 0 M) k A S ∧ Bts ((w1.alloc (.cells ((List.replicate 32 (0 : Int)).map (Value.int .u8)).toArray t)).setCells w1.heap.size 0 M) w1.heap.size N) := fun t => ⟨SV.keep (below_setCells (Nat.le_refl _) M 0 _ ((Below.refl _ _).alloc (Nat.le_refl _) _)), ST.out w1 t⟩
  clear SV ST
  go_wp2_with ((refine wpList_store_mid rfl 28 _ _ rfl w1.heap.size 0 M.toArray rfl rfl (there_new rfl (by rw [sz]; rfl)) (by rw [sz]; kernel_rfl) oc ?_); (refine wpList_worldA (fun W => Sm w W k A S ∧ Bts W w1.heap.size N) (F1 _).out ?_); (rintro W ⟨SV, hN⟩); (clear F1 oc sz))
  generalize w1.heap.size = bh at *
  clear w1
  refine H.out _ _ ?_
  clear H K
  have SW : Hid (∀ V, Below W.heap.size W V → Sm w V k A S ∧ Bts V bh N) := fun V h => ⟨SV.keep h, hN.keep N0.out h⟩
  obtain ⟨ra, rs⟩ := RA.out _ SV
  have lra : w.heap.size + 1 < W.heap.size := SV.a.1.lt (by rw [SV.la]; decide)
  have lrs : w.heap.size + 1 + 1 < W.heap.size := SV.s.1.lt (by rw [SV.ls]; decide)
  clear SV hN
  refine wp_seq_k fun K h => ?_
  have H : Hid _ := h
  clear h
  go_wp2_with fail
  refine wp_region_held_drew (S := fun w' => Below W.heap.size W w') (by kernel_rfl) ((Below.refl _ _).drew) (fun hHeld => ?_)
  refine wpAnyH_takeD (i := 0) (oi := _) (v := .agg MA.toArray) 47 rfl (by kernel_rfl) (by kernel_rfl) (by kernel_rfl) (by kernel_rfl) (fun _ _ _ h => h) (Or.inl ⟨by kernel_rfl, ?_⟩) (by assumption) ?_
  · intro wq hSw
    exact yieldsM_mid 26 _ rfl (w.heap.size + 1) 0 rfl MA _ (range_keep ra hSw lra) Tryz.underlying26 rfl (by rw [ML.out.1]; kernel_rfl)
  simp only [Act.put, List.setIfInBounds_toArray, List.set_cons_succ, List.set_cons_zero]
  refine wpAnyH_takeD (i := 1) (oi := _) (v := .agg MS.toArray) 48 rfl (by kernel_rfl) (by kernel_rfl) (by kernel_rfl) (by kernel_rfl) (fun _ _ _ h => h) (Or.inl ⟨by kernel_rfl, ?_⟩) (by assumption) ?_
  · intro wq hSw
    exact yieldsM_mid 28 _ rfl (w.heap.size + 1 + 1) 0 rfl MS _ (range_keep rs hSw lrs) Tryz.underlying28 rfl (by rw [ML.out.2]; kernel_rfl)
  simp only [Act.put, List.setIfInBounds_toArray, List.set_cons_succ, List.set_cons_zero]
  refine wpAnyH_takeD (i := 2) (oi := _) (v := .slice a X.length c) 49 rfl (by kernel_rfl) (by kernel_rfl) (by kernel_rfl) (by kernel_rfl) (fun _ _ _ h => h) (Or.inl ⟨by kernel_rfl, ?_⟩) (by assumption) ?_
  · intro wq hSw
    have _ := hSw
    go_simp
  simp only [Act.put, List.setIfInBounds_toArray, List.set_cons_succ, List.set_cons_zero]
  refine wpAnyH_takeD (i := 6) (oi := _) (v := .slice (some ⟨w.heap.size + 1, 0, none⟩) 20 20) 53 rfl (by kernel_rfl) (by kernel_rfl) (by kernel_rfl) (by kernel_rfl) (fun _ _ _ h => h) (Or.inl ⟨by kernel_rfl, ?_⟩) (by assumption) ?_
  · intro wq hSw
    have _ := hSw
    go_simp
  simp only [Act.put, List.setIfInBounds_toArray, List.set_cons_succ, List.set_cons_zero]
  refine wpAnyH_takeD (i := 7) (oi := _) (v := .slice (some ⟨w.heap.size + 1 + 1, 0, none⟩) 32 32) 54 rfl (by kernel_rfl) (by kernel_rfl) (by kernel_rfl) (by kernel_rfl) (fun _ _ _ h => h) (Or.inl ⟨by kernel_rfl, ?_⟩) (by assumption) ?_
  · intro wq hSw
    have _ := hSw
    go_simp
  simp only [Act.put, List.setIfInBounds_toArray, List.set_cons_succ, List.set_cons_zero]
  refine wpAnyH_takeD (i := 8) (oi := _) (v := .slice (some ⟨bh, 0, none⟩) 32 32) 55 rfl (by kernel_rfl) (by kernel_rfl) (by kernel_rfl) (by kernel_rfl) (fun _ _ _ h => h) (Or.inl ⟨by kernel_rfl, ?_⟩) (by assumption) ?_
  · intro wq hSw
    have _ := hSw
    go_simp
  simp only [Act.put, List.setIfInBounds_toArray, List.set_cons_succ, List.set_cons_zero]
  refine wpAnyH_ready (rs := [3, 5]) (by kernel_rfl) (by simp) ?_
  refine AllReadyH.cons rfl (fun K hK => ?_) (AllReadyH.cons rfl (fun K hK => ?_) AllReadyH.nil)
  · go_simp
    go_wp2_with (go_at_call 13; refine (CP.out _ (SW.out _ hHeld).1.B).mono ?_; rintro e y3 ⟨a', g', c', rfl, hQ, hbx⟩)
    refine hK.out _ _ (hHeld.trans (hbx.mono hHeld.size)) (fun hHeld => ?_)
    clear hK K
    clear hbx
    refine wpAnyH_ready (rs := [4, 5]) (by kernel_rfl) (by simp) ?_
    refine AllReadyH.cons rfl (fun K hK => ?_) (AllReadyH.cons rfl (fun K hK => ?_) AllReadyH.nil)
    · go_simp
      go_wp2_with (go_at_call 12; refine (CC.out _ a' g' c' (SW.out _ hHeld).1.B hQ).mono ?_; rintro e y4 ⟨rfl, hbx⟩)
      refine hK.out _ _ (hHeld.trans (hbx.mono hHeld.size)) (fun hHeld => ?_)
      clear hK K
      clear hQ
      clear hbx
      refine wpAnyH_ready (rs := [5]) (by kernel_rfl) (by simp) ?_
      refine AllReadyH.cons rfl (fun K hK => ?_) AllReadyH.nil
      go_simp
      go_wp2_with fail
      refine kworld (fun V => Below y4.heap.size y4 V ∧ PtC.ok V ⟨some ⟨y4.heap.size, 0, none⟩, y4.heap.size, 0, 1, [255]⟩) ⟨(Below.refl _ _).alloc (Nat.le_refl _) _, (Bts.new (W := y4) [255] _ rfl).pt bys255⟩ ?_
      rintro y5 ⟨hbx, hP0⟩
      refine hK.out _ _ (hHeld.trans (hbx.mono hHeld.size)) (fun hHeld => ?_)
      clear hK K
      clear hbx
      generalize y4.heap.size = b5 at hP0 ⊢
      refine wpAnyH_ready (rs := [9]) (by kernel_rfl) (by simp) ?_
      refine AllReadyH.cons rfl (fun K hK => ?_) AllReadyH.nil
      go_simp
      go_wp2_with fail
      refine kworld (fun U => Below y5.heap.size y5 U ∧ PtsC U y5.heap.size 0 [⟨some ⟨b5, 0, none⟩, b5, 0, 1, [255]⟩, ⟨some ⟨w.heap.size + 1, 0, none⟩, w.heap.size + 1, 0, A.length, A⟩, ⟨some ⟨w.heap.size + 1 + 1, 0, none⟩, w.heap.size + 1 + 1, 0, S.length, S⟩, ⟨some ⟨bh, 0, none⟩, bh, 0, N.length, N⟩]) ⟨(Below.refl _ _).alloc (Nat.le_refl _) _, ptsC_fourE rfl rfl (by rw [PtC.val]; show _ = Value.slice _ A.length A.length; rw [AL.out.1]) (by rw [PtC.val]; show _ = Value.slice _ S.length S.length; rw [AL.out.2.2.1]) (by rw [PtC.val]; show _ = Value.slice _ N.length N.length; rw [AL.out.2.2.2.2.1]) hP0 ((SW.out _ hHeld).1.a.pt AL.out.2.1) ((SW.out _ hHeld).1.s.pt AL.out.2.2.2.1) ((SW.out _ hHeld).2.pt AL.out.2.2.2.2.2)⟩ ?_
      rintro y9 ⟨hbx, hP⟩
      refine hK.out _ _ (hHeld.trans (hbx.mono hHeld.size)) (fun hHeld => ?_)
      clear hK K hP0
      clear hbx
      generalize y5.heap.size = b9 at hP ⊢
      have SM : Hid (∀ _ : Nat, Calls Tryz.prog 11 #[.slice (some ⟨b9, 0, none⟩) 4 4] y9 fun e w' => e = .returned (.agg M4.toArray) ∧ Below y9.heap.size y9 w') := fun _ => S4.out y9 b5 bh _ (SW.out _ hHeld).1.B hP
      clear hP
      refine wpAnyH_ready (rs := [10]) (by kernel_rfl) (by simp) ?_
      refine AllReadyH.cons rfl (fun K hK => ?_) AllReadyH.nil
      go_simp
      go_wp2_with (go_at_call 11; refine (SM.out 0).mono ?_; rintro e y10 ⟨rfl, hbx⟩)
      refine hK.out _ _ (hHeld.trans (hbx.mono hHeld.size)) (fun hHeld => ?_)
      clear hK K
      clear hbx
      refine wpAnyH_ready (rs := [11]) (by kernel_rfl) (by simp) ?_
      refine AllReadyH.cons rfl (fun K hK => ?_) AllReadyH.nil
      go_simp
      go_wp2_with (go_at_call 10; refine (L4.out _).mono ?_; rintro e y11 ⟨rfl, hbx⟩)
      refine hK.out _ _ (hHeld.trans (hbx.mono hHeld.size)) (fun hHeld => ?_)
      clear hK K
      clear hbx
      refine wpAnyH_takeD (i := 12) (oi := _) (v := .bool false) 59 rfl (by kernel_rfl) (by kernel_rfl) (by kernel_rfl) (by kernel_rfl) (fun _ _ _ h => h) (Or.inl ⟨by kernel_rfl, ?_⟩) (by assumption) ?_
      · intro wq hSw
        have q := EQ3 wq
        go_simp
      simp only [Act.put, List.setIfInBounds_toArray, List.set_cons_succ, List.set_cons_zero]
      refine wpAnyH_done (by kernel_rfl) ?_ _
      have SX : Hid _ := SW.out _ hHeld
      clear hHeld SW
      go_wp2_with fail
      refine H.out _ _ ?_
      exact (md5 KM TB SX.out.1.B SX.out.1.k).out rfl
    · go_simp
      go_wp2_with fail
      refine kworld (fun V => Below y3.heap.size y3 V ∧ PtC.ok V ⟨some ⟨y3.heap.size, 0, none⟩, y3.heap.size, 0, 1, [255]⟩) ⟨(Below.refl _ _).alloc (Nat.le_refl _) _, (Bts.new (W := y3) [255] _ rfl).pt bys255⟩ ?_
      rintro y5 ⟨hbx, hP0⟩
      refine hK.out _ _ (hHeld.trans (hbx.mono hHeld.size)) (fun hHeld => ?_)
      clear hK K
      replace hQ := hQ.keep hbx
      clear hbx
      generalize y3.heap.size = b5 at hP0 ⊢
      refine wpAnyH_ready (rs := [4, 9]) (by kernel_rfl) (by simp) ?_
      refine AllReadyH.cons rfl (fun K hK => ?_) (AllReadyH.cons rfl (fun K hK => ?_) AllReadyH.nil)
      · go_simp
        go_wp2_with (go_at_call 12; refine (CC.out _ a' g' c' (SW.out _ hHeld).1.B hQ).mono ?_; rintro e y4 ⟨rfl, hbx⟩)
        refine hK.out _ _ (hHeld.trans (hbx.mono hHeld.size)) (fun hHeld => ?_)
        clear hK K
        clear hQ
        replace hP0 := hP0.keep hbx
        clear hbx
        refine wpAnyH_ready (rs := [9]) (by kernel_rfl) (by simp) ?_
        refine AllReadyH.cons rfl (fun K hK => ?_) AllReadyH.nil
        go_simp
        go_wp2_with fail
        refine kworld (fun U => Below y4.heap.size y4 U ∧ PtsC U y4.heap.size 0 [⟨some ⟨b5, 0, none⟩, b5, 0, 1, [255]⟩, ⟨some ⟨w.heap.size + 1, 0, none⟩, w.heap.size + 1, 0, A.length, A⟩, ⟨some ⟨w.heap.size + 1 + 1, 0, none⟩, w.heap.size + 1 + 1, 0, S.length, S⟩, ⟨some ⟨bh, 0, none⟩, bh, 0, N.length, N⟩]) ⟨(Below.refl _ _).alloc (Nat.le_refl _) _, ptsC_fourE rfl rfl (by rw [PtC.val]; show _ = Value.slice _ A.length A.length; rw [AL.out.1]) (by rw [PtC.val]; show _ = Value.slice _ S.length S.length; rw [AL.out.2.2.1]) (by rw [PtC.val]; show _ = Value.slice _ N.length N.length; rw [AL.out.2.2.2.2.1]) hP0 ((SW.out _ hHeld).1.a.pt AL.out.2.1) ((SW.out _ hHeld).1.s.pt AL.out.2.2.2.1) ((SW.out _ hHeld).2.pt AL.out.2.2.2.2.2)⟩ ?_
        rintro y9 ⟨hbx, hP⟩
        refine hK.out _ _ (hHeld.trans (hbx.mono hHeld.size)) (fun hHeld => ?_)
        clear hK K hP0
        clear hbx
        generalize y4.heap.size = b9 at hP ⊢
        have SM : Hid (∀ _ : Nat, Calls Tryz.prog 11 #[.slice (some ⟨b9, 0, none⟩) 4 4] y9 fun e w' => e = .returned (.agg M4.toArray) ∧ Below y9.heap.size y9 w') := fun _ => S4.out y9 b5 bh _ (SW.out _ hHeld).1.B hP
        clear hP
        refine wpAnyH_ready (rs := [10]) (by kernel_rfl) (by simp) ?_
        refine AllReadyH.cons rfl (fun K hK => ?_) AllReadyH.nil
        go_simp
        go_wp2_with (go_at_call 11; refine (SM.out 0).mono ?_; rintro e y10 ⟨rfl, hbx⟩)
        refine hK.out _ _ (hHeld.trans (hbx.mono hHeld.size)) (fun hHeld => ?_)
        clear hK K
        clear hbx
        refine wpAnyH_ready (rs := [11]) (by kernel_rfl) (by simp) ?_
        refine AllReadyH.cons rfl (fun K hK => ?_) AllReadyH.nil
        go_simp
        go_wp2_with (go_at_call 10; refine (L4.out _).mono ?_; rintro e y11 ⟨rfl, hbx⟩)
        refine hK.out _ _ (hHeld.trans (hbx.mono hHeld.size)) (fun hHeld => ?_)
        clear hK K
        clear hbx
        refine wpAnyH_takeD (i := 12) (oi := _) (v := .bool false) 59 rfl (by kernel_rfl) (by kernel_rfl) (by kernel_rfl) (by kernel_rfl) (fun _ _ _ h => h) (Or.inl ⟨by kernel_rfl, ?_⟩) (by assumption) ?_
        · intro wq hSw
          have q := EQ3 wq
          go_simp
        simp only [Act.put, List.setIfInBounds_toArray, List.set_cons_succ, List.set_cons_zero]
        refine wpAnyH_done (by kernel_rfl) ?_ _
        have SX : Hid _ := SW.out _ hHeld
        clear hHeld SW
        go_wp2_with fail
        refine H.out _ _ ?_
        exact (md5 KM TB SX.out.1.B SX.out.1.k).out rfl
      · go_simp
        go_wp2_with fail
        refine kworld (fun U => Below y5.heap.size y5 U ∧ PtsC U y5.heap.size 0 [⟨some ⟨b5, 0, none⟩, b5, 0, 1, [255]⟩, ⟨some ⟨w.heap.size + 1, 0, none⟩, w.heap.size + 1, 0, A.length, A⟩, ⟨some ⟨w.heap.size + 1 + 1, 0, none⟩, w.heap.size + 1 + 1, 0, S.length, S⟩, ⟨some ⟨bh, 0, none⟩, bh, 0, N.length, N⟩]) ⟨(Below.refl _ _).alloc (Nat.le_refl _) _, ptsC_fourE rfl rfl (by rw [PtC.val]; show _ = Value.slice _ A.length A.length; rw [AL.out.1]) (by rw [PtC.val]; show _ = Value.slice _ S.length S.length; rw [AL.out.2.2.1]) (by rw [PtC.val]; show _ = Value.slice _ N.length N.length; rw [AL.out.2.2.2.2.1]) hP0 ((SW.out _ hHeld).1.a.pt AL.out.2.1) ((SW.out _ hHeld).1.s.pt AL.out.2.2.2.1) ((SW.out _ hHeld).2.pt AL.out.2.2.2.2.2)⟩ ?_
        rintro y9 ⟨hbx, hP⟩
        refine hK.out _ _ (hHeld.trans (hbx.mono hHeld.size)) (fun hHeld => ?_)
        clear hK K hP0
        replace hQ := hQ.keep hbx
        clear hbx
        generalize y5.heap.size = b9 at hP ⊢
        refine wpAnyH_ready (rs := [4]) (by kernel_rfl) (by simp) ?_
        refine AllReadyH.cons rfl (fun K hK => ?_) AllReadyH.nil
        go_simp
        go_wp2_with (go_at_call 12; refine (CC.out _ a' g' c' (SW.out _ hHeld).1.B hQ).mono ?_; rintro e y4 ⟨rfl, hbx⟩)
        refine hK.out _ _ (hHeld.trans (hbx.mono hHeld.size)) (fun hHeld => ?_)
        clear hK K
        clear hQ
        replace hP := PtsC.keepM hbx hP
        clear hbx
        have SM : Hid (∀ _ : Nat, Calls Tryz.prog 11 #[.slice (some ⟨b9, 0, none⟩) 4 4] y4 fun e w' => e = .returned (.agg M4.toArray) ∧ Below y4.heap.size y4 w') := fun _ => S4.out y4 b5 bh _ (SW.out _ hHeld).1.B hP
        clear hP
        refine wpAnyH_ready (rs := [10]) (by kernel_rfl) (by simp) ?_
        refine AllReadyH.cons rfl (fun K hK => ?_) AllReadyH.nil
        go_simp
        go_wp2_with (go_at_call 11; refine (SM.out 0).mono ?_; rintro e y10 ⟨rfl, hbx⟩)
        refine hK.out _ _ (hHeld.trans (hbx.mono hHeld.size)) (fun hHeld => ?_)
        clear hK K
        clear hbx
        refine wpAnyH_ready (rs := [11]) (by kernel_rfl) (by simp) ?_
        refine AllReadyH.cons rfl (fun K hK => ?_) AllReadyH.nil
        go_simp
        go_wp2_with (go_at_call 10; refine (L4.out _).mono ?_; rintro e y11 ⟨rfl, hbx⟩)
        refine hK.out _ _ (hHeld.trans (hbx.mono hHeld.size)) (fun hHeld => ?_)
        clear hK K
        clear hbx
        refine wpAnyH_takeD (i := 12) (oi := _) (v := .bool false) 59 rfl (by kernel_rfl) (by kernel_rfl) (by kernel_rfl) (by kernel_rfl) (fun _ _ _ h => h) (Or.inl ⟨by kernel_rfl, ?_⟩) (by assumption) ?_
        · intro wq hSw
          have q := EQ3 wq
          go_simp
        simp only [Act.put, List.setIfInBounds_toArray, List.set_cons_succ, List.set_cons_zero]
        refine wpAnyH_done (by kernel_rfl) ?_ _
        have SX : Hid _ := SW.out _ hHeld
        clear hHeld SW
        go_wp2_with fail
        refine H.out _ _ ?_
        exact (md5 KM TB SX.out.1.B SX.out.1.k).out rfl
  · go_simp
    go_wp2_with fail
    refine kworld (fun V => Below W.heap.size W V ∧ PtC.ok V ⟨some ⟨W.heap.size, 0, none⟩, W.heap.size, 0, 1, [255]⟩) ⟨((Below.refl _ _).alloc (Nat.le_refl _) _).drew, ((Bts.new (W := W) [255] _ rfl).pt bys255).keep ((Below.refl _ _).drew)⟩ ?_
    rintro y5 ⟨hbx, hP0⟩
    refine hK.out _ _ hbx (fun hHeld => ?_)
    clear hK K
    clear hbx
    refine wpAnyH_ready (rs := [3, 9]) (by kernel_rfl) (by simp) ?_
    refine AllReadyH.cons rfl (fun K hK => ?_) (AllReadyH.cons rfl (fun K hK => ?_) AllReadyH.nil)
    · go_simp
      go_wp2_with (go_at_call 13; refine (CP.out _ (SW.out _ hHeld).1.B).mono ?_; rintro e y3 ⟨a', g', c', rfl, hQ, hbx⟩)
      refine hK.out _ _ (hHeld.trans (hbx.mono hHeld.size)) (fun hHeld => ?_)
      clear hK K
      replace hP0 := hP0.keep hbx
      clear hbx
      refine wpAnyH_ready (rs := [4, 9]) (by kernel_rfl) (by simp) ?_
      refine AllReadyH.cons rfl (fun K hK => ?_) (AllReadyH.cons rfl (fun K hK => ?_) AllReadyH.nil)
      · go_simp
        go_wp2_with (go_at_call 12; refine (CC.out _ a' g' c' (SW.out _ hHeld).1.B hQ).mono ?_; rintro e y4 ⟨rfl, hbx⟩)
        refine hK.out _ _ (hHeld.trans (hbx.mono hHeld.size)) (fun hHeld => ?_)
        clear hK K
        clear hQ
        replace hP0 := hP0.keep hbx
        clear hbx
        refine wpAnyH_ready (rs := [9]) (by kernel_rfl) (by simp) ?_
        refine AllReadyH.cons rfl (fun K hK => ?_) AllReadyH.nil
        go_simp
        go_wp2_with fail
        refine kworld (fun U => Below y4.heap.size y4 U ∧ PtsC U y4.heap.size 0 [⟨some ⟨W.heap.size, 0, none⟩, W.heap.size, 0, 1, [255]⟩, ⟨some ⟨w.heap.size + 1, 0, none⟩, w.heap.size + 1, 0, A.length, A⟩, ⟨some ⟨w.heap.size + 1 + 1, 0, none⟩, w.heap.size + 1 + 1, 0, S.length, S⟩, ⟨some ⟨bh, 0, none⟩, bh, 0, N.length, N⟩]) ⟨(Below.refl _ _).alloc (Nat.le_refl _) _, ptsC_fourE rfl rfl (by rw [PtC.val]; show _ = Value.slice _ A.length A.length; rw [AL.out.1]) (by rw [PtC.val]; show _ = Value.slice _ S.length S.length; rw [AL.out.2.2.1]) (by rw [PtC.val]; show _ = Value.slice _ N.length N.length; rw [AL.out.2.2.2.2.1]) hP0 ((SW.out _ hHeld).1.a.pt AL.out.2.1) ((SW.out _ hHeld).1.s.pt AL.out.2.2.2.1) ((SW.out _ hHeld).2.pt AL.out.2.2.2.2.2)⟩ ?_
        rintro y9 ⟨hbx, hP⟩
        refine hK.out _ _ (hHeld.trans (hbx.mono hHeld.size)) (fun hHeld => ?_)
        clear hK K hP0
        clear hbx
        generalize y4.heap.size = b9 at hP ⊢
        have SM : Hid (∀ _ : Nat, Calls Tryz.prog 11 #[.slice (some ⟨b9, 0, none⟩) 4 4] y9 fun e w' => e = .returned (.agg M4.toArray) ∧ Below y9.heap.size y9 w') := fun _ => S4.out y9 W.heap.size bh _ (SW.out _ hHeld).1.B hP
        clear hP
        refine wpAnyH_ready (rs := [10]) (by kernel_rfl) (by simp) ?_
        refine AllReadyH.cons rfl (fun K hK => ?_) AllReadyH.nil
        go_simp
        go_wp2_with (go_at_call 11; refine (SM.out 0).mono ?_; rintro e y10 ⟨rfl, hbx⟩)
        refine hK.out _ _ (hHeld.trans (hbx.mono hHeld.size)) (fun hHeld => ?_)
        clear hK K
        clear hbx
        refine wpAnyH_ready (rs := [11]) (by kernel_rfl) (by simp) ?_
        refine AllReadyH.cons rfl (fun K hK => ?_) AllReadyH.nil
        go_simp
        go_wp2_with (go_at_call 10; refine (L4.out _).mono ?_; rintro e y11 ⟨rfl, hbx⟩)
        refine hK.out _ _ (hHeld.trans (hbx.mono hHeld.size)) (fun hHeld => ?_)
        clear hK K
        clear hbx
        refine wpAnyH_takeD (i := 12) (oi := _) (v := .bool false) 59 rfl (by kernel_rfl) (by kernel_rfl) (by kernel_rfl) (by kernel_rfl) (fun _ _ _ h => h) (Or.inl ⟨by kernel_rfl, ?_⟩) (by assumption) ?_
        · intro wq hSw
          have q := EQ3 wq
          go_simp
        simp only [Act.put, List.setIfInBounds_toArray, List.set_cons_succ, List.set_cons_zero]
        refine wpAnyH_done (by kernel_rfl) ?_ _
        have SX : Hid _ := SW.out _ hHeld
        clear hHeld SW
        go_wp2_with fail
        refine H.out _ _ ?_
        exact (md5 KM TB SX.out.1.B SX.out.1.k).out rfl
      · go_simp
        go_wp2_with fail
        refine kworld (fun U => Below y3.heap.size y3 U ∧ PtsC U y3.heap.size 0 [⟨some ⟨W.heap.size, 0, none⟩, W.heap.size, 0, 1, [255]⟩, ⟨some ⟨w.heap.size + 1, 0, none⟩, w.heap.size + 1, 0, A.length, A⟩, ⟨some ⟨w.heap.size + 1 + 1, 0, none⟩, w.heap.size + 1 + 1, 0, S.length, S⟩, ⟨some ⟨bh, 0, none⟩, bh, 0, N.length, N⟩]) ⟨(Below.refl _ _).alloc (Nat.le_refl _) _, ptsC_fourE rfl rfl (by rw [PtC.val]; show _ = Value.slice _ A.length A.length; rw [AL.out.1]) (by rw [PtC.val]; show _ = Value.slice _ S.length S.length; rw [AL.out.2.2.1]) (by rw [PtC.val]; show _ = Value.slice _ N.length N.length; rw [AL.out.2.2.2.2.1]) hP0 ((SW.out _ hHeld).1.a.pt AL.out.2.1) ((SW.out _ hHeld).1.s.pt AL.out.2.2.2.1) ((SW.out _ hHeld).2.pt AL.out.2.2.2.2.2)⟩ ?_
        rintro y9 ⟨hbx, hP⟩
        refine hK.out _ _ (hHeld.trans (hbx.mono hHeld.size)) (fun hHeld => ?_)
        clear hK K hP0
        replace hQ := hQ.keep hbx
        clear hbx
        generalize y3.heap.size = b9 at hP ⊢
        refine wpAnyH_ready (rs := [4]) (by kernel_rfl) (by simp) ?_
        refine AllReadyH.cons rfl (fun K hK => ?_) AllReadyH.nil
        go_simp
        go_wp2_with (go_at_call 12; refine (CC.out _ a' g' c' (SW.out _ hHeld).1.B hQ).mono ?_; rintro e y4 ⟨rfl, hbx⟩)
        refine hK.out _ _ (hHeld.trans (hbx.mono hHeld.size)) (fun hHeld => ?_)
        clear hK K
        clear hQ
        replace hP := PtsC.keepM hbx hP
        clear hbx
        have SM : Hid (∀ _ : Nat, Calls Tryz.prog 11 #[.slice (some ⟨b9, 0, none⟩) 4 4] y4 fun e w' => e = .returned (.agg M4.toArray) ∧ Below y4.heap.size y4 w') := fun _ => S4.out y4 W.heap.size bh _ (SW.out _ hHeld).1.B hP
        clear hP
        refine wpAnyH_ready (rs := [10]) (by kernel_rfl) (by simp) ?_
        refine AllReadyH.cons rfl (fun K hK => ?_) AllReadyH.nil
        go_simp
        go_wp2_with (go_at_call 11; refine (SM.out 0).mono ?_; rintro e y10 ⟨rfl, hbx⟩)
        refine hK.out _ _ (hHeld.trans (hbx.mono hHeld.size)) (fun hHeld => ?_)
        clear hK K
        clear hbx
        refine wpAnyH_ready (rs := [11]) (by kernel_rfl) (by simp) ?_
        refine AllReadyH.cons rfl (fun K hK => ?_) AllReadyH.nil
        go_simp
        go_wp2_with (go_at_call 10; refine (L4.out _).mono ?_; rintro e y11 ⟨rfl, hbx⟩)
        refine hK.out _ _ (hHeld.trans (hbx.mono hHeld.size)) (fun hHeld => ?_)
        clear hK K
        clear hbx
        refine wpAnyH_takeD (i := 12) (oi := _) (v := .bool false) 59 rfl (by kernel_rfl) (by kernel_rfl) (by kernel_rfl) (by kernel_rfl) (fun _ _ _ h => h) (Or.inl ⟨by kernel_rfl, ?_⟩) (by assumption) ?_
        · intro wq hSw
          have q := EQ3 wq
          go_simp
        simp only [Act.put, List.setIfInBounds_toArray, List.set_cons_succ, List.set_cons_zero]
        refine wpAnyH_done (by kernel_rfl) ?_ _
        have SX : Hid _ := SW.out _ hHeld
        clear hHeld SW
        go_wp2_with fail
        refine H.out _ _ ?_
        exact (md5 KM TB SX.out.1.B SX.out.1.k).out rfl
    · go_simp
      go_wp2_with fail
      refine kworld (fun U => Below y5.heap.size y5 U ∧ PtsC U y5.heap.size 0 [⟨some ⟨W.heap.size, 0, none⟩, W.heap.size, 0, 1, [255]⟩, ⟨some ⟨w.heap.size + 1, 0, none⟩, w.heap.size + 1, 0, A.length, A⟩, ⟨some ⟨w.heap.size + 1 + 1, 0, none⟩, w.heap.size + 1 + 1, 0, S.length, S⟩, ⟨some ⟨bh, 0, none⟩, bh, 0, N.length, N⟩]) ⟨(Below.refl _ _).alloc (Nat.le_refl _) _, ptsC_fourE rfl rfl (by rw [PtC.val]; show _ = Value.slice _ A.length A.length; rw [AL.out.1]) (by rw [PtC.val]; show _ = Value.slice _ S.length S.length; rw [AL.out.2.2.1]) (by rw [PtC.val]; show _ = Value.slice _ N.length N.length; rw [AL.out.2.2.2.2.1]) hP0 ((SW.out _ hHeld).1.a.pt AL.out.2.1) ((SW.out _ hHeld).1.s.pt AL.out.2.2.2.1) ((SW.out _ hHeld).2.pt AL.out.2.2.2.2.2)⟩ ?_
      rintro y9 ⟨hbx, hP⟩
      refine hK.out _ _ (hHeld.trans (hbx.mono hHeld.size)) (fun hHeld => ?_)
      clear hK K hP0
      clear hbx
      generalize y5.heap.size = b9 at hP ⊢
      refine wpAnyH_ready (rs := [3]) (by kernel_rfl) (by simp) ?_
      refine AllReadyH.cons rfl (fun K hK => ?_) AllReadyH.nil
      go_simp
      go_wp2_with (go_at_call 13; refine (CP.out _ (SW.out _ hHeld).1.B).mono ?_; rintro e y3 ⟨a', g', c', rfl, hQ, hbx⟩)
      refine hK.out _ _ (hHeld.trans (hbx.mono hHeld.size)) (fun hHeld => ?_)
      clear hK K
      replace hP := PtsC.keepM hbx hP
      clear hbx
      refine wpAnyH_ready (rs := [4]) (by kernel_rfl) (by simp) ?_
      refine AllReadyH.cons rfl (fun K hK => ?_) AllReadyH.nil
      go_simp
      go_wp2_with (go_at_call 12; refine (CC.out _ a' g' c' (SW.out _ hHeld).1.B hQ).mono ?_; rintro e y4 ⟨rfl, hbx⟩)
      refine hK.out _ _ (hHeld.trans (hbx.mono hHeld.size)) (fun hHeld => ?_)
      clear hK K
      clear hQ
      replace hP := PtsC.keepM hbx hP
      clear hbx
      have SM : Hid (∀ _ : Nat, Calls Tryz.prog 11 #[.slice (some ⟨b9, 0, none⟩) 4 4] y4 fun e w' => e = .returned (.agg M4.toArray) ∧ Below y4.heap.size y4 w') := fun _ => S4.out y4 W.heap.size bh _ (SW.out _ hHeld).1.B hP
      clear hP
      refine wpAnyH_ready (rs := [10]) (by kernel_rfl) (by simp) ?_
      refine AllReadyH.cons rfl (fun K hK => ?_) AllReadyH.nil
      go_simp
      go_wp2_with (go_at_call 11; refine (SM.out 0).mono ?_; rintro e y10 ⟨rfl, hbx⟩)
      refine hK.out _ _ (hHeld.trans (hbx.mono hHeld.size)) (fun hHeld => ?_)
      clear hK K
      clear hbx
      refine wpAnyH_ready (rs := [11]) (by kernel_rfl) (by simp) ?_
      refine AllReadyH.cons rfl (fun K hK => ?_) AllReadyH.nil
      go_simp
      go_wp2_with (go_at_call 10; refine (L4.out _).mono ?_; rintro e y11 ⟨rfl, hbx⟩)
      refine hK.out _ _ (hHeld.trans (hbx.mono hHeld.size)) (fun hHeld => ?_)
      clear hK K
      clear hbx
      refine wpAnyH_takeD (i := 12) (oi := _) (v := .bool false) 59 rfl (by kernel_rfl) (by kernel_rfl) (by kernel_rfl) (by kernel_rfl) (fun _ _ _ h => h) (Or.inl ⟨by kernel_rfl, ?_⟩) (by assumption) ?_
      · intro wq hSw
        have q := EQ3 wq
        go_simp
      simp only [Act.put, List.setIfInBounds_toArray, List.set_cons_succ, List.set_cons_zero]
      refine wpAnyH_done (by kernel_rfl) ?_ _
      have SX : Hid _ := SW.out _ hHeld
      clear hHeld SW
      go_wp2_with fail
      refine H.out _ _ ?_
      exact (md5 KM TB SX.out.1.B SX.out.1.k).out rfl
end Go.Proofs.YtiebnlahhmngcaaGreatDoor

/- AddressMade: the law. -/
namespace Go.Proofs.YtiebnlahhmngcaaGreatDoor
open Go.RowKit Go.Sort
set_option maxRecDepth 100000 in
set_option maxHeartbeats 16000000 in
theorem made_any {k n : Int} {A S X : List Int} {a : Option Addr} {b o c : Nat} (hk : Num k) (hA : A.length = 20) (hB : Bys A) (hn : Word n) (hS : S.length = 32) (hSB : Bys S) (hX : X.length < 1073741000) (w : World) (hp : PtC.ok w ⟨a, b, o, c, X⟩) (hm : Mds w) (hc : Cols w) (ht : KtC w) :
    Calls Tryz.prog 3 #[.agg #[.int .u64 (l0 k), .int .u64 (l1 k), .int .u64 (l2 k), .int .u64 (l3 k)], .agg (A.map (Value.int .u8)).toArray, .int .u64 n, .agg (S.map (Value.int .u8)).toArray, .slice a X.length c] w fun e w' => e = .returned (.bool true) ∧ Below w.heap.size w w' := by
  obtain ⟨x, y, i, DA, DC, fe, ge, KM0⟩ := key_cases hk
  have KM : Hid (KeyM k x y i DA DC fe ge) := KM0
  have TB : Hid (∀ V, Below w.heap.size w V → Mds V ∧ Cols V ∧ KtC V) := fun V h => ⟨hm.keep h, hc.keep h, ht.keep h⟩
  have HH : Hid (Bys A ∧ Bys S ∧ X.length < 1073741000 ∧ PtC.ok w ⟨a, b, o, c, X⟩) := ⟨hB, hSB, hX, hp⟩
  obtain ⟨MA, eMA⟩ : ∃ MA, Hid (MA = A.map (Value.int .u8)) := ⟨_, rfl⟩
  obtain ⟨MS, eMS⟩ : ∃ MS, Hid (MS = S.map (Value.int .u8)) := ⟨_, rfl⟩
  obtain ⟨D2, eD2⟩ : ∃ D2, Hid (D2 = (adrC (creX A n)).map (Value.int .u8)) := ⟨_, rfl⟩
  obtain ⟨Y, eY⟩ : ∃ Y, Hid (Y = creX A n) := ⟨_, rfl⟩
  obtain ⟨M2, eM2⟩ : ∃ M2, Hid (M2 = (kecC Y).map (Value.int .u8)) := ⟨_, rfl⟩
  have hm' : Num n := by obtain ⟨h1, h2⟩ := hn; exact ⟨h1, by omega⟩
  have C1 : Hid (∀ W g, Bts W g A → Calls Tryz.prog 6 #[.slice (some ⟨g, 0, none⟩) 20 20] W fun e w' => ∃ d q, e = .returned (.agg #[.bool false, d, q]) ∧ It w' (.mk false A []) d q ∧ Below W.heap.size W w') := fun W g h => (text_any hA.symm (by omega) (.inr rfl) W (fun i hi => by rw [Nat.zero_add]; exact h.1 i hi)).mono fun e w' ⟨d, q, h1, h2, h3⟩ => ⟨d, q, h1, Ot.it _ h2, h3⟩
  have C0 : Hid (∀ W : World, Calls Tryz.prog 8 #[.int .u64 n] W fun e w' => e = .returned (.agg #[.int .u64 (l0 n), .int .u64 (l1 n), .int .u64 (l2 n), .int .u64 (l3 n)]) ∧ Below W.heap.size W w') := fun W => from_any hn W
  have C2 : Hid (∀ W, Calls Tryz.prog 7 #[.agg #[.int .u64 (l0 n), .int .u64 (l1 n), .int .u64 (l2 n), .int .u64 (l3 n)]] W fun e w' => ∃ d q, e = .returned (.agg #[.bool false, d, q]) ∧ It w' (.mk false (stripL (putL n)) []) d q ∧ Below W.heap.size W w') := fun W => (numbT_any hm' W).mono fun e w' ⟨d, q, h1, h2, h3⟩ => ⟨d, q, h1, Ot.it _ h2, h3⟩
  have C3 : Hid (∀ W g, Its W g 0 [.mk false A [], .mk false (stripL (putL n)) []] → Calls Tryz.prog 5 #[.slice (some ⟨g, 0, none⟩) 2 2] W fun e w' => ∃ d q, e = .returned (.agg #[.bool true, d, q]) ∧ It w' (creT A (stripL (putL n))) d q ∧ Below W.heap.size W w') := fun W g h => (list_any (ts := [.mk false A [], .mk false (stripL (putL n)) []]) (by have h := creX_len (n := n) hA; rw [creT, wtT] at h; omega) (.inr rfl) W h).mono fun e w' ⟨d, q, h1, h2, h3⟩ => ⟨d, q, h1, Ot.it _ h2, h3⟩
  have C4 : Hid (∀ W d q, It W (creT A (stripL (putL n))) d q → Calls Tryz.prog 4 #[.agg #[.bool true, d, q]] W fun e w' => ∃ a g c, e = .returned (.tuple #[.slice a Y.length c, .int .i64 0]) ∧ PtC.ok w' ⟨a, g, 0, c, Y⟩ ∧ Below W.heap.size W w') := fun W d q h => by
    refine (Encode_any (by have := creX_len (n := n) hA; omega) W h).mono ?_
    rintro e w' ⟨v, rfl, h2, h3⟩
    rw [encZ_cre, creT_err] at *
    obtain ⟨a, g, c, rfl, h5, h6, h7, _, _, h8⟩ := h2.lies
    rw [eY.out]
    exact ⟨a, g, c, rfl, ⟨h6, h5, creX_by hA hB, h7⟩, h3⟩
  have CA : Hid (∀ V, Below w.heap.size w V → Calls Tryz.prog 9 #[.agg MA.toArray, .int .u64 n] V fun e w' => e = .returned (.agg D2.toArray) ∧ Below V.heap.size V w') := fun V h => by rw [eMA.out]; exact create_any hA hB hn eD2 V (TB.out V h).2.2
  have lY : Y.length ≤ 1000 := by rw [eY.out]; exact creX_wt hA
  have S2 : Hid (∀ V bs a1 g1 c1, Below w.heap.size w V → PtsC V bs 0 [⟨a1, g1, 0, c1, Y⟩] → Calls Tryz.prog 11 #[.slice (some ⟨bs, 0, none⟩) 1 1] V fun e w' => e = .returned (.agg M2.toArray) ∧ Below V.heap.size V w') := fun V bs a1 g1 c1 B h => by
    have h := ksumC (ps := [⟨a1, g1, 0, c1, Y⟩]) (n := 1) (c := 1) rfl (by rw [allC_one]; show Y.length < _; omega) (by show 1 ≤ 1000; decide) (Nat.le_refl 1) V h (TB.out V B).2.2
    rw [allC_one, ← eM2.out] at h; exact h
  have L2 : Hid (∀ V, Calls Tryz.prog 10 #[.agg M2.toArray] V fun e w' => e = .returned (.agg D2.toArray) ∧ Below V.heap.size V w') := fun V => by rw [eD2.out, adrC, ← eY.out]; exact mlast_any (kecC_len _) eM2 V
  have EQ2 : ∀ w, (Op.equalIn 10000 26 (.agg D2.toArray) (.agg D2.toArray)).run Tryz.prog w = .ok true w := fun w => by rw [eD2.out, eq_adrJ (adrC_len _) (adrC_len _) w]; simp
  have ml : MA.length = 20 := by rw [eMA.out, List.length_map]; exact hA
  have ML : Hid (MA.length = 20) := ml
  have N0 : Hid (∀ t1 t2 t3, Sm w (((w.alloc (.cells #[.int .u64 (l0 k), .int .u64 (l1 k), .int .u64 (l2 k), .int .u64 (l3 k)] t1)).alloc (.cells MA.toArray t2)).alloc (.cells MS.toArray t3)) k A S) := fun t1 t2 t3 => by
    rw [eMA.out, eMS.out]
    exact ⟨(((Below.refl _ _).alloc (Nat.le_refl _) _).alloc (by simp) _).alloc (by simp; omega) _, ((Nm.newb rfl).alloc _).alloc _, (Bts.new A _ (by simp)).alloc (by omega) _, Bts.new S _ (by simp), hA, hS⟩
  have RA : Hid (∀ V, Sm w V k A S → V.rangeAt (w.heap.size + 1) 0 MA) := fun V h => by rw [eMA.out]; exact h.a.1.range
  rw [← eMA.out, ← eMS.out]
  clear eMA eMS eD2 eY eM2 lY ml hm' hk hA hB hn hS hSB hX hp hm hc ht KM0
  generalize stripL (putL n) = nL at *
  generalize creT A nL = tL at *
  go_enter Tryz.func3, Tryz.ntmps3
  refine wp_seq_k fun K h => ?_
  have H : Hid _ := h
  clear h
  go_wp2_with fail
  refine kworld (fun V => Sm w V k A S) (N0.out _ _ _) ?_
  rintro V SV
  refine H.out _ _ ?_
  clear H K N0
  refine wp_seq_k fun K h => ?_
  have H : Hid _ := h
  clear h
  go_wp2_with fail
  with_reducible refine (C1.out V _ SV.a).mono ?_
  rintro e w1 ⟨d0, q0, rfl, hO0, hb⟩
  replace SV := SV.keep hb
  clear hb C1 V
  go_wp2_with fail
  with_reducible refine (C0.out w1).mono ?_
  rintro e w2 ⟨rfl, hb⟩
  replace SV := SV.keep hb
  replace hO0 := It.keep hb _ hO0
  clear hb C0 w1
  go_wp2_with fail
  with_reducible refine (C2.out w2).mono ?_
  rintro e w1 ⟨d1, q1, rfl, hO1, hb⟩
  replace SV := SV.keep hb
  replace hO0 := It.keep hb _ hO0
  clear hb C2 w2
  go_wp2_with fail
  refine calls_world (fun W => Sm w W k A S ∧ Its W w1.heap.size 0 [.mk false A [], .mk false nL []]) ⟨SV.keep ((Below.refl _ _).alloc (Nat.le_refl _) _), its2 hO0 hO1⟩ ?_
  clear SV hO0 hO1
  rintro W ⟨SV, hI⟩
  generalize w1.heap.size = bi at *
  clear w1
  with_reducible refine (C3.out W _ hI).mono ?_
  rintro e w1 ⟨d, q, rfl, hO, hb⟩
  replace SV := SV.keep hb
  clear hb C3 hI W
  go_wp2_with fail
  with_reducible refine (C4.out w1 _ _ hO).mono ?_
  rintro e w2 ⟨a1, g1, c1, rfl, hP, hb⟩
  replace SV := SV.keep hb
  clear hb C4 hO w1
  go_wp2_with fail
  refine H.out _ _ ?_
  clear H K
  refine wp_seq_k fun K h => ?_
  have H : Hid _ := h
  clear h
  have ra := RA.out _ SV
  go_wp2_with (refine wpList_load_midM (by rfl) 26 _ rfl (w.heap.size + 1) 0 rfl MA _ ra Tryz.underlying26 rfl (by rw [ML.out]; kernel_rfl) ?_)
  with_reducible refine (CA.out w2 SV.B).mono ?_
  rintro e w1 ⟨rfl, hb⟩
  replace SV := SV.keep hb
  replace hP := hP.keep hb
  clear hb CA ra w2
  go_wp2_with fail
  refine calls_world (fun W => Sm w W k A S ∧ PtsC W w1.heap.size 0 [⟨a1, g1, 0, c1, Y⟩]) ⟨SV.keep ((Below.refl _ _).alloc (Nat.le_refl _) _), ptsC_one hP⟩ ?_
  clear SV hP
  rintro W ⟨SV, hP⟩
  generalize w1.heap.size = bi at *
  clear w1
  with_reducible refine (S2.out W _ _ _ _ SV.B hP).mono ?_
  rintro e w1 ⟨rfl, hb⟩
  replace SV := SV.keep hb
  clear hb S2 hP W
  go_wp2_with fail
  with_reducible refine (L2.out w1).mono ?_
  rintro e w2 ⟨rfl, hb⟩
  replace SV := SV.keep hb
  clear hb L2 w1
  go_wp2_with fail
  refine H.out _ _ ?_
  exact (md3 HH.out.1 HH.out.2.1 HH.out.2.2.1 KM TB HH.out.2.2.2 SV).out rfl
end Go.Proofs.YtiebnlahhmngcaaGreatDoor

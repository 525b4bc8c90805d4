import Derived.Test.YtncpjgpioajbeaaGreatDoorNzA
/- Nonces: the closure that stirs. -/
namespace Go.Proofs.YtncpjgpioajbeaaGreatDoor
open Go.RowKit Go.Sort

set_option maxRecDepth 100000 in
set_option maxHeartbeats 8000000 in
theorem stir_any {bk bv bp op cp n : Nat} {a : Option Addr} {m : Int} {mb : BitVec 8} {s : KvZ} {PS : List S.Part} (hm : S.Y mb = m) (hn : PS.length = n) (n2 : n ≤ 8) (ha : (PS = [] ∧ a = none ∧ cp = 0) ∨ (PS ≠ [] ∧ a = some ⟨bp, op, none⟩)) (hs : (S.catX PS).length < 1000000) (ne : bk ≠ bv) (w : World) (hk : KvAt w bk bv s) (hP : S.Prts w bp op PS) (ht : ShT w) (nf : (bk ≠ 2 ∧ bk ≠ 3) ∧ bv ≠ 2 ∧ bv ≠ 3) :
    Calls Tryz.prog 39 #[.int .u8 m, .slice a n cp, .pointer (some ⟨bk, 0, none⟩), .pointer (some ⟨bv, 0, none⟩)] w fun e w' => e = .returned (.tuple #[]) ∧ KvAt w' bk bv (stirZ s ([mb] ++ S.catX PS)) ∧ BtZ (fun k => k = bk ∨ k = bv) w w' := by
  have H0 : Hid (S.Y mb = m ∧ PS.length = n ∧ n ≤ 8 ∧ ((PS = [] ∧ a = none ∧ cp = 0) ∨ (PS ≠ [] ∧ a = some ⟨bp, op, none⟩)) ∧ (S.catX PS).length < 1000000) := ⟨hm, hn, n2, ha, hs⟩
  have HW : Hid (KvAt w bk bv s ∧ S.Prts w bp op PS ∧ ShT w) := ⟨hk, hP, ht⟩
  have HN : Hid (bk ≠ bv ∧ bk ≠ 2 ∧ bk ≠ 3 ∧ bv ≠ 2 ∧ bv ≠ 3) := ⟨ne, nf.1.1, nf.1.2, nf.2⟩
  clear hm hn n2 ha hs hk hP ht ne nf
  go_enter Tryz.func39, Tryz.ntmps39
  go_wp2_with fail
  refine wp_region_held_drew (S := fun _ => True) (by kernel_rfl) trivial (fun hHeld => ?_)
  refine takeZ (i := 0) (oi := _) (v := .slice (some ⟨bk, 0, none⟩) 32 32) 6 rfl (by kernel_rfl) (by kernel_rfl) (by kernel_rfl) (by kernel_rfl) (fun _ _ _ h => h) (Or.inl ⟨by kernel_rfl, ?_⟩) trivial ?_
  · intro wq hSw
    have _ := hSw
    go_simp
  simp only [Act.put, List.setIfInBounds_toArray, List.set_cons_succ, List.set_cons_zero]
  refine takeZ (i := 1) (oi := _) (v := .slice (some ⟨bv, 0, none⟩) 32 32) 7 rfl (by kernel_rfl) (by kernel_rfl) (by kernel_rfl) (by kernel_rfl) (fun _ _ _ h => h) (Or.inl ⟨by kernel_rfl, ?_⟩) trivial ?_
  · intro wq hSw
    have _ := hSw
    go_simp
  simp only [Act.put, List.setIfInBounds_toArray, List.set_cons_succ, List.set_cons_zero]
  refine takeZ (i := 2) (oi := _) (v := .int .u8 m) 8 rfl (by kernel_rfl) (by kernel_rfl) (by kernel_rfl) (by kernel_rfl) (fun _ _ _ h => h) (Or.inl ⟨by kernel_rfl, ?_⟩) trivial ?_
  · intro wq hSw
    have _ := hSw
    go_simp
  simp only [Act.put, List.setIfInBounds_toArray, List.set_cons_succ, List.set_cons_zero]
  refine takeZ (i := 5) (oi := _) (v := .slice a n cp) 11 rfl (by kernel_rfl) (by kernel_rfl) (by kernel_rfl) (by kernel_rfl) (fun _ _ _ h => h) (Or.inl ⟨by kernel_rfl, ?_⟩) trivial ?_
  · intro wq hSw
    have _ := hSw
    go_simp
  simp only [Act.put, List.setIfInBounds_toArray, List.set_cons_succ, List.set_cons_zero]
  refine wpAnyH_ready (rs := [3]) (by kernel_rfl) (by simp) ?_
  refine AllReadyH.cons rfl (fun K hK => ?_) AllReadyH.nil
  go_simp
  go_wp2_with fail
  refine worldZ (fun V => Below w.heap.size w V ∧ (⟨some ⟨w.heap.size, 0, none⟩, w.heap.size, 0, 1, [mb]⟩ : S.Part).ok V) ⟨((Below.refl _ _).alloc (Nat.le_refl _) _).drew, okZ (byte_partZ H0.out.1) (Below.refl _ _).drew⟩ ?_
  rintro V ⟨BV, hP0⟩
  refine hK.out _ _ trivial (fun hHeld => ?_)
  clear hK K hHeld
  refine wpAnyH_ready (rs := [4]) (by kernel_rfl) (by simp) ?_
  refine AllReadyH.cons rfl (fun K hK => ?_) AllReadyH.nil
  go_simp
  go_wp2_with fail
  refine worldZ (fun U => Below w.heap.size w U ∧ S.Prts U V.heap.size 0 [⟨some ⟨bv, 0, none⟩, bv, 0, 32, s.v⟩, ⟨some ⟨w.heap.size, 0, none⟩, w.heap.size, 0, 1, [mb]⟩]) ⟨BV.alloc BV.size _, prts_twoZ rfl (by rw [S.Part.val, HW.out.1.2.1]) rfl (okZ (Hsh_part HW.out.1.2 (Nat.le_refl _)) BV) hP0⟩ ?_
  rintro U ⟨BU, hP2⟩
  refine hK.out _ _ trivial (fun hHeld => ?_)
  clear hK K hHeld hP0 BV
  generalize V.heap.size = b4 at *
  clear V
  refine wpAnyH_ready (rs := [6]) (by kernel_rfl) (by simp) ?_
  refine AllReadyH.cons rfl (fun K hK => ?_) AllReadyH.nil
  refine (if_pos (by kernel_rfl)).mpr ?_
  obtain ⟨b6, c6, U6, hr6, hP6, B6⟩ := append_rest (cp := cp) (ty := 74) rfl H0.out.2.1 H0.out.2.2.2.1 hP2 (prtsZ HW.out.2.1 BU) (by have := H0.out.2.2.1; omega)
  refine Lib.wp_append_run (P := Tryz.prog) U _ _ 74 74 rfl (.slice (some ⟨b4, 0, none⟩) 2 2) (.slice a n cp) rfl rfl _ _ hr6 ?_
  refine hK.out _ _ trivial (fun hHeld => ?_)
  clear hK K hHeld hr6
  have BY : Below w.heap.size w U6 := BU.trans (B6.mono BU.size)
  have kl := HW.out.1.1.1
  have cx : S.catX ([⟨some ⟨bv, 0, none⟩, bv, 0, 32, s.v⟩, ⟨some ⟨w.heap.size, 0, none⟩, w.heap.size, 0, 1, [mb]⟩] ++ PS) = s.v ++ ([mb] ++ S.catX PS) := by rw [catX_appZ]; simp [S.catX]
  have CH : Hid (∀ _ : Nat, Calls Tryz.prog 40 #[.slice (some ⟨bk, 0, none⟩) 32 32, .slice (some ⟨b6, 0, none⟩) ([⟨some ⟨bv, 0, none⟩, bv, 0, 32, s.v⟩, ⟨some ⟨w.heap.size, 0, none⟩, w.heap.size, 0, 1, [mb]⟩] ++ PS : List S.Part).length c6] U6 fun e w' => e = .returned (.agg (S.byts (S.hmacL s.k (s.v ++ ([mb] ++ S.catX PS)))).toArray) ∧ Below U6.heap.size U6 w') := fun _ => by
    have h := S.hmac_any (ka := some ⟨bk, 0, none⟩) (kb := bk) (ko := 0) (kc := 32) (X := s.k) (a := some ⟨b6, 0, none⟩) (bp := b6) (op := 0) (cp := c6) (PS := [⟨some ⟨bv, 0, none⟩, bv, 0, 32, s.v⟩, ⟨some ⟨w.heap.size, 0, none⟩, w.heap.size, 0, 1, [mb]⟩] ++ PS) (by omega) (by omega) (.inr rfl) (by rw [cx]; have := H0.out.2.2.2.2; have := HW.out.1.2.1; simp only [List.length_append, List.length_cons, List.length_nil]; omega) (by have := H0.out.2.2.1; have := H0.out.2.1; simp only [List.length_append, List.length_cons, List.length_nil]; omega) (.inr rfl) U6 (okZ (Hsh_part HW.out.1.1 (Nat.le_refl 32)) BY).2.2 hP6 (HW.out.2.2.keep BY).1 (HW.out.2.2.keep BY).2
    rw [kl, cx] at h
    exact h
  clear cx kl hP6 B6 BU hP2
  generalize ([⟨some ⟨bv, 0, none⟩, bv, 0, 32, s.v⟩, ⟨some ⟨w.heap.size, 0, none⟩, w.heap.size, 0, 1, [mb]⟩] ++ PS : List S.Part).length = n6 at *
  obtain ⟨K1, eK1⟩ : ∃ K1, K1 = S.hmacL s.k (s.v ++ ([mb] ++ S.catX PS)) := ⟨_, rfl⟩
  rw [← eK1] at CH
  have l1 : K1.length = 32 := by rw [eK1, hmacL_len]
  have E1 : Hid (K1 = S.hmacL s.k (s.v ++ ([mb] ++ S.catX PS)) ∧ K1.length = 32) := ⟨eK1, l1⟩
  clear eK1
  have sz1 : (S.byts K1).toArray.size = 32 := by simp [S.byts_len, l1]
  have oc1 := S.one_byts K1
  have hl1 : (S.byts K1).length = 32 := by rw [S.byts_len, l1]
  clear l1
  obtain ⟨M, eM⟩ : ∃ M, M = S.byts K1 := ⟨_, rfl⟩
  rw [← eM] at CH sz1 oc1 hl1
  refine wpAnyH_ready (rs := [7]) (by kernel_rfl) (by simp) ?_
  refine AllReadyH.cons rfl (fun K hK => ?_) AllReadyH.nil
  go_simp
  refine (CH.out 0).mono ?_
  rintro e y1 ⟨rfl, hbx⟩
  have BZ := BY.trans (hbx.mono BY.size)
  refine hK.out _ _ trivial (fun hHeld => ?_)
  clear hK K CH hHeld hbx BY
  have tr := (HW.out.1.1.keep BZ).there
  rw [← sz1] at tr
  refine wpAnyH_ready (rs := [8]) (by kernel_rfl) (by simp) ?_
  refine AllReadyH.cons rfl (fun K hK => ?_) AllReadyH.nil
  refine (if_pos (by kernel_rfl)).mpr ?_
  refine wp_store_mid 26 _ _ rfl bk 0 M.toArray rfl rfl tr (by rw [sz1]; kernel_rfl) oc1 ?_
  have LI : KvAt (y1.setCells bk 0 M) bk bv ⟨K1, s.v⟩ ∧ BtZ (fun k => k = bk ∨ k = bv) w (y1.setCells bk 0 M) := by
    rw [eM]
    have h := stored_off (M := K1) (HW.out.1.1.keep BZ) E1.out.2
    exact ⟨⟨h.1, (HW.out.1.2.keep BZ).off h.2 (Ne.symm HN.out.1)⟩, (BtZ.of_below BZ).trans (BtZ.off (.inl rfl) h.2)⟩
  refine worldZ (fun V => KvAt V bk bv ⟨K1, s.v⟩ ∧ BtZ (fun k => k = bk ∨ k = bv) w V) LI ?_
  clear LI tr BZ sz1 oc1 hl1 eM U6 U
  rintro W HW1
  refine hK.out _ _ trivial (fun hHeld => ?_)
  clear hK K hHeld
  refine wpAnyH_done (by kernel_rfl) ?_ _
  go_wp2_with fail
  refine wp_region_held_drew (S := fun _ => True) (by kernel_rfl) trivial (fun hHeld => ?_)
  refine takeZ (i := 0) (oi := _) (v := .slice (some ⟨bk, 0, none⟩) 32 32) 14 rfl (by kernel_rfl) (by kernel_rfl) (by kernel_rfl) (by kernel_rfl) (fun _ _ _ h => h) (Or.inl ⟨by kernel_rfl, ?_⟩) trivial ?_
  · intro wq hSw
    have _ := hSw
    go_simp
  simp only [Act.put, List.setIfInBounds_toArray]
  refine takeZ (i := 1) (oi := _) (v := .slice (some ⟨bv, 0, none⟩) 32 32) 15 rfl (by kernel_rfl) (by kernel_rfl) (by kernel_rfl) (by kernel_rfl) (fun _ _ _ h => h) (Or.inl ⟨by kernel_rfl, ?_⟩) trivial ?_
  · intro wq hSw
    have _ := hSw
    go_simp
  simp only [Act.put]
  refine wpAnyH_ready (rs := [2]) (by kernel_rfl) (by simp) ?_
  refine AllReadyH.cons rfl (fun K hK => ?_) AllReadyH.nil
  go_simp
  go_wp2_with fail
  refine worldZ (fun U => Below W.heap.size W U ∧ S.Prts U W.heap.size 0 [⟨some ⟨bv, 0, none⟩, bv, 0, 32, s.v⟩]) ⟨((Below.refl _ _).alloc (Nat.le_refl _) _).drew, prtsZ (prts_oneZ rfl (by rw [S.Part.val, HW.out.1.2.1]) (Hsh_part HW1.1.2 (Nat.le_refl _))) (Below.refl _ _).drew⟩ ?_
  rintro U ⟨BU, hP2⟩
  refine hK.out _ _ trivial (fun hHeld => ?_)
  clear hK K hHeld
  have ht1 : ShT W := HW1.2.sht ⟨fun h => h.elim (fun e => HN.out.2.1 e.symm) (fun e => HN.out.2.2.2.1 e.symm), fun h => h.elim (fun e => HN.out.2.2.1 e.symm) (fun e => HN.out.2.2.2.2 e.symm)⟩ HW.out.2.2
  have CH : Hid (∀ _ : Nat, Calls Tryz.prog 40 #[.slice (some ⟨bk, 0, none⟩) 32 32, .slice (some ⟨W.heap.size, 0, none⟩) 1 1] U fun e w' => e = .returned (.agg (S.byts (S.hmacL K1 s.v)).toArray) ∧ Below U.heap.size U w') := fun _ => by
    have kl := E1.out.2
    have h := S.hmac_any (ka := some ⟨bk, 0, none⟩) (kb := bk) (ko := 0) (kc := 32) (X := K1) (a := some ⟨W.heap.size, 0, none⟩) (bp := W.heap.size) (op := 0) (cp := 1) (PS := [⟨some ⟨bv, 0, none⟩, bv, 0, 32, s.v⟩]) (by omega) (by omega) (.inr rfl) (by have := HW.out.1.2.1; simp only [S.catX, List.flatMap_cons, List.flatMap_nil, List.append_nil]; omega) (by show 1 ≤ _; omega) (.inr rfl) U (okZ (Hsh_part HW1.1.1 (Nat.le_refl 32)) BU).2.2 hP2 (ht1.keep BU).1 (ht1.keep BU).2
    rw [kl] at h
    have cx : S.catX [⟨some ⟨bv, 0, none⟩, bv, 0, 32, s.v⟩] = s.v := by simp [S.catX]
    rw [cx] at h
    exact h
  obtain ⟨V1, eV1⟩ : ∃ V1, V1 = S.hmacL K1 s.v := ⟨_, rfl⟩
  rw [← eV1] at CH
  have l1 : V1.length = 32 := by rw [eV1, hmacL_len]
  have sz1 : (S.byts V1).toArray.size = 32 := by simp [S.byts_len, l1]
  have oc1 := S.one_byts V1
  have E2 : Hid ((⟨K1, V1⟩ : KvZ) = stirZ s ([mb] ++ S.catX PS) ∧ V1.length = 32) := ⟨by rw [eV1, E1.out.1]; rfl, l1⟩
  clear eV1 l1
  obtain ⟨M2, eM⟩ : ∃ M, M = S.byts V1 := ⟨_, rfl⟩
  rw [← eM] at CH sz1 oc1
  refine wpAnyH_ready (rs := [3]) (by kernel_rfl) (by simp) ?_
  refine AllReadyH.cons rfl (fun K hK => ?_) AllReadyH.nil
  go_simp
  refine (CH.out 0).mono ?_
  rintro e y2 ⟨rfl, hbx⟩
  have BZ := BU.trans (hbx.mono BU.size)
  refine hK.out _ _ trivial (fun hHeld => ?_)
  clear hK K CH hHeld hbx BU
  have tr := (HW1.1.2.keep BZ).there
  rw [← sz1] at tr
  refine wpAnyH_ready (rs := [4]) (by kernel_rfl) (by simp) ?_
  refine AllReadyH.cons rfl (fun K hK => ?_) AllReadyH.nil
  refine (if_pos (by kernel_rfl)).mpr ?_
  refine wp_store_mid 26 _ _ rfl bv 0 M2.toArray rfl rfl tr (by rw [sz1]; kernel_rfl) oc1 ?_
  have LI : KvAt (y2.setCells bv 0 M2) bk bv ⟨K1, V1⟩ ∧ BtZ (fun k => k = bk ∨ k = bv) w (y2.setCells bv 0 M2) := by
    rw [eM]
    have h := stored_off (M := V1) (HW1.1.2.keep BZ) E2.out.2
    exact ⟨⟨(HW1.1.1.keep BZ).off h.2 HN.out.1, h.1⟩, HW1.2.trans ((BtZ.of_below BZ).trans (BtZ.off (.inr rfl) h.2))⟩
  refine worldZ (fun V => KvAt V bk bv ⟨K1, V1⟩ ∧ BtZ (fun k => k = bk ∨ k = bv) w V) LI ?_
  clear LI tr BZ sz1 oc1 eM
  rintro V HV
  refine hK.out _ _ trivial (fun hHeld => ?_)
  clear hK K hHeld
  refine wpAnyH_done (by kernel_rfl) ?_ _
  go_wp2_with fail
  rw [E2.out.1] at HV
  go_end0
  exact ⟨rfl, HV⟩
end Go.Proofs.YtncpjgpioajbeaaGreatDoor

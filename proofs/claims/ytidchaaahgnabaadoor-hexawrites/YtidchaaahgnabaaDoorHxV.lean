import Derived.Test.YtidchaaahgnabaaDoorHxU
/- Layer 8: the document's Checksum. -/
namespace Go.Proofs.YtidchaaahgnabaaDoor
open Go.RowKit Go.Sort
/-- The checked letters, the first i of them. -/
noncomputable def ckI (T : List UInt8) (L : List Int) (i : Nat) : List UInt8 := (List.range i).map fun j => ck1 (T.getD j 0) (halfN L j)
theorem ckI_snoc (T : List UInt8) (L : List Int) (i : Nat) : ckI T L (i + 1) = ckI T L i ++ [ck1 (T.getD i 0) (halfN L i)] := by
  simp [ckI, List.range_succ]
theorem ckI_len (T : List UInt8) (L : List Int) (i : Nat) : (ckI T L i).length = i := by simp [ckI]
theorem ckS_eq (A : List Int) : ckS A = [48, 120] ++ ckI (hexB A) (kecL (hexB A)) 40 := by
  apply List.ext_getElem
  · rw [ckS_len, List.length_append, ckI_len]; rfl
  · intro j h1 h2
    have hj : j < 42 := by have := h1; rw [ckS_len] at this; exact this
    have e1 : (ckS A)[j]'h1 = (ckS A).getD j 0 := by rw [List.getD, List.getElem?_eq_getElem h1]; rfl
    rw [e1, ckS_at A hj, tx]
    have dr : ([48, 120] ++ hexB A).drop 2 = hexB A := rfl
    rw [dr]
    by_cases k : 2 ≤ j
    · rw [if_pos (by omega), List.getElem_append_right (by exact k)]
      simp only [ckI, List.getElem_map, List.getElem_range]
      have g : ([48, 120] ++ hexB A).getD j 0 = (hexB A).getD (j - 2) 0 := by
        rw [List.getD, List.getElem?_append_right (by exact k)]; rfl
      rw [g]; rfl
    · rw [if_neg (by omega), List.getElem_append_left (by show j < 2; omega)]
      have g : ([48, 120] ++ hexB A).getD j 0 = ([48, 120] : List UInt8).getD j 0 := by
        rw [List.getD, List.getElem?_append_left (by show j < 2; omega)]; rfl
      rw [g, List.getD, List.getElem?_eq_getElem (show j < ([48, 120] : List UInt8).length by show j < 2; omega)]; rfl
theorem hd_low (k : Nat) : ((hd k).toNat : Int) ≤ 102 := by
  by_cases h : k < 16
  · have : k = 0 ∨ k = 1 ∨ k = 2 ∨ k = 3 ∨ k = 4 ∨ k = 5 ∨ k = 6 ∨ k = 7 ∨ k = 8 ∨ k = 9 ∨ k = 10 ∨ k = 11 ∨ k = 12 ∨ k = 13 ∨ k = 14 ∨ k = 15 := by omega
    rcases this with rfl | rfl | rfl | rfl | rfl | rfl | rfl | rfl | rfl | rfl | rfl | rfl | rfl | rfl | rfl | rfl <;> decide
  · have e : hd k = 0 := by unfold hd; rw [List.getD, List.getElem?_eq_none (by show 16 ≤ k; omega)]; rfl
    rw [e]; decide
theorem hexB_low : ∀ (X : List Int) (j : Nat), (((hexB X).getD j 0).toNat : Int) ≤ 102
  | [], j => by simp [hexB]
  | _ :: _, 0 => hd_low _
  | _ :: _, 1 => hd_low _
  | _ :: X, j + 2 => hexB_low X j
theorem ck1_num (u : UInt8) (h : Int) (hu : (u.toNat : Int) ≤ 102) : ((ck1 u h).toNat : Int) = if 97 ≤ (u.toNat : Int) ∧ 8 ≤ h then (u.toNat : Int) - 97 + 65 else (u.toNat : Int) := by
  have e : smB (u.toNat : Int) = true ↔ 97 ≤ (u.toNat : Int) := by
    unfold smB
    rw [decide_eq_true hu, Bool.and_true, decide_eq_true_iff]
  by_cases k : 97 ≤ (u.toNat : Int) ∧ 8 ≤ h
  · rw [if_pos k]; exact ck1_turned (e.2 k.1) k.2
  · rw [if_neg k]
    unfold ck1
    rw [if_neg (fun x => k ⟨e.1 x.1, x.2⟩)]
theorem ckT_len (T : List UInt8) (L : List Int) (i : Nat) : ((ckI T L i).map fun u => (u.toNat : Int)).length = i := by rw [List.length_map, ckI_len]
theorem range_cell {W : World} {b : Nat} {L : List Int} (h : W.rangeAt b 0 (L.map (Value.int .u8))) {j : Nat} (hj : j < L.length) : W.cell? ⟨b, j, none⟩ = some (.int .u8 (L.getD j 0)) := by
  have := h j (.int .u8 (L.getD j 0)) (by rw [List.getElem?_map, List.getElem?_eq_getElem hj, List.getD, List.getElem?_eq_getElem hj]; rfl)
  rwa [Nat.zero_add] at this
theorem rangeBoxV {W : World} {M : List Value} {t : TypeId} : (W.alloc (.cells M.toArray t)).rangeAt W.heap.size 0 M := fun j v hv => by
  rw [Nat.zero_add, World.cell?_alloc_mark]
  simpa using hv
theorem range_keepV {W W' : World} {b : Nat} {M : List Value} (h : W.rangeAt b 0 M) (hb : Below W.heap.size W W') : W'.rangeAt b 0 M := fun j v hv => by
  have c := h j v hv
  rw [hb.cell (World.block_lt_of_cell? W _ c)]; exact c
set_option maxRecDepth 100000 in
set_option maxHeartbeats 8000000 in
theorem rchk_any {A : List Int} (hA : A.length = 20) (hb : ∀ i, 0 ≤ A.getD i 0 ∧ A.getD i 0 < 256) (w : World) (ht : Tab w 3 turnsN) (hm : Lns w 0 marksN) :
    Calls Tryd.prog 21 #[.agg (A.map (Value.int .u8)).toArray] w fun e w' => e = .returned (.string ⟨(ckS A).toArray⟩) ∧ Below w.heap.size w w' := by
  obtain ⟨N, eN⟩ : ∃ N, Hid (N = A.map (Value.int .u8)) := ⟨_, rfl⟩
  have SM : Hid (∀ W, W.rangeAt w.heap.size 0 N → Calls Tryd.prog 38 #[.slice (some ⟨w.heap.size, 0, none⟩) 20 20] W fun e w' => e = .returned (.string ⟨(hexB A).toArray⟩) ∧ Below W.heap.size W w') := fun W hW => rsmall_any hA (by decide) (by decide) hb W (fun i hi => by
    rw [eN.out] at hW
    rw [Nat.zero_add]; exact range_cell hW (by omega))
  have T40 : (hexB A).length = 40 := by rw [hexB_len, hA]
  have LO := hexB_low A
  have ES := ckS_eq A
  rw [ES]
  clear ES hb
  rw [← eN.out]
  generalize hexB A = T at *
  obtain ⟨L, eL⟩ : ∃ L, Hid (L = kecL T) := ⟨_, rfl⟩
  have OF : Hid (∀ W g c, Below w.heap.size w W → Fz W g 40 (fun j => T.getD j 0) → Calls Tryd.prog 41 #[.slice (some ⟨g, 0, none⟩) 40 c] W fun e w' => e = .returned (.agg (L.map (Value.int .u8)).toArray) ∧ Below W.heap.size W w') := fun W g c B hF => by
    have r := rof_any (l := T) (g := g) (c := c) (by rw [T40]; decide) W (fun i hi => (hF i (by omega)).1) (ht.keep B) (hm.keep B)
    rw [T40, ← eL.out] at r
    exact r
  rw [← eL.out]
  have LL : Hid (L.length = 32 ∧ (∀ i, 0 ≤ L.getD i 0 ∧ L.getD i 0 < 256) ∧ T.length = 40 ∧ ∀ j, ((T.getD j 0).toNat : Int) ≤ 102) := ⟨by rw [eL.out]; exact kecL_len T, fun i => by rw [eL.out]; exact kecL_low T i, T40, LO⟩
  obtain ⟨D, eD⟩ : ∃ D, Hid (D = L.map (Value.int .u8)) := ⟨_, rfl⟩
  rw [← eD.out] at OF
  have LD : D.length = 32 := by rw [eD.out, List.length_map, LL.out.1]
  have lD : (Tryd.prog.info? 36).map (·.size) = some D.length := by rw [LD]; kernel_rfl
  have oD : D.toArray.all (·.oneCell') = true := by rw [eD.out]; exact one_u8 _
  have M32 : (32 : Nat) = D.length := LD.symm
  have sT : (⟨T.toArray⟩ : ByteArray).size = 40 := by rw [size_list, T40]
  obtain ⟨i0, hi, hz0, hz1, hz2⟩ := info_partsH info_byteH
  clear ht hm LO T40
  go_enter Tryd.func21, Tryd.ntmps21
  go_wp2_with fail
  refine calls_world (fun W => Below w.heap.size w W ∧ W.rangeAt w.heap.size 0 N) ⟨(Below.refl _ _).alloc (Nat.le_refl _) _, rangeBoxV⟩ ?_
  rintro W ⟨B, RA⟩
  with_reducible refine (SM.out _ RA).mono ?_
  rintro e1 w1 ⟨rfl, hb1⟩
  replace B := B.trans (hb1.mono B.size)
  clear hb1 RA W SM
  obtain ⟨cap, W2, hcv, hcap, hB2, hF⟩ := Fz.of T w1
  rw [LL.out.2.2.1] at hcv hcap hF
  go_wp2_with fail
  refine calls_world (fun W => Below w.heap.size w W ∧ Fz W w1.heap.size 40 (fun j => T.getD j 0)) ⟨B.trans (hB2.mono B.size), hF⟩ ?_
  clear B hB2 hF hcv hcap
  rintro W ⟨B, hF⟩
  with_reducible refine (OF.out W _ cap B hF).mono ?_
  rintro e1 w3 ⟨rfl, hb1⟩
  replace B := B.trans (hb1.mono B.size)
  clear hb1 hF OF W W2
  go_wp2_with (refine wpList_put_new rfl 36 _ _ rfl D rfl rfl M32 lD oD ?_; intro w4 hb4 RH; simp only [Act.put])
  have HS : Hid (∀ W', Below w4.heap.size w4 W' → Below w.heap.size w W' ∧ W'.rangeAt w3.heap.size 0 D) := fun W' b => ⟨(B.trans (hb4.mono B.size)).trans (b.mono (B.trans (hb4.mono B.size)).size), range_keepV RH b⟩
  clear B hb4 RH M32 LD lD oD
  generalize w3.heap.size = gh at *
  clear w3
  go_loopg [5, 6, 7, 8] 40 (fun k lv iv hv cv wr => ∃ i : Nat, k = 40 - i ∧ i ≤ 40 ∧ iv = .int .i64 (i : Int) ∧ OwnB w4.heap.size wr lv ((ckI T L i).map fun u => (u.toNat : Int)) ∧ Below w4.heap.size w4 wr)
  case atStart => exact ⟨0, rfl, Nat.zero_le _, rfl, OwnB.nil _ _, Below.refl _ _⟩
  case round =>
    obtain ⟨i, hk, hi9, rfl, hown, B⟩ := hrel
    have HK : Hid (gk = 40 - i ∧ i ≤ 40) := ⟨hk, hi9⟩
    have HF : Hid (OwnB w4.heap.size wr u5 ((ckI T L i).map fun u => (u.toNat : Int)) ∧ Below w4.heap.size w4 wr) := ⟨hown, B⟩
    clear hk hown B
    by_cases h8 : i = 40
    · subst h8
      have ct := OwnB.text (T := ckI T L 40) HF.out.1 (by rw [ckI_len]; decide)
      have BB := (HS.out _ HF.out.2).1
      obtain ⟨Z, eZ⟩ : ∃ Z, Hid (Z = ckI T L 40) := ⟨_, rfl⟩
      rw [← eZ.out] at ct
      have lZ : (⟨Z.toArray⟩ : ByteArray).size = 40 := by rw [size_list, eZ.out, ckI_len]
      clear hi9
      go_wp2
      simp [bodyPost, results, Tryd.results21, go_sem]
      refine ⟨?_, BB⟩
      rw [eZ.out]
      apply ByteArray.ext
      rw [ByteArray.data_append]
      simp
    · have hlt : (i : Int) < 40 := by omega
      obtain ⟨j, ej⟩ : ∃ j, j = i / 2 := ⟨_, rfl⟩
      have R1 := (HS.out _ HF.out.2).2
      rw [eD.out] at R1
      have gj := range_cell R1 (j := j) (by rw [LL.out.1]; omega)
      obtain ⟨y0, y1⟩ := LL.out.2.1 j
      have hN : halfN L i = if i % 2 = 0 then L.getD j 0 / 16 else L.getD j 0 % 16 := by unfold halfN; rw [ej]
      obtain ⟨y, ey⟩ : ∃ y, Hid (y = L.getD j 0) := ⟨_, rfl⟩
      rw [← ey.out] at gj y0 y1 hN
      have i2 : (i : Int) / 2 = (j : Int) := by omega
      have i3 : j < 32 := by omega
      have c0 := LL.out.2.2.2 i
      have hs40 : i < (⟨T.toArray⟩ : ByteArray).size := by rw [sT]; omega
      have eb := bt_get ⟨T.toArray⟩ i hs40
      rw [bt_list] at eb
      clear R1 ej
      obtain ⟨c, ec⟩ : ∃ c : Int, Hid (c = ((T.getD i 0).toNat : Int)) := ⟨_, rfl⟩
      have ec2 : tb T i = c := by rw [ec.out]; rfl
      rw [ec2] at eb
      have c1 : (0 : Int) ≤ c := by rw [ec.out]; omega
      have c2 : c ≤ 102 := by rw [ec.out]; exact c0
      clear ec2 ey
      by_cases hp : i % 2 = 0
      · rw [if_pos hp] at hN
        have m3 : ((i : Int) % 2 == 1) = false := by rw [beq_eq_false_iff_ne]; omega
        clear hp
        by_cases h97 : 97 ≤ c
        · by_cases h16 : 8 ≤ y / 16
          · have HV : Hid (ckI T L (i + 1) = ckI T L i ++ [ck1 (T.getD i 0) (halfN L i)] ∧ (c - 97 + 65) = ((ck1 (T.getD i 0) (halfN L i)).toNat : Int)) := ⟨ckI_snoc T L i, by
              have q := ck1_num (T.getD i 0) (halfN L i) c0
              rw [← ec.out] at q
              rw [q, hN]
              rw [if_pos ⟨h97, h16⟩]⟩
            have LR : Hid (((ckI T L i).map fun u => (u.toNat : Int)).length = i ∧ i ≤ 40) := ⟨ckT_len T L i, HK.out.2⟩
            clear hN c0 hi9
            go_wp2_with ((at_builtin; go_loud (refine wpList_append_own_at _ rfl _ _ 30 rfl w4.heap.size 5 i0 (.int .u8 0) 1 1 Tryd.underlying30 hi hz0 hz1 hz2 rfl (by decide) u5 _ _ rfl (World.ownsRow.alloc HF.out.1.row _) ⟨wr.heap.size, 0, none⟩ 1 1 [.int .u8 (c - 97 + 65)] rfl rfl (cell_oneH _ _ _) (fun z hz => by simp at hz; subst hz; rfl) (by unfold maxLen; have := LR.out; omega) (by have := LR.out; omega) (by have := HF.out.2.size; simp; omega) ?_); intro v' w5 hown' hgrow5 hnil5 hblk))
            have HO : Hid (OwnB w4.heap.size w5 v' ((ckI T L (i + 1)).map fun u => (u.toNat : Int)) ∧ Below w4.heap.size w4 w5) := by
              refine ⟨?_, ?_⟩
              · rw [HV.out.1, List.map_append, OwnB, List.length_append, List.map_append]
                have e : List.map (Value.int .u8) (List.map (fun u : UInt8 => (u.toNat : Int)) [ck1 (T.getD i 0) (halfN L i)]) = [.int .u8 (c - 97 + 65)] := by rw [HV.out.2]; rfl
                rw [e]
                exact hown'
              · exact (HF.out.2.alloc HF.out.2.size _).grown hgrow5 (by have := HF.out.2.size; simp; omega) (fun k hk => (HF.out.1.row.lt k hk).1)
            clear hown' hgrow5 hnil5 hblk
            go_roundg (40 - (i + 1))
            case measure => have := HK.out; omega
            case rel => exact ⟨i + 1, rfl, by have := HK.out; omega, by go_num, HO.out.1, HO.out.2⟩
          · have HV : Hid (ckI T L (i + 1) = ckI T L i ++ [ck1 (T.getD i 0) (halfN L i)] ∧ (c) = ((ck1 (T.getD i 0) (halfN L i)).toNat : Int)) := ⟨ckI_snoc T L i, by
              have q := ck1_num (T.getD i 0) (halfN L i) c0
              rw [← ec.out] at q
              rw [q, hN]
              rw [if_neg (fun x => h16 x.2)]⟩
            have LR : Hid (((ckI T L i).map fun u => (u.toNat : Int)).length = i ∧ i ≤ 40) := ⟨ckT_len T L i, HK.out.2⟩
            clear hN c0 hi9
            go_wp2_with ((at_builtin; go_loud (refine wpList_append_own_at _ rfl _ _ 30 rfl w4.heap.size 5 i0 (.int .u8 0) 1 1 Tryd.underlying30 hi hz0 hz1 hz2 rfl (by decide) u5 _ _ rfl (World.ownsRow.alloc HF.out.1.row _) ⟨wr.heap.size, 0, none⟩ 1 1 [.int .u8 (c)] rfl rfl (cell_oneH _ _ _) (fun z hz => by simp at hz; subst hz; rfl) (by unfold maxLen; have := LR.out; omega) (by have := LR.out; omega) (by have := HF.out.2.size; simp; omega) ?_); intro v' w5 hown' hgrow5 hnil5 hblk))
            have HO : Hid (OwnB w4.heap.size w5 v' ((ckI T L (i + 1)).map fun u => (u.toNat : Int)) ∧ Below w4.heap.size w4 w5) := by
              refine ⟨?_, ?_⟩
              · rw [HV.out.1, List.map_append, OwnB, List.length_append, List.map_append]
                have e : List.map (Value.int .u8) (List.map (fun u : UInt8 => (u.toNat : Int)) [ck1 (T.getD i 0) (halfN L i)]) = [.int .u8 (c)] := by rw [HV.out.2]; rfl
                rw [e]
                exact hown'
              · exact (HF.out.2.alloc HF.out.2.size _).grown hgrow5 (by have := HF.out.2.size; simp; omega) (fun k hk => (HF.out.1.row.lt k hk).1)
            clear hown' hgrow5 hnil5 hblk
            go_roundg (40 - (i + 1))
            case measure => have := HK.out; omega
            case rel => exact ⟨i + 1, rfl, by have := HK.out; omega, by go_num, HO.out.1, HO.out.2⟩
        · have HV : Hid (ckI T L (i + 1) = ckI T L i ++ [ck1 (T.getD i 0) (halfN L i)] ∧ (c) = ((ck1 (T.getD i 0) (halfN L i)).toNat : Int)) := ⟨ckI_snoc T L i, by
            have q := ck1_num (T.getD i 0) (halfN L i) c0
            rw [← ec.out] at q
            rw [q, hN]
            rw [if_neg (fun x => h97 x.1)]⟩
          have LR : Hid (((ckI T L i).map fun u => (u.toNat : Int)).length = i ∧ i ≤ 40) := ⟨ckT_len T L i, HK.out.2⟩
          clear hN c0 hi9
          go_wp2_with ((at_builtin; go_loud (refine wpList_append_own_at _ rfl _ _ 30 rfl w4.heap.size 5 i0 (.int .u8 0) 1 1 Tryd.underlying30 hi hz0 hz1 hz2 rfl (by decide) u5 _ _ rfl (World.ownsRow.alloc HF.out.1.row _) ⟨wr.heap.size, 0, none⟩ 1 1 [.int .u8 (c)] rfl rfl (cell_oneH _ _ _) (fun z hz => by simp at hz; subst hz; rfl) (by unfold maxLen; have := LR.out; omega) (by have := LR.out; omega) (by have := HF.out.2.size; simp; omega) ?_); intro v' w5 hown' hgrow5 hnil5 hblk))
          have HO : Hid (OwnB w4.heap.size w5 v' ((ckI T L (i + 1)).map fun u => (u.toNat : Int)) ∧ Below w4.heap.size w4 w5) := by
            refine ⟨?_, ?_⟩
            · rw [HV.out.1, List.map_append, OwnB, List.length_append, List.map_append]
              have e : List.map (Value.int .u8) (List.map (fun u : UInt8 => (u.toNat : Int)) [ck1 (T.getD i 0) (halfN L i)]) = [.int .u8 (c)] := by rw [HV.out.2]; rfl
              rw [e]
              exact hown'
            · exact (HF.out.2.alloc HF.out.2.size _).grown hgrow5 (by have := HF.out.2.size; simp; omega) (fun k hk => (HF.out.1.row.lt k hk).1)
          clear hown' hgrow5 hnil5 hblk
          go_roundg (40 - (i + 1))
          case measure => have := HK.out; omega
          case rel => exact ⟨i + 1, rfl, by have := HK.out; omega, by go_num, HO.out.1, HO.out.2⟩
      · rw [if_neg hp] at hN
        have m3 : ((i : Int) % 2 == 1) = true := by rw [beq_iff_eq]; omega
        clear hp
        by_cases h97 : 97 ≤ c
        · by_cases h16 : 8 ≤ y % 16
          · have HV : Hid (ckI T L (i + 1) = ckI T L i ++ [ck1 (T.getD i 0) (halfN L i)] ∧ (c - 97 + 65) = ((ck1 (T.getD i 0) (halfN L i)).toNat : Int)) := ⟨ckI_snoc T L i, by
              have q := ck1_num (T.getD i 0) (halfN L i) c0
              rw [← ec.out] at q
              rw [q, hN]
              rw [if_pos ⟨h97, h16⟩]⟩
            have LR : Hid (((ckI T L i).map fun u => (u.toNat : Int)).length = i ∧ i ≤ 40) := ⟨ckT_len T L i, HK.out.2⟩
            clear hN c0 hi9
            go_wp2_with ((at_builtin; go_loud (refine wpList_append_own_at _ rfl _ _ 30 rfl w4.heap.size 5 i0 (.int .u8 0) 1 1 Tryd.underlying30 hi hz0 hz1 hz2 rfl (by decide) u5 _ _ rfl (World.ownsRow.alloc HF.out.1.row _) ⟨wr.heap.size, 0, none⟩ 1 1 [.int .u8 (c - 97 + 65)] rfl rfl (cell_oneH _ _ _) (fun z hz => by simp at hz; subst hz; rfl) (by unfold maxLen; have := LR.out; omega) (by have := LR.out; omega) (by have := HF.out.2.size; simp; omega) ?_); intro v' w5 hown' hgrow5 hnil5 hblk))
            have HO : Hid (OwnB w4.heap.size w5 v' ((ckI T L (i + 1)).map fun u => (u.toNat : Int)) ∧ Below w4.heap.size w4 w5) := by
              refine ⟨?_, ?_⟩
              · rw [HV.out.1, List.map_append, OwnB, List.length_append, List.map_append]
                have e : List.map (Value.int .u8) (List.map (fun u : UInt8 => (u.toNat : Int)) [ck1 (T.getD i 0) (halfN L i)]) = [.int .u8 (c - 97 + 65)] := by rw [HV.out.2]; rfl
                rw [e]
                exact hown'
              · exact (HF.out.2.alloc HF.out.2.size _).grown hgrow5 (by have := HF.out.2.size; simp; omega) (fun k hk => (HF.out.1.row.lt k hk).1)
            clear hown' hgrow5 hnil5 hblk
            go_roundg (40 - (i + 1))
            case measure => have := HK.out; omega
            case rel => exact ⟨i + 1, rfl, by have := HK.out; omega, by go_num, HO.out.1, HO.out.2⟩
          · have HV : Hid (ckI T L (i + 1) = ckI T L i ++ [ck1 (T.getD i 0) (halfN L i)] ∧ (c) = ((ck1 (T.getD i 0) (halfN L i)).toNat : Int)) := ⟨ckI_snoc T L i, by
              have q := ck1_num (T.getD i 0) (halfN L i) c0
              rw [← ec.out] at q
              rw [q, hN]
              rw [if_neg (fun x => h16 x.2)]⟩
            have LR : Hid (((ckI T L i).map fun u => (u.toNat : Int)).length = i ∧ i ≤ 40) := ⟨ckT_len T L i, HK.out.2⟩
            clear hN c0 hi9
            go_wp2_with ((at_builtin; go_loud (refine wpList_append_own_at _ rfl _ _ 30 rfl w4.heap.size 5 i0 (.int .u8 0) 1 1 Tryd.underlying30 hi hz0 hz1 hz2 rfl (by decide) u5 _ _ rfl (World.ownsRow.alloc HF.out.1.row _) ⟨wr.heap.size, 0, none⟩ 1 1 [.int .u8 (c)] rfl rfl (cell_oneH _ _ _) (fun z hz => by simp at hz; subst hz; rfl) (by unfold maxLen; have := LR.out; omega) (by have := LR.out; omega) (by have := HF.out.2.size; simp; omega) ?_); intro v' w5 hown' hgrow5 hnil5 hblk))
            have HO : Hid (OwnB w4.heap.size w5 v' ((ckI T L (i + 1)).map fun u => (u.toNat : Int)) ∧ Below w4.heap.size w4 w5) := by
              refine ⟨?_, ?_⟩
              · rw [HV.out.1, List.map_append, OwnB, List.length_append, List.map_append]
                have e : List.map (Value.int .u8) (List.map (fun u : UInt8 => (u.toNat : Int)) [ck1 (T.getD i 0) (halfN L i)]) = [.int .u8 (c)] := by rw [HV.out.2]; rfl
                rw [e]
                exact hown'
              · exact (HF.out.2.alloc HF.out.2.size _).grown hgrow5 (by have := HF.out.2.size; simp; omega) (fun k hk => (HF.out.1.row.lt k hk).1)
            clear hown' hgrow5 hnil5 hblk
            go_roundg (40 - (i + 1))
            case measure => have := HK.out; omega
            case rel => exact ⟨i + 1, rfl, by have := HK.out; omega, by go_num, HO.out.1, HO.out.2⟩
        · have HV : Hid (ckI T L (i + 1) = ckI T L i ++ [ck1 (T.getD i 0) (halfN L i)] ∧ (c) = ((ck1 (T.getD i 0) (halfN L i)).toNat : Int)) := ⟨ckI_snoc T L i, by
            have q := ck1_num (T.getD i 0) (halfN L i) c0
            rw [← ec.out] at q
            rw [q, hN]
            rw [if_neg (fun x => h97 x.1)]⟩
          have LR : Hid (((ckI T L i).map fun u => (u.toNat : Int)).length = i ∧ i ≤ 40) := ⟨ckT_len T L i, HK.out.2⟩
          clear hN c0 hi9
          go_wp2_with ((at_builtin; go_loud (refine wpList_append_own_at _ rfl _ _ 30 rfl w4.heap.size 5 i0 (.int .u8 0) 1 1 Tryd.underlying30 hi hz0 hz1 hz2 rfl (by decide) u5 _ _ rfl (World.ownsRow.alloc HF.out.1.row _) ⟨wr.heap.size, 0, none⟩ 1 1 [.int .u8 (c)] rfl rfl (cell_oneH _ _ _) (fun z hz => by simp at hz; subst hz; rfl) (by unfold maxLen; have := LR.out; omega) (by have := LR.out; omega) (by have := HF.out.2.size; simp; omega) ?_); intro v' w5 hown' hgrow5 hnil5 hblk))
          have HO : Hid (OwnB w4.heap.size w5 v' ((ckI T L (i + 1)).map fun u => (u.toNat : Int)) ∧ Below w4.heap.size w4 w5) := by
            refine ⟨?_, ?_⟩
            · rw [HV.out.1, List.map_append, OwnB, List.length_append, List.map_append]
              have e : List.map (Value.int .u8) (List.map (fun u : UInt8 => (u.toNat : Int)) [ck1 (T.getD i 0) (halfN L i)]) = [.int .u8 (c)] := by rw [HV.out.2]; rfl
              rw [e]
              exact hown'
            · exact (HF.out.2.alloc HF.out.2.size _).grown hgrow5 (by have := HF.out.2.size; simp; omega) (fun k hk => (HF.out.1.row.lt k hk).1)
          clear hown' hgrow5 hnil5 hblk
          go_roundg (40 - (i + 1))
          case measure => have := HK.out; omega
          case rel => exact ⟨i + 1, rfl, by have := HK.out; omega, by go_num, HO.out.1, HO.out.2⟩
end Go.Proofs.YtidchaaahgnabaaDoor

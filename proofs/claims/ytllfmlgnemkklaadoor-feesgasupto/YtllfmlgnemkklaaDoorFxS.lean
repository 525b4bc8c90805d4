import Derived.Test.YtllfmlgnemkklaaDoorFxR
/- Layer 15, the document: strange. -/
namespace Go.Proofs.YtllfmlgnemkklaaDoor
open Go.RowKit Go.Sort
open tq
def strayR (t : Txv) (k f : Nat) : Bool := !decide ((f : Int) ∈ rowsT.getD k []) && (!zeroT t f && !(decide (f = 0) && decide (k = 0)))
set_option maxRecDepth 100000 in
set_option maxHeartbeats 16000000 in
theorem strayR_eq {t : Txv} {k f : Nat} (hk : k < 5) (hf : f < 16) : strayR t k f = strayT t k f := by
  have h1 : k = 0 ∨ k = 1 ∨ k = 2 ∨ k = 3 ∨ k = 4 := by omega
  have h2 : f = 0 ∨ f = 1 ∨ f = 2 ∨ f = 3 ∨ f = 4 ∨ f = 5 ∨ f = 6 ∨ f = 7 ∨ f = 8 ∨ f = 9 ∨ f = 10 ∨ f = 11 ∨ f = 12 ∨ f = 13 ∨ f = 14 ∨ f = 15 := by omega
  rcases h1 with rfl | rfl | rfl | rfl | rfl <;> rcases h2 with rfl | rfl | rfl | rfl | rfl | rfl | rfl | rfl | rfl | rfl | rfl | rfl | rfl | rfl | rfl | rfl <;> simp [strayR, strayT, rowsT, zeroT, blankT]
/-- What strange answers. -/
def sgT (t : Txv) (k : Nat) : Bool := straysT t k || ((t.cr && !decide (t.to = List.replicate 20 0)) || (!decide (t.Hsl.length ≤ 4096) || t.Hsl.any badB))
theorem rows_len {k : Nat} (hk : k < 5) : (rowsT.getD k []).length ≤ 100 := by
  match k, hk with
  | 0, _ => decide
  | 1, _ => decide
  | 2, _ => decide
  | 3, _ => decide
  | 4, _ => decide
  | n + 5, h => exact absurd h (by omega)
theorem strays_no {t : Txv} {k : Nat} (h : ∀ a, a < 16 → strayT t k a = false) : straysT t k = false := by
  unfold straysT
  rw [List.any_eq_false]
  intro a ha
  rw [h a (List.mem_range.1 ha)]
  exact Bool.false_ne_true
theorem strays_yes {t : Txv} {k a : Nat} (ha : a < 16) (h : strayT t k a = true) : straysT t k = true := by
  unfold straysT
  rw [List.any_eq_true]
  exact ⟨a, List.mem_range.2 ha, h⟩
theorem any_yes {α : Type} {p : α → Bool} {L : List α} {z : α} {i : Nat} (hi : i < L.length) (h : p (L.getD i z) = true) : L.any p = true := by
  rw [List.any_eq_true]
  exact ⟨L[i], List.getElem_mem hi, by rw [List.getD, List.getElem?_eq_getElem hi] at h; exact h⟩
theorem any_no {α : Type} {p : α → Bool} {L : List α} (z : α) (h : ∀ i, i < L.length → p (L.getD i z) = false) : L.any p = false := by
  rw [List.any_eq_false]
  intro x hx
  obtain ⟨i, hi, e⟩ := List.getElem_of_mem hx
  have := h i hi
  rw [List.getD, List.getElem?_eq_getElem hi] at this
  rw [← e]; simpa using this
set_option maxRecDepth 100000 in
set_option maxHeartbeats 16000000 in
theorem rstrange_any {t : Txv} {k : Nat} (w : World) (hG : TxG w t) (ek : t.ty = (k : Int)) (hk : k < 5) (hH : t.Hsl.length < 1000000000) :
    Calls Tryd.prog 47 #[.agg (txC t).toArray] w fun e w' => e = .returned (.bool (sgT t k)) ∧ Below w.heap.size w w' := by
  obtain ⟨R, hR⟩ : ∃ R, R = rowsT.getD k [] := ⟨_, rfl⟩
  have h20 := hG.to.1
  have sz := size_tx h20
  have TX : Hid (∀ W, Below (w.heap.size + 1) (w.alloc (.cells (txC t).toArray 32)) W → TxB W w.heap.size t) := fun W B => (txb_one (w := w) h20 32).keep (by rw [World.size_alloc]; exact B)
  have KH : Hid (∀ W, Below w.heap.size w W → KsG W t.Hsa t.Hsb t.Hso t.Hsc t.Hsl) := fun W B => ⟨hG.Hs.1, hG.Hs.2.1, fun i hi => ⟨(hG.Hs.2.2 i hi).1, fun j v hv => cell_keep B ((hG.Hs.2.2 i hi).2 j v hv)⟩⟩
  have ZR : Hid (∀ f : Nat, f < 16 → ∀ W, Calls Tryd.prog 57 #[.agg (txC t).toArray, .int .i64 (f : Int)] W fun e w' => e = .returned (.bool (zeroT t f)) ∧ Below W.heap.size W w') := fun f hf W => rzero_any hf hG W
  have RW : Hid (∀ W, Calls Tryd.prog 55 #[.int .i64 (k : Int)] W fun e w' => ∃ g, e = .returned (.slice (some ⟨g, 0, none⟩) R.length R.length) ∧ w'.rangeAt g 0 (vI R) ∧ Below W.heap.size W w') := fun W => by rw [hR]; exact rrow_any hk W
  have hl := rows_len hk
  rw [← hR] at hl
  have SR : Hid (∀ f : Nat, f < 16 → strayT t k f = (!decide ((f : Int) ∈ R) && (!zeroT t f && !(decide (f = 0) && decide (k = 0))))) := fun f hf => by rw [hR]; exact (strayR_eq hk hf).symm
  have SG : Hid (sgT t k = (straysT t k || ((t.cr && !decide (t.to = List.replicate 20 0)) || (!decide (t.Hsl.length ≤ 4096) || t.Hsl.any badB)))) := rfl
  have szA : Hid ((Tryd.prog.info? 26).map (·.size) = some (hC t.to).length) := (by rw [hC, List.length_map, h20]; kernel_rfl : _ = _)
  have HE := eq_toT h20
  have HK : Hid (t.ty = (k : Int) ∧ k < 5) := ⟨ek, hk⟩
  have g0 := (TX.out _ (Below.refl _ _)).ty
  rw [ek] at g0
  clear hG h20 ek hk hR
  have HM : Hid (∃ M, M = txC t) := ⟨_, rfl⟩
  obtain ⟨M, hM⟩ := HM.out
  have EM : Hid (M = txC t) := hM
  rw [← hM] at sz ZR TX g0 ⊢
  have SZ : Hid ((Tryd.prog.info? 32).map (·.size) = some M.length) := sz
  clear hM HM sz
  go_enter Tryd.func47, Tryd.ntmps47
  refine wp_seq_k fun K0 h0 => ?_
  have H0 : Hid _ := h0
  clear h0
  go_wp2
  refine H0.out _ _ ?_
  clear H0 K0
  refine wp_seq_k fun K1 h1 => ?_
  have H1 : Hid _ := h1
  clear h1
  go_wp2_with (go_at_call 55; refine (RW.out _).mono ?_; rintro e W3 ⟨g, rfl, rg, B3⟩)
  refine H1.out _ _ ?_
  clear H1 K1 RW
  have B3 : Below (w.heap.size + 1) (w.alloc (.cells M.toArray 32)) W3 := by have := B3; rw [World.size_alloc] at this; exact this
  have BW3 : Below w.heap.size w W3 := ((Below.refl _ _).alloc (Nat.le_refl _) _).trans (B3.mono (by omega))
  have L3 : w.heap.size + 1 ≤ W3.heap.size := by have := B3.size; simp at this; omega
  have FX : Hid (∀ W, Below W3.heap.size W3 W → TxB W w.heap.size t ∧ W.rangeAt g 0 (vI R) ∧ Below w.heap.size w W ∧ W.cell? ⟨w.heap.size, 0, none⟩ = some (.int .i64 (k : Int)) ∧ W.rangeAt w.heap.size 0 M) := fun W B => by
    have x := TX.out W (B3.trans (B.mono L3))
    exact ⟨x, fun j v hv => cell_keep B (rg j v hv), BW3.trans (B.mono BW3.size), by have := x.ty; rw [HK.out.1] at this; exact this, by rw [EM.out]; exact x.all⟩
  have ST : Hid (∀ f : Nat, ∀ W, Below W3.heap.size W3 W → Calls Tryd.prog 56 #[.slice (some ⟨g, 0, none⟩) R.length R.length, .int .i64 (f : Int)] W fun e w' => e = .returned (.bool (decide ((f : Int) ∈ R))) ∧ Below W.heap.size W w') := fun f W B => rstands_any hl W (FX.out W B).2.1
  clear g0 rg B3 BW3 L3 TX hl
  generalize R.length = rl at *
  refine wp_seq_k fun K2 h2 => ?_
  have H2 : Hid _ := h2
  clear h2
  go_wp2_with fail
  go_loopg [4] 16 (fun q i wr => ∃ j : Nat, q = 16 - j ∧ j ≤ 16 ∧ i = .int .i64 (j : Int) ∧ (∀ a, a < j → strayT t k a = false) ∧ Below W3.heap.size W3 wr)
  case atStart => exact ⟨0, rfl, Nat.zero_le _, rfl, fun a ha => absurd ha (Nat.not_lt_zero _), Below.refl _ _⟩
  case round =>
    obtain ⟨j, hq, hj, rfl, hno, hB⟩ := hrel
    have HN : Hid (gk = 16 - j ∧ (∀ a, a < j → strayT t k a = false)) := ⟨hq, hno⟩
    have HB : Hid (Below W3.heap.size W3 wr) := hB
    clear hq hno hB
    by_cases e : j = 16
    · subst e
      have DN : Hid (straysT t k = false) := strays_no HN.out.2
      have E16 : decide ((16 : Int) < 16) = false := by decide
      go_wp2
      refine H2.out _ _ ?_
      clear H2
      have X := (FX.out _ HB.out).1
      have gcr := X.cr
      have ghs := X.Hs
      have rT := X.toRZ
      have hzA := build_adr
      have he := HE
      have sA := szA.out
      have BW := (FX.out _ HB.out).2.2.1
      have SG2 : Hid (sgT t k = ((t.cr && !decide (t.to = List.replicate 20 0)) || (!decide (t.Hsl.length ≤ 4096) || t.Hsl.any badB))) := by show _ = _; rw [SG.out, DN.out]; rfl
      have n1 : (t.Hsl.length : Int) < 1000000000 := by omega
      clear X ST ZR SR SG szA HE E16 SZ
      have N1 : Hid ((t.Hsl.length : Int) < 1000000000) := n1
      clear n1
      generalize decide (t.to = List.replicate 20 0) = tz at *
      generalize hC t.to = ct at *
      cases hcr : t.cr with
      | true =>
        rw [hcr] at gcr SG2
        cases tz with
        | false =>
          have dn : sgT t k = true := by rw [SG2.out]; rfl
          clear hcr
          go_wp2_with (refine wpList_load_midG (by rfl) 26 _ rfl w.heap.size 17 rfl ct _ rT Tryd.underlying26 rfl sA ?_)
          simp [bodyPost, results, Tryd.results47, go_sem, dn]
          exact BW
        | true =>
          by_cases hle : t.Hsl.length ≤ 4096
          · have SG3 : Hid (sgT t k = t.Hsl.any badB) := by show _ = _; rw [SG2.out, decide_eq_true hle]; rfl
            have n2 : ((4096 : Int) < (t.Hsl.length : Int)) = False := by simp; omega
            clear hle SG2 hcr
            go_wp2_with (refine wpList_load_midG (by rfl) 26 _ rfl w.heap.size 17 rfl ct _ rT Tryd.underlying26 rfl sA ?_)
            go_loopg [5] t.Hsl.length (fun q i wr => ∃ j : Nat, q = t.Hsl.length - j ∧ j ≤ t.Hsl.length ∧ i = .int .i64 (j : Int) ∧ (∀ a, a < j → badB (t.Hsl.getD a []) = false) ∧ Below W3.heap.size W3 wr)
            case atStart => exact ⟨0, rfl, Nat.zero_le _, rfl, fun a ha => absurd ha (Nat.not_lt_zero _), HB.out⟩
            case round =>
              clear gcr ghs rT
              obtain ⟨j, hq, hj2, rfl, hno, hB⟩ := hrel
              have HN3 : Hid (gk = t.Hsl.length - j ∧ (∀ a, a < j → badB (t.Hsl.getD a []) = false)) := ⟨hq, hno⟩
              have HB3 : Hid (Below W3.heap.size W3 wr) := hB
              clear hq hno hB
              have ghs := (FX.out _ HB3.out).1.Hs
              by_cases e : j = t.Hsl.length
              · have dn : sgT t k = false := by rw [SG3.out]; exact any_no [] fun i hi => HN3.out.2 i (by omega)
                subst e
                go_wp2
                simp [bodyPost, results, Tryd.results47, go_sem, dn]
                exact (FX.out _ HB3.out).2.2.1
              · have hlt : j < t.Hsl.length := by omega
                have hlt' : (j : Int) < (t.Hsl.length : Int) := by omega
                have KS := KH.out _ (FX.out _ HB3.out).2.2.1
                have ea : t.Hsa = some ⟨t.Hsb, t.Hso, none⟩ := by
                  rcases KS.2.1 with h | h
                  · rw [h] at hlt; simp at hlt
                  · exact h
                have r1 := (KS.2.2 j hlt).2
                have l1 := (KS.2.2 j hlt).1.1
                have c1 : wr.cell? ⟨t.Hsb, t.Hso + j * 32, none⟩ = some (.int .u8 ((t.Hsl.getD j []).getD 0 0)) := by
                  have q := r1 0 (.int .u8 ((t.Hsl.getD j []).getD 0 0)) (by rw [hC, List.getElem?_map, List.getElem?_eq_getElem (by omega), List.getD_eq_getElem?_getD (l := t.Hsl.getD j []), List.getElem?_eq_getElem (by omega)]; rfl)
                  rwa [Nat.add_zero] at q
                rw [ea] at ghs
                have BD : Hid (badB (t.Hsl.getD j []) = !decide ((t.Hsl.getD j []).getD 0 0 = 1)) := rfl
                have YES : Hid (badB (t.Hsl.getD j []) = true → sgT t k = true) := fun h => by rw [SG3.out]; exact any_yes (z := []) hlt h
                clear KS ea r1 l1 KH e
                generalize (t.Hsl.getD j []).getD 0 0 = x0 at *
                generalize hbb : badB (t.Hsl.getD j []) = bb at *
                have HBB : Hid (badB (t.Hsl.getD j []) = bb) := hbb
                clear hbb
                by_cases cx : x0 = 1
                · subst cx
                  have eb : bb = false := by rw [BD.out]; rfl
                  subst eb
                  go_wp2
                  go_roundg (t.Hsl.length - (j + 1))
                  case measure => have := HN3.out.1; omega
                  case rel => exact ⟨j + 1, rfl, hlt, by go_num, fun a ha => by
                    by_cases c : a = j
                    · subst c; exact HBB.out
                    · exact HN3.out.2 a (by omega), HB3.out⟩
                · have dn : sgT t k = true := YES.out (by rw [BD.out, decide_eq_false cx]; rfl)
                  have cx' : (x0 != 1) = true := bne_iff_ne.2 cx
                  go_wp2
                  simp [bodyPost, results, Tryd.results47, go_sem, dn]
                  exact (FX.out _ HB3.out).2.2.1
          · have dn : sgT t k = true := by rw [SG2.out, decide_eq_false hle]; simp
            have n3 : (4096 : Int) < (t.Hsl.length : Int) := by omega
            clear hle SG2 hcr
            go_wp2_with (refine wpList_load_midG (by rfl) 26 _ rfl w.heap.size 17 rfl ct _ rT Tryd.underlying26 rfl sA ?_)
            simp [bodyPost, results, Tryd.results47, go_sem, dn]
            exact BW
      | false =>
        rw [hcr] at gcr SG2
        by_cases hle : t.Hsl.length ≤ 4096
        · have SG3 : Hid (sgT t k = t.Hsl.any badB) := by show _ = _; rw [SG2.out, decide_eq_true hle]; rfl
          have n2 : ((4096 : Int) < (t.Hsl.length : Int)) = False := by simp; omega
          clear hle SG2 hcr
          go_wp2_with fail
          go_loopg [5] t.Hsl.length (fun q i wr => ∃ j : Nat, q = t.Hsl.length - j ∧ j ≤ t.Hsl.length ∧ i = .int .i64 (j : Int) ∧ (∀ a, a < j → badB (t.Hsl.getD a []) = false) ∧ Below W3.heap.size W3 wr)
          case atStart => exact ⟨0, rfl, Nat.zero_le _, rfl, fun a ha => absurd ha (Nat.not_lt_zero _), HB.out⟩
          case round =>
            clear gcr ghs rT
            obtain ⟨j, hq, hj2, rfl, hno, hB⟩ := hrel
            have HN3 : Hid (gk = t.Hsl.length - j ∧ (∀ a, a < j → badB (t.Hsl.getD a []) = false)) := ⟨hq, hno⟩
            have HB3 : Hid (Below W3.heap.size W3 wr) := hB
            clear hq hno hB
            have ghs := (FX.out _ HB3.out).1.Hs
            by_cases e : j = t.Hsl.length
            · have dn : sgT t k = false := by rw [SG3.out]; exact any_no [] fun i hi => HN3.out.2 i (by omega)
              subst e
              go_wp2
              simp [bodyPost, results, Tryd.results47, go_sem, dn]
              exact (FX.out _ HB3.out).2.2.1
            · have hlt : j < t.Hsl.length := by omega
              have hlt' : (j : Int) < (t.Hsl.length : Int) := by omega
              have KS := KH.out _ (FX.out _ HB3.out).2.2.1
              have ea : t.Hsa = some ⟨t.Hsb, t.Hso, none⟩ := by
                rcases KS.2.1 with h | h
                · rw [h] at hlt; simp at hlt
                · exact h
              have r1 := (KS.2.2 j hlt).2
              have l1 := (KS.2.2 j hlt).1.1
              have c1 : wr.cell? ⟨t.Hsb, t.Hso + j * 32, none⟩ = some (.int .u8 ((t.Hsl.getD j []).getD 0 0)) := by
                have q := r1 0 (.int .u8 ((t.Hsl.getD j []).getD 0 0)) (by rw [hC, List.getElem?_map, List.getElem?_eq_getElem (by omega), List.getD_eq_getElem?_getD (l := t.Hsl.getD j []), List.getElem?_eq_getElem (by omega)]; rfl)
                rwa [Nat.add_zero] at q
              rw [ea] at ghs
              have BD : Hid (badB (t.Hsl.getD j []) = !decide ((t.Hsl.getD j []).getD 0 0 = 1)) := rfl
              have YES : Hid (badB (t.Hsl.getD j []) = true → sgT t k = true) := fun h => by rw [SG3.out]; exact any_yes (z := []) hlt h
              clear KS ea r1 l1 KH e
              generalize (t.Hsl.getD j []).getD 0 0 = x0 at *
              generalize hbb : badB (t.Hsl.getD j []) = bb at *
              have HBB : Hid (badB (t.Hsl.getD j []) = bb) := hbb
              clear hbb
              by_cases cx : x0 = 1
              · subst cx
                have eb : bb = false := by rw [BD.out]; rfl
                subst eb
                go_wp2
                go_roundg (t.Hsl.length - (j + 1))
                case measure => have := HN3.out.1; omega
                case rel => exact ⟨j + 1, rfl, hlt, by go_num, fun a ha => by
                  by_cases c : a = j
                  · subst c; exact HBB.out
                  · exact HN3.out.2 a (by omega), HB3.out⟩
              · have dn : sgT t k = true := YES.out (by rw [BD.out, decide_eq_false cx]; rfl)
                have cx' : (x0 != 1) = true := bne_iff_ne.2 cx
                go_wp2
                simp [bodyPost, results, Tryd.results47, go_sem, dn]
                exact (FX.out _ HB3.out).2.2.1
        · have dn : sgT t k = true := by rw [SG2.out, decide_eq_false hle]; simp
          have n3 : (4096 : Int) < (t.Hsl.length : Int) := by omega
          clear hle SG2 hcr
          go_wp2
          simp [bodyPost, results, Tryd.results47, go_sem, dn]
          exact BW
    · have hlt : j < 16 := by omega
      have b1 : (j : Int) < 16 := by omega
      have ES : Hid (strayT t k j = (!decide ((j : Int) ∈ R) && (!zeroT t j && !(decide (j = 0) && decide (k = 0))))) := SR.out j hlt
      have ZRj : Hid (∀ W, Calls Tryd.prog 57 #[.agg M.toArray, .int .i64 (j : Int)] W fun e w' => e = .returned (.bool (zeroT t j)) ∧ Below W.heap.size W w') := fun W => ZR.out j hlt W
      go_wp2_with fail
      refine (ST.out j _ HB.out).mono ?_
      rintro e w3 ⟨rfl, hb⟩
      have B4 : Hid (Below W3.heap.size W3 w3) := HB.out.trans (hb.mono HB.out.size)
      have rM := (FX.out _ B4.out).2.2.2.2
      have sz := SZ.out
      clear hb ST ZR SR HB
      generalize decide ((j : Int) ∈ R) = s at *
      generalize zeroT t j = z at *
      cases s with
      | true =>
        clear ZRj rM sz
        go_wp2
        go_roundg (16 - (j + 1))
        case measure => have := HN.out.1; omega
        case rel => exact ⟨j + 1, rfl, by omega, by go_num, fun a ha => by
          by_cases c : a = j
          · subst c; rw [ES.out]; rfl
          · exact HN.out.2 a (by omega), B4.out⟩
      | false =>
        go_wp2_with (refine wpList_load_midG (by rfl) 32 _ rfl w.heap.size 0 rfl M _ rM Tryd.underlying32 rfl sz ?_)
        refine (ZRj.out _).mono ?_
        rintro e w4 ⟨rfl, hb⟩
        have B5 : Hid (Below W3.heap.size W3 w4) := B4.out.trans (hb.mono B4.out.size)
        have tyc := (FX.out _ B5.out).2.2.2.1
        clear hb ZRj rM sz
        cases z with
        | true =>
          clear tyc
          go_wp2
          go_roundg (16 - (j + 1))
          case measure => have := HN.out.1; omega
          case rel => exact ⟨j + 1, rfl, by omega, by go_num, fun a ha => by
            by_cases c : a = j
            · subst c; rw [ES.out]; rfl
            · exact HN.out.2 a (by omega), B5.out⟩
        | false =>
          by_cases cj : j = 0
          · by_cases ck : k = 0
            · subst cj
              have ck' : (k : Int) = 0 := by omega
              rw [ck'] at tyc
              have E5 : Hid (strayT t k 0 = false) := by show _ = _; rw [ES.out, ck]; rfl
              clear ck ck'
              go_wp2
              go_roundg (16 - (0 + 1))
              case measure => have := HN.out.1; omega
              case rel => exact ⟨1, rfl, by omega, by go_num, fun a ha => by
                obtain rfl : a = 0 := by omega
                exact E5.out, B5.out⟩
            · have ck' : ((k : Int) == 0) = false := beq_eq_false_iff_ne.2 (by omega)
              have dn : sgT t k = true := by rw [SG.out, strays_yes hlt (by rw [ES.out]; simp [ck])]; rfl
              subst cj
              go_wp2
              simp [bodyPost, results, Tryd.results47, go_sem, dn]
              exact (FX.out _ B5.out).2.2.1
          · have cj' : ((j : Int) == 0) = false := beq_eq_false_iff_ne.2 (by omega)
            have dn : sgT t k = true := by rw [SG.out, strays_yes hlt (by rw [ES.out]; simp [cj])]; rfl
            go_wp2
            simp [bodyPost, results, Tryd.results47, go_sem, dn]
            exact (FX.out _ B5.out).2.2.1
end Go.Proofs.YtllfmlgnemkklaaDoor

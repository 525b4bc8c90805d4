import Derived.Test.YtllfmlgnemkklaaDoorFxS
import Derived.Test.YtllfmlgnemkklaaDoorTxZA
import Derived.Test.YtllfmlgnemkklaaDoorTsF
/- Layer 15, the document: Draft. -/
namespace Go.Proofs.YtllfmlgnemkklaaDoor
open Go.RowKit Go.Sort
open tq
theorem sg_iff {t : Txv} {k : Nat} : (sgT t k = true) ↔ (straysT t k = true ∨ (t.cr = true ∧ t.to ≠ List.replicate 20 0) ∨ ¬ (t.Hsl.length ≤ 4096 ∧ t.Hsl.any badB = false)) := by
  unfold sgT
  cases straysT t k <;> cases t.cr <;> by_cases h : t.to = List.replicate 20 0 <;> by_cases h2 : t.Hsl.length ≤ 4096 <;> cases t.Hsl.any badB <;> simp [h, h2]
theorem df_other {t : Txv} (h : t.ty < 0 ∨ 5 ≤ t.ty) : dfN t = 150 := by rw [dfN, if_pos h]
theorem df_kind {t : Txv} {k : Nat} (ek : t.ty = (k : Int)) (hk : k < 5) : dfN t = if sgT t k = true then 152 else dfR t (k : Int) (t.Ul.any badU) := by
  have h : ¬ (t.ty < 0 ∨ 5 ≤ t.ty) := by rw [ek]; omega
  rw [dfN, if_neg h]
  have e : t.ty.toNat = k := by rw [ek]; rfl
  rw [e]
  by_cases c : sgT t k = true
  · rw [if_pos c, if_pos (sg_iff.1 c)]
  · rw [if_neg c, if_neg (fun q => c (sg_iff.2 q)), dfR, ek]
set_option maxRecDepth 100000 in
set_option maxHeartbeats 4000000 in
theorem rdraft_other {t : Txv} (h20 : t.to.length = 20) (h : t.ty < 0 ∨ 5 ≤ t.ty) (w : World) :
    Calls Tryd.prog 29 #[.agg (txC t).toArray] w fun e w' => e = .returned (.int .i64 150) ∧ Below w.heap.size w w' := by
  have g := (txb_one (w := w) h20 32).ty
  generalize txC t = M at *
  generalize t.ty = x at *
  clear h20
  rcases h with h | h
  · go_enter Tryd.func29, Tryd.ntmps29
    go_wp2
    simp [bodyPost, results, Tryd.results29, go_sem]
    repeat (first | with_reducible exact Below.refl _ _ | with_reducible refine Below.drew ?_ | with_reducible refine Below.alloc ?_ (by first | omega | (simp; done) | (simp; omega)) _)
  · have h2 : ¬ x < 0 := by omega
    have h3 : 4 < x := by omega
    clear h
    go_enter Tryd.func29, Tryd.ntmps29
    go_wp2
    simp [bodyPost, results, Tryd.results29, go_sem]
    repeat (first | with_reducible exact Below.refl _ _ | with_reducible refine Below.drew ?_ | with_reducible refine Below.alloc ?_ (by first | omega | (simp; done) | (simp; omega)) _)
theorem aun_pa {u : Aun} (h : u.adr.length = 20) {W : World} {b p : Nat} (hr : W.rangeAt b p (aunC u)) : W.cell? ⟨b, p + 25, none⟩ = some (.int .u64 u.pa) := by
  refine hr 25 _ ?_
  unfold aunC hC
  rw [List.getElem?_append_right (by simp)]
  simp only [List.length_cons, List.length_nil]
  rw [List.getElem?_append_right (by simp [h])]
  simp [h]
set_option maxRecDepth 100000 in
set_option maxHeartbeats 16000000 in
theorem rdraft_0 {t : Txv} (w : World) (hG : TxG w t) (ek : t.ty = (0 : Nat)) (hH : t.Hsl.length < 1000000000) (hU : t.Ul.length < 1000000000) :
    Calls Tryd.prog 29 #[.agg (txC t).toArray] w fun e w' => e = .returned (.int .i64 (dfN t)) ∧ Below w.heap.size w w' := by
  have h20 := hG.to.1
  have sz := size_tx h20
  have TX : Hid (∀ W, Below (w.heap.size + 1) (w.alloc (.cells (txC t).toArray 32)) W → TxB W w.heap.size t) := fun W B => (txb_one (w := w) h20 32).keep (by rw [World.size_alloc]; exact B)
  have UH : Hid (∀ W, Below w.heap.size w W → UsG W t.Ua t.Ub t.Uo t.Uc t.Ul) := fun W B => hG.U.keep B
  have SG : Hid (∀ W, Below w.heap.size w W → Calls Tryd.prog 47 #[.agg (txC t).toArray] W fun e w' => e = .returned (.bool (sgT t 0)) ∧ Below W.heap.size W w') := fun W B => rstrange_any W (hG.keep B) ek (by decide) hH
  have DF : Hid (dfN t = if sgT t 0 = true then 152 else dfR t ((0 : Nat) : Int) (t.Ul.any badU)) := df_kind ek (by decide)
  have g0 := (TX.out _ (Below.refl _ _)).ty
  have r0 := (TX.out _ (Below.refl _ _)).all
  have BW0 : Hid (Below w.heap.size w (w.alloc (.cells (txC t).toArray 32))) := (Below.refl _ _).alloc (Nat.le_refl _) _
  rw [ek] at g0
  clear hG h20 hH ek
  generalize txC t = M at *
  go_enter Tryd.func29, Tryd.ntmps29
  go_wp2_with (refine wpList_load_mid rfl 32 _ rfl w.heap.size 0 rfl M _ r0 Tryd.underlying32 rfl sz ?_)
  refine (SG.out _ BW0.out).mono ?_
  rintro e w1 ⟨rfl, hb⟩
  have B1 : Below (w.heap.size + 1) (w.alloc (.cells M.toArray 32)) w1 := by have := hb; rw [World.size_alloc] at this; exact this
  have L1 : w.heap.size + 1 ≤ w1.heap.size := by have := B1.size; simp at this; omega
  have BW : Hid (Below w.heap.size w w1) := BW0.out.trans (B1.mono (by omega))
  have FX : Hid (∀ W, Below w1.heap.size w1 W → TxB W w.heap.size t ∧ Below w.heap.size w W) := fun W B => ⟨TX.out W (B1.trans (B.mono L1)), BW.out.trans (B.mono BW.out.size)⟩
  have X1 := (FX.out _ (Below.refl _ _)).1
  have gch := X1.ch
  have gcr := X1.cr
  have ghs := X1.Hs
  have gu := X1.U
  have gty : w1.cell? ⟨w.heap.size, 0, none⟩ = some (.int .i64 0) := cell_keep (W := w.alloc (.cells M.toArray 32)) (by rw [World.size_alloc]; exact B1) g0
  clear hb B1 L1 X1 g0 r0 sz SG TX BW0
  generalize sgT t 0 = s at *
  cases s with
  | true =>
    have DF2 := DF
    have dn : dfN t = 152 := by rw [DF2.out]; rfl
    go_wp2
    simp [bodyPost, results, Tryd.results29, go_sem, dn]
    exact BW.out
  | false =>
    have DF2 : Hid (dfN t = dfR t 0 (t.Ul.any badU)) := by show _ = _; rw [DF.out]; rfl
    clear DF
    by_cases c : 9223372036854775807 < t.ch
    · have dn : dfN t = 153 := by rw [DF2.out]; exact if_pos c
      go_wp2
      simp [bodyPost, results, Tryd.results29, go_sem, dn]
      exact BW.out
    · have c' : (9223372036854775807 < t.ch) = False := by simp; omega
      have DF4 : Hid (¬ 9223372036854775807 < t.ch) := c
      clear c
      have DF3 : Hid (dfN t = if t.Ul.any badU = true then 141 else 0) := by show _ = _; rw [DF2.out]; rw [dfR, if_neg DF4.out, if_neg (by simp), if_neg (by simp)]
      clear DF2
      go_wp2_with fail
      go_loopg [3] t.Ul.length (fun q i wr => ∃ j : Nat, q = t.Ul.length - j ∧ j ≤ t.Ul.length ∧ i = .int .i64 (j : Int) ∧ (∀ a, a < j → badU (t.Ul.getD a zAun) = false) ∧ Below w1.heap.size w1 wr)
      case atStart => exact ⟨0, rfl, Nat.zero_le _, rfl, fun a ha => absurd ha (Nat.not_lt_zero _), Below.refl _ _⟩
      case round =>
        clear gch gcr ghs gu
        obtain ⟨j, hq, hj2, rfl, hno, hB⟩ := hrel
        have HN3 : Hid (gk = t.Ul.length - j ∧ (∀ a, a < j → badU (t.Ul.getD a zAun) = false)) := ⟨hq, hno⟩
        have HB3 : Hid (Below w1.heap.size w1 wr) := hB
        clear hq hno hB
        have gu := (FX.out _ HB3.out).1.U
        by_cases e : j = t.Ul.length
        · have dn : dfN t = 0 := by rw [DF3.out, any_no zAun fun i hi => HN3.out.2 i (by omega)]; rfl
          subst e
          go_wp2
          simp [bodyPost, results, Tryd.results29, go_sem, dn]
          exact (FX.out _ HB3.out).2
        · have hlt : j < t.Ul.length := by omega
          have hlt' : (j : Int) < (t.Ul.length : Int) := by omega
          have KS := UH.out _ (FX.out _ HB3.out).2
          have ea : t.Ua = some ⟨t.Ub, t.Uo, none⟩ := by
            rcases KS.2.1 with h | h
            · rw [h] at hlt; simp at hlt
            · exact h
          have c1 := aun_pa (KS.2.2 j hlt).1.2.1.1 (KS.2.2 j hlt).2
          rw [ea] at gu
          have BD : Hid (badU (t.Ul.getD j zAun) = decide (255 < (t.Ul.getD j zAun).pa)) := rfl
          have YES : Hid (badU (t.Ul.getD j zAun) = true → dfN t = 141) := fun h => by rw [DF3.out, any_yes (z := zAun) hlt h]; rfl
          clear KS ea UH e
          generalize (t.Ul.getD j zAun).pa = x0 at *
          generalize hbb : badU (t.Ul.getD j zAun) = bb at *
          have HBB : Hid (badU (t.Ul.getD j zAun) = bb) := hbb
          clear hbb
          by_cases cx : 255 < x0
          · have dn : dfN t = 141 := YES.out (by rw [BD.out, decide_eq_true cx])
            go_wp2
            simp [bodyPost, results, Tryd.results29, go_sem, dn]
            exact (FX.out _ HB3.out).2
          · have eb : bb = false := by rw [BD.out, decide_eq_false cx]
            subst eb
            have cx' : (255 < x0) = False := by simp; omega
            clear cx
            go_wp2
            go_roundg (t.Ul.length - (j + 1))
            case measure => have := HN3.out.1; omega
            case rel => exact ⟨j + 1, rfl, hlt, by go_num, fun a ha => by
              by_cases c : a = j
              · subst c; exact HBB.out
              · exact HN3.out.2 a (by omega), HB3.out⟩
set_option maxRecDepth 100000 in
set_option maxHeartbeats 16000000 in
theorem rdraft_1 {t : Txv} (w : World) (hG : TxG w t) (ek : t.ty = (1 : Nat)) (hH : t.Hsl.length < 1000000000) (hU : t.Ul.length < 1000000000) :
    Calls Tryd.prog 29 #[.agg (txC t).toArray] w fun e w' => e = .returned (.int .i64 (dfN t)) ∧ Below w.heap.size w w' := by
  have h20 := hG.to.1
  have sz := size_tx h20
  have TX : Hid (∀ W, Below (w.heap.size + 1) (w.alloc (.cells (txC t).toArray 32)) W → TxB W w.heap.size t) := fun W B => (txb_one (w := w) h20 32).keep (by rw [World.size_alloc]; exact B)
  have UH : Hid (∀ W, Below w.heap.size w W → UsG W t.Ua t.Ub t.Uo t.Uc t.Ul) := fun W B => hG.U.keep B
  have SG : Hid (∀ W, Below w.heap.size w W → Calls Tryd.prog 47 #[.agg (txC t).toArray] W fun e w' => e = .returned (.bool (sgT t 1)) ∧ Below W.heap.size W w') := fun W B => rstrange_any W (hG.keep B) ek (by decide) hH
  have DF : Hid (dfN t = if sgT t 1 = true then 152 else dfR t ((1 : Nat) : Int) (t.Ul.any badU)) := df_kind ek (by decide)
  have g0 := (TX.out _ (Below.refl _ _)).ty
  have r0 := (TX.out _ (Below.refl _ _)).all
  have BW0 : Hid (Below w.heap.size w (w.alloc (.cells (txC t).toArray 32))) := (Below.refl _ _).alloc (Nat.le_refl _) _
  rw [ek] at g0
  clear hG h20 hH ek
  generalize txC t = M at *
  go_enter Tryd.func29, Tryd.ntmps29
  go_wp2_with (refine wpList_load_mid rfl 32 _ rfl w.heap.size 0 rfl M _ r0 Tryd.underlying32 rfl sz ?_)
  refine (SG.out _ BW0.out).mono ?_
  rintro e w1 ⟨rfl, hb⟩
  have B1 : Below (w.heap.size + 1) (w.alloc (.cells M.toArray 32)) w1 := by have := hb; rw [World.size_alloc] at this; exact this
  have L1 : w.heap.size + 1 ≤ w1.heap.size := by have := B1.size; simp at this; omega
  have BW : Hid (Below w.heap.size w w1) := BW0.out.trans (B1.mono (by omega))
  have FX : Hid (∀ W, Below w1.heap.size w1 W → TxB W w.heap.size t ∧ Below w.heap.size w W) := fun W B => ⟨TX.out W (B1.trans (B.mono L1)), BW.out.trans (B.mono BW.out.size)⟩
  have X1 := (FX.out _ (Below.refl _ _)).1
  have gch := X1.ch
  have gcr := X1.cr
  have ghs := X1.Hs
  have gu := X1.U
  have gty : w1.cell? ⟨w.heap.size, 0, none⟩ = some (.int .i64 1) := cell_keep (W := w.alloc (.cells M.toArray 32)) (by rw [World.size_alloc]; exact B1) g0
  clear hb B1 L1 X1 g0 r0 sz SG TX BW0
  generalize sgT t 1 = s at *
  cases s with
  | true =>
    have DF2 := DF
    have dn : dfN t = 152 := by rw [DF2.out]; rfl
    go_wp2
    simp [bodyPost, results, Tryd.results29, go_sem, dn]
    exact BW.out
  | false =>
    have DF2 : Hid (dfN t = dfR t 1 (t.Ul.any badU)) := by show _ = _; rw [DF.out]; rfl
    clear DF
    by_cases c : 9223372036854775807 < t.ch
    · have dn : dfN t = 153 := by rw [DF2.out]; exact if_pos c
      go_wp2
      simp [bodyPost, results, Tryd.results29, go_sem, dn]
      exact BW.out
    · have c' : (9223372036854775807 < t.ch) = False := by simp; omega
      have DF4 : Hid (¬ 9223372036854775807 < t.ch) := c
      clear c
      have DF3 : Hid (dfN t = if t.Ul.any badU = true then 141 else 0) := by show _ = _; rw [DF2.out]; rw [dfR, if_neg DF4.out, if_neg (by simp), if_neg (by simp)]
      clear DF2
      go_wp2_with fail
      go_loopg [3] t.Ul.length (fun q i wr => ∃ j : Nat, q = t.Ul.length - j ∧ j ≤ t.Ul.length ∧ i = .int .i64 (j : Int) ∧ (∀ a, a < j → badU (t.Ul.getD a zAun) = false) ∧ Below w1.heap.size w1 wr)
      case atStart => exact ⟨0, rfl, Nat.zero_le _, rfl, fun a ha => absurd ha (Nat.not_lt_zero _), Below.refl _ _⟩
      case round =>
        clear gch gcr ghs gu
        obtain ⟨j, hq, hj2, rfl, hno, hB⟩ := hrel
        have HN3 : Hid (gk = t.Ul.length - j ∧ (∀ a, a < j → badU (t.Ul.getD a zAun) = false)) := ⟨hq, hno⟩
        have HB3 : Hid (Below w1.heap.size w1 wr) := hB
        clear hq hno hB
        have gu := (FX.out _ HB3.out).1.U
        by_cases e : j = t.Ul.length
        · have dn : dfN t = 0 := by rw [DF3.out, any_no zAun fun i hi => HN3.out.2 i (by omega)]; rfl
          subst e
          go_wp2
          simp [bodyPost, results, Tryd.results29, go_sem, dn]
          exact (FX.out _ HB3.out).2
        · have hlt : j < t.Ul.length := by omega
          have hlt' : (j : Int) < (t.Ul.length : Int) := by omega
          have KS := UH.out _ (FX.out _ HB3.out).2
          have ea : t.Ua = some ⟨t.Ub, t.Uo, none⟩ := by
            rcases KS.2.1 with h | h
            · rw [h] at hlt; simp at hlt
            · exact h
          have c1 := aun_pa (KS.2.2 j hlt).1.2.1.1 (KS.2.2 j hlt).2
          rw [ea] at gu
          have BD : Hid (badU (t.Ul.getD j zAun) = decide (255 < (t.Ul.getD j zAun).pa)) := rfl
          have YES : Hid (badU (t.Ul.getD j zAun) = true → dfN t = 141) := fun h => by rw [DF3.out, any_yes (z := zAun) hlt h]; rfl
          clear KS ea UH e
          generalize (t.Ul.getD j zAun).pa = x0 at *
          generalize hbb : badU (t.Ul.getD j zAun) = bb at *
          have HBB : Hid (badU (t.Ul.getD j zAun) = bb) := hbb
          clear hbb
          by_cases cx : 255 < x0
          · have dn : dfN t = 141 := YES.out (by rw [BD.out, decide_eq_true cx])
            go_wp2
            simp [bodyPost, results, Tryd.results29, go_sem, dn]
            exact (FX.out _ HB3.out).2
          · have eb : bb = false := by rw [BD.out, decide_eq_false cx]
            subst eb
            have cx' : (255 < x0) = False := by simp; omega
            clear cx
            go_wp2
            go_roundg (t.Ul.length - (j + 1))
            case measure => have := HN3.out.1; omega
            case rel => exact ⟨j + 1, rfl, hlt, by go_num, fun a ha => by
              by_cases c : a = j
              · subst c; exact HBB.out
              · exact HN3.out.2 a (by omega), HB3.out⟩
set_option maxRecDepth 100000 in
set_option maxHeartbeats 16000000 in
theorem rdraft_2 {t : Txv} (w : World) (hG : TxG w t) (ek : t.ty = (2 : Nat)) (hH : t.Hsl.length < 1000000000) (hU : t.Ul.length < 1000000000) :
    Calls Tryd.prog 29 #[.agg (txC t).toArray] w fun e w' => e = .returned (.int .i64 (dfN t)) ∧ Below w.heap.size w w' := by
  have h20 := hG.to.1
  have sz := size_tx h20
  have TX : Hid (∀ W, Below (w.heap.size + 1) (w.alloc (.cells (txC t).toArray 32)) W → TxB W w.heap.size t) := fun W B => (txb_one (w := w) h20 32).keep (by rw [World.size_alloc]; exact B)
  have UH : Hid (∀ W, Below w.heap.size w W → UsG W t.Ua t.Ub t.Uo t.Uc t.Ul) := fun W B => hG.U.keep B
  have SG : Hid (∀ W, Below w.heap.size w W → Calls Tryd.prog 47 #[.agg (txC t).toArray] W fun e w' => e = .returned (.bool (sgT t 2)) ∧ Below W.heap.size W w') := fun W B => rstrange_any W (hG.keep B) ek (by decide) hH
  have DF : Hid (dfN t = if sgT t 2 = true then 152 else dfR t ((2 : Nat) : Int) (t.Ul.any badU)) := df_kind ek (by decide)
  have g0 := (TX.out _ (Below.refl _ _)).ty
  have r0 := (TX.out _ (Below.refl _ _)).all
  have BW0 : Hid (Below w.heap.size w (w.alloc (.cells (txC t).toArray 32))) := (Below.refl _ _).alloc (Nat.le_refl _) _
  rw [ek] at g0
  clear hG h20 hH ek
  generalize txC t = M at *
  go_enter Tryd.func29, Tryd.ntmps29
  go_wp2_with (refine wpList_load_mid rfl 32 _ rfl w.heap.size 0 rfl M _ r0 Tryd.underlying32 rfl sz ?_)
  refine (SG.out _ BW0.out).mono ?_
  rintro e w1 ⟨rfl, hb⟩
  have B1 : Below (w.heap.size + 1) (w.alloc (.cells M.toArray 32)) w1 := by have := hb; rw [World.size_alloc] at this; exact this
  have L1 : w.heap.size + 1 ≤ w1.heap.size := by have := B1.size; simp at this; omega
  have BW : Hid (Below w.heap.size w w1) := BW0.out.trans (B1.mono (by omega))
  have FX : Hid (∀ W, Below w1.heap.size w1 W → TxB W w.heap.size t ∧ Below w.heap.size w W) := fun W B => ⟨TX.out W (B1.trans (B.mono L1)), BW.out.trans (B.mono BW.out.size)⟩
  have X1 := (FX.out _ (Below.refl _ _)).1
  have gch := X1.ch
  have gcr := X1.cr
  have ghs := X1.Hs
  have gu := X1.U
  have gty : w1.cell? ⟨w.heap.size, 0, none⟩ = some (.int .i64 2) := cell_keep (W := w.alloc (.cells M.toArray 32)) (by rw [World.size_alloc]; exact B1) g0
  clear hb B1 L1 X1 g0 r0 sz SG TX BW0
  generalize sgT t 2 = s at *
  cases s with
  | true =>
    have DF2 := DF
    have dn : dfN t = 152 := by rw [DF2.out]; rfl
    go_wp2
    simp [bodyPost, results, Tryd.results29, go_sem, dn]
    exact BW.out
  | false =>
    have DF2 : Hid (dfN t = dfR t 2 (t.Ul.any badU)) := by show _ = _; rw [DF.out]; rfl
    clear DF
    by_cases c : 9223372036854775807 < t.ch
    · have dn : dfN t = 153 := by rw [DF2.out]; exact if_pos c
      go_wp2
      simp [bodyPost, results, Tryd.results29, go_sem, dn]
      exact BW.out
    · have c' : (9223372036854775807 < t.ch) = False := by simp; omega
      have DF4 : Hid (¬ 9223372036854775807 < t.ch) := c
      clear c
      have DF3 : Hid (dfN t = if t.Ul.any badU = true then 141 else 0) := by show _ = _; rw [DF2.out]; rw [dfR, if_neg DF4.out, if_neg (by simp), if_neg (by simp)]
      clear DF2
      go_wp2_with fail
      go_loopg [3] t.Ul.length (fun q i wr => ∃ j : Nat, q = t.Ul.length - j ∧ j ≤ t.Ul.length ∧ i = .int .i64 (j : Int) ∧ (∀ a, a < j → badU (t.Ul.getD a zAun) = false) ∧ Below w1.heap.size w1 wr)
      case atStart => exact ⟨0, rfl, Nat.zero_le _, rfl, fun a ha => absurd ha (Nat.not_lt_zero _), Below.refl _ _⟩
      case round =>
        clear gch gcr ghs gu
        obtain ⟨j, hq, hj2, rfl, hno, hB⟩ := hrel
        have HN3 : Hid (gk = t.Ul.length - j ∧ (∀ a, a < j → badU (t.Ul.getD a zAun) = false)) := ⟨hq, hno⟩
        have HB3 : Hid (Below w1.heap.size w1 wr) := hB
        clear hq hno hB
        have gu := (FX.out _ HB3.out).1.U
        by_cases e : j = t.Ul.length
        · have dn : dfN t = 0 := by rw [DF3.out, any_no zAun fun i hi => HN3.out.2 i (by omega)]; rfl
          subst e
          go_wp2
          simp [bodyPost, results, Tryd.results29, go_sem, dn]
          exact (FX.out _ HB3.out).2
        · have hlt : j < t.Ul.length := by omega
          have hlt' : (j : Int) < (t.Ul.length : Int) := by omega
          have KS := UH.out _ (FX.out _ HB3.out).2
          have ea : t.Ua = some ⟨t.Ub, t.Uo, none⟩ := by
            rcases KS.2.1 with h | h
            · rw [h] at hlt; simp at hlt
            · exact h
          have c1 := aun_pa (KS.2.2 j hlt).1.2.1.1 (KS.2.2 j hlt).2
          rw [ea] at gu
          have BD : Hid (badU (t.Ul.getD j zAun) = decide (255 < (t.Ul.getD j zAun).pa)) := rfl
          have YES : Hid (badU (t.Ul.getD j zAun) = true → dfN t = 141) := fun h => by rw [DF3.out, any_yes (z := zAun) hlt h]; rfl
          clear KS ea UH e
          generalize (t.Ul.getD j zAun).pa = x0 at *
          generalize hbb : badU (t.Ul.getD j zAun) = bb at *
          have HBB : Hid (badU (t.Ul.getD j zAun) = bb) := hbb
          clear hbb
          by_cases cx : 255 < x0
          · have dn : dfN t = 141 := YES.out (by rw [BD.out, decide_eq_true cx])
            go_wp2
            simp [bodyPost, results, Tryd.results29, go_sem, dn]
            exact (FX.out _ HB3.out).2
          · have eb : bb = false := by rw [BD.out, decide_eq_false cx]
            subst eb
            have cx' : (255 < x0) = False := by simp; omega
            clear cx
            go_wp2
            go_roundg (t.Ul.length - (j + 1))
            case measure => have := HN3.out.1; omega
            case rel => exact ⟨j + 1, rfl, hlt, by go_num, fun a ha => by
              by_cases c : a = j
              · subst c; exact HBB.out
              · exact HN3.out.2 a (by omega), HB3.out⟩
set_option maxRecDepth 100000 in
set_option maxHeartbeats 16000000 in
theorem rdraft_3 {t : Txv} (w : World) (hG : TxG w t) (ek : t.ty = (3 : Nat)) (hH : t.Hsl.length < 1000000000) (hU : t.Ul.length < 1000000000) :
    Calls Tryd.prog 29 #[.agg (txC t).toArray] w fun e w' => e = .returned (.int .i64 (dfN t)) ∧ Below w.heap.size w w' := by
  have h20 := hG.to.1
  have sz := size_tx h20
  have TX : Hid (∀ W, Below (w.heap.size + 1) (w.alloc (.cells (txC t).toArray 32)) W → TxB W w.heap.size t) := fun W B => (txb_one (w := w) h20 32).keep (by rw [World.size_alloc]; exact B)
  have UH : Hid (∀ W, Below w.heap.size w W → UsG W t.Ua t.Ub t.Uo t.Uc t.Ul) := fun W B => hG.U.keep B
  have SG : Hid (∀ W, Below w.heap.size w W → Calls Tryd.prog 47 #[.agg (txC t).toArray] W fun e w' => e = .returned (.bool (sgT t 3)) ∧ Below W.heap.size W w') := fun W B => rstrange_any W (hG.keep B) ek (by decide) hH
  have DF : Hid (dfN t = if sgT t 3 = true then 152 else dfR t ((3 : Nat) : Int) (t.Ul.any badU)) := df_kind ek (by decide)
  have g0 := (TX.out _ (Below.refl _ _)).ty
  have r0 := (TX.out _ (Below.refl _ _)).all
  have BW0 : Hid (Below w.heap.size w (w.alloc (.cells (txC t).toArray 32))) := (Below.refl _ _).alloc (Nat.le_refl _) _
  rw [ek] at g0
  clear hG h20 hH ek
  generalize txC t = M at *
  go_enter Tryd.func29, Tryd.ntmps29
  go_wp2_with (refine wpList_load_mid rfl 32 _ rfl w.heap.size 0 rfl M _ r0 Tryd.underlying32 rfl sz ?_)
  refine (SG.out _ BW0.out).mono ?_
  rintro e w1 ⟨rfl, hb⟩
  have B1 : Below (w.heap.size + 1) (w.alloc (.cells M.toArray 32)) w1 := by have := hb; rw [World.size_alloc] at this; exact this
  have L1 : w.heap.size + 1 ≤ w1.heap.size := by have := B1.size; simp at this; omega
  have BW : Hid (Below w.heap.size w w1) := BW0.out.trans (B1.mono (by omega))
  have FX : Hid (∀ W, Below w1.heap.size w1 W → TxB W w.heap.size t ∧ Below w.heap.size w W) := fun W B => ⟨TX.out W (B1.trans (B.mono L1)), BW.out.trans (B.mono BW.out.size)⟩
  have X1 := (FX.out _ (Below.refl _ _)).1
  have gch := X1.ch
  have gcr := X1.cr
  have ghs := X1.Hs
  have gu := X1.U
  have gty : w1.cell? ⟨w.heap.size, 0, none⟩ = some (.int .i64 3) := cell_keep (W := w.alloc (.cells M.toArray 32)) (by rw [World.size_alloc]; exact B1) g0
  clear hb B1 L1 X1 g0 r0 sz SG TX BW0
  generalize sgT t 3 = s at *
  cases s with
  | true =>
    have DF2 := DF
    have dn : dfN t = 152 := by rw [DF2.out]; rfl
    go_wp2
    simp [bodyPost, results, Tryd.results29, go_sem, dn]
    exact BW.out
  | false =>
    have DF2 : Hid (dfN t = dfR t 3 (t.Ul.any badU)) := by show _ = _; rw [DF.out]; rfl
    clear DF
    by_cases c : 9223372036854775807 < t.ch
    · have dn : dfN t = 153 := by rw [DF2.out]; exact if_pos c
      go_wp2
      simp [bodyPost, results, Tryd.results29, go_sem, dn]
      exact BW.out
    · have c' : (9223372036854775807 < t.ch) = False := by simp; omega
      have DF4 : Hid (¬ 9223372036854775807 < t.ch) := c
      clear c
      cases hcr : t.cr with
      | true =>
        rw [hcr] at gcr
        have dn : dfN t = 155 := by rw [DF2.out]; rw [dfR, if_neg DF4.out, if_pos ⟨hcr, by decide⟩]
        go_wp2
        simp [bodyPost, results, Tryd.results29, go_sem, dn]
        exact BW.out
      | false =>
        rw [hcr] at gcr
        by_cases cl : t.Hsl.length = 0
        · have cl' : ((t.Hsl.length : Int) == 0) = true := beq_iff_eq.2 (by omega)
          have dn : dfN t = 156 := by rw [DF2.out]; rw [dfR, if_neg DF4.out, if_neg (by simp [hcr]), if_pos (by exact .inl ⟨rfl, cl⟩)]
          go_wp2
          simp [bodyPost, results, Tryd.results29, go_sem, dn]
          exact BW.out
        · have cl' : ((t.Hsl.length : Int) == 0) = false := beq_eq_false_iff_ne.2 (by omega)
          have DF3 : Hid (dfN t = if t.Ul.any badU = true then 141 else 0) := by show _ = _; rw [DF2.out]; rw [dfR, if_neg DF4.out, if_neg (by simp [hcr]), if_neg (by simp [cl])]
          clear DF2
          clear cl
          go_wp2_with fail
          go_loopg [3] t.Ul.length (fun q i wr => ∃ j : Nat, q = t.Ul.length - j ∧ j ≤ t.Ul.length ∧ i = .int .i64 (j : Int) ∧ (∀ a, a < j → badU (t.Ul.getD a zAun) = false) ∧ Below w1.heap.size w1 wr)
          case atStart => exact ⟨0, rfl, Nat.zero_le _, rfl, fun a ha => absurd ha (Nat.not_lt_zero _), Below.refl _ _⟩
          case round =>
            clear gch gcr ghs gu
            obtain ⟨j, hq, hj2, rfl, hno, hB⟩ := hrel
            have HN3 : Hid (gk = t.Ul.length - j ∧ (∀ a, a < j → badU (t.Ul.getD a zAun) = false)) := ⟨hq, hno⟩
            have HB3 : Hid (Below w1.heap.size w1 wr) := hB
            clear hq hno hB
            have gu := (FX.out _ HB3.out).1.U
            by_cases e : j = t.Ul.length
            · have dn : dfN t = 0 := by rw [DF3.out, any_no zAun fun i hi => HN3.out.2 i (by omega)]; rfl
              subst e
              go_wp2
              simp [bodyPost, results, Tryd.results29, go_sem, dn]
              exact (FX.out _ HB3.out).2
            · have hlt : j < t.Ul.length := by omega
              have hlt' : (j : Int) < (t.Ul.length : Int) := by omega
              have KS := UH.out _ (FX.out _ HB3.out).2
              have ea : t.Ua = some ⟨t.Ub, t.Uo, none⟩ := by
                rcases KS.2.1 with h | h
                · rw [h] at hlt; simp at hlt
                · exact h
              have c1 := aun_pa (KS.2.2 j hlt).1.2.1.1 (KS.2.2 j hlt).2
              rw [ea] at gu
              have BD : Hid (badU (t.Ul.getD j zAun) = decide (255 < (t.Ul.getD j zAun).pa)) := rfl
              have YES : Hid (badU (t.Ul.getD j zAun) = true → dfN t = 141) := fun h => by rw [DF3.out, any_yes (z := zAun) hlt h]; rfl
              clear KS ea UH e
              generalize (t.Ul.getD j zAun).pa = x0 at *
              generalize hbb : badU (t.Ul.getD j zAun) = bb at *
              have HBB : Hid (badU (t.Ul.getD j zAun) = bb) := hbb
              clear hbb
              by_cases cx : 255 < x0
              · have dn : dfN t = 141 := YES.out (by rw [BD.out, decide_eq_true cx])
                go_wp2
                simp [bodyPost, results, Tryd.results29, go_sem, dn]
                exact (FX.out _ HB3.out).2
              · have eb : bb = false := by rw [BD.out, decide_eq_false cx]
                subst eb
                have cx' : (255 < x0) = False := by simp; omega
                clear cx
                go_wp2
                go_roundg (t.Ul.length - (j + 1))
                case measure => have := HN3.out.1; omega
                case rel => exact ⟨j + 1, rfl, hlt, by go_num, fun a ha => by
                  by_cases c : a = j
                  · subst c; exact HBB.out
                  · exact HN3.out.2 a (by omega), HB3.out⟩
set_option maxRecDepth 100000 in
set_option maxHeartbeats 16000000 in
theorem rdraft_4 {t : Txv} (w : World) (hG : TxG w t) (ek : t.ty = (4 : Nat)) (hH : t.Hsl.length < 1000000000) (hU : t.Ul.length < 1000000000) :
    Calls Tryd.prog 29 #[.agg (txC t).toArray] w fun e w' => e = .returned (.int .i64 (dfN t)) ∧ Below w.heap.size w w' := by
  have h20 := hG.to.1
  have sz := size_tx h20
  have TX : Hid (∀ W, Below (w.heap.size + 1) (w.alloc (.cells (txC t).toArray 32)) W → TxB W w.heap.size t) := fun W B => (txb_one (w := w) h20 32).keep (by rw [World.size_alloc]; exact B)
  have UH : Hid (∀ W, Below w.heap.size w W → UsG W t.Ua t.Ub t.Uo t.Uc t.Ul) := fun W B => hG.U.keep B
  have SG : Hid (∀ W, Below w.heap.size w W → Calls Tryd.prog 47 #[.agg (txC t).toArray] W fun e w' => e = .returned (.bool (sgT t 4)) ∧ Below W.heap.size W w') := fun W B => rstrange_any W (hG.keep B) ek (by decide) hH
  have DF : Hid (dfN t = if sgT t 4 = true then 152 else dfR t ((4 : Nat) : Int) (t.Ul.any badU)) := df_kind ek (by decide)
  have g0 := (TX.out _ (Below.refl _ _)).ty
  have r0 := (TX.out _ (Below.refl _ _)).all
  have BW0 : Hid (Below w.heap.size w (w.alloc (.cells (txC t).toArray 32))) := (Below.refl _ _).alloc (Nat.le_refl _) _
  rw [ek] at g0
  clear hG h20 hH ek
  generalize txC t = M at *
  go_enter Tryd.func29, Tryd.ntmps29
  go_wp2_with (refine wpList_load_mid rfl 32 _ rfl w.heap.size 0 rfl M _ r0 Tryd.underlying32 rfl sz ?_)
  refine (SG.out _ BW0.out).mono ?_
  rintro e w1 ⟨rfl, hb⟩
  have B1 : Below (w.heap.size + 1) (w.alloc (.cells M.toArray 32)) w1 := by have := hb; rw [World.size_alloc] at this; exact this
  have L1 : w.heap.size + 1 ≤ w1.heap.size := by have := B1.size; simp at this; omega
  have BW : Hid (Below w.heap.size w w1) := BW0.out.trans (B1.mono (by omega))
  have FX : Hid (∀ W, Below w1.heap.size w1 W → TxB W w.heap.size t ∧ Below w.heap.size w W) := fun W B => ⟨TX.out W (B1.trans (B.mono L1)), BW.out.trans (B.mono BW.out.size)⟩
  have X1 := (FX.out _ (Below.refl _ _)).1
  have gch := X1.ch
  have gcr := X1.cr
  have ghs := X1.Hs
  have gu := X1.U
  have gty : w1.cell? ⟨w.heap.size, 0, none⟩ = some (.int .i64 4) := cell_keep (W := w.alloc (.cells M.toArray 32)) (by rw [World.size_alloc]; exact B1) g0
  clear hb B1 L1 X1 g0 r0 sz SG TX BW0
  generalize sgT t 4 = s at *
  cases s with
  | true =>
    have DF2 := DF
    have dn : dfN t = 152 := by rw [DF2.out]; rfl
    go_wp2
    simp [bodyPost, results, Tryd.results29, go_sem, dn]
    exact BW.out
  | false =>
    have DF2 : Hid (dfN t = dfR t 4 (t.Ul.any badU)) := by show _ = _; rw [DF.out]; rfl
    clear DF
    by_cases c : 9223372036854775807 < t.ch
    · have dn : dfN t = 153 := by rw [DF2.out]; exact if_pos c
      go_wp2
      simp [bodyPost, results, Tryd.results29, go_sem, dn]
      exact BW.out
    · have c' : (9223372036854775807 < t.ch) = False := by simp; omega
      have DF4 : Hid (¬ 9223372036854775807 < t.ch) := c
      clear c
      cases hcr : t.cr with
      | true =>
        rw [hcr] at gcr
        have dn : dfN t = 155 := by rw [DF2.out]; rw [dfR, if_neg DF4.out, if_pos ⟨hcr, by decide⟩]
        go_wp2
        simp [bodyPost, results, Tryd.results29, go_sem, dn]
        exact BW.out
      | false =>
        rw [hcr] at gcr
        by_cases cl : t.Ul.length = 0
        · have cl' : ((t.Ul.length : Int) == 0) = true := beq_iff_eq.2 (by omega)
          have dn : dfN t = 156 := by rw [DF2.out]; rw [dfR, if_neg DF4.out, if_neg (by simp [hcr]), if_pos (by exact .inr ⟨rfl, cl⟩)]
          go_wp2
          simp [bodyPost, results, Tryd.results29, go_sem, dn]
          exact BW.out
        · have cl' : ((t.Ul.length : Int) == 0) = false := beq_eq_false_iff_ne.2 (by omega)
          have DF3 : Hid (dfN t = if t.Ul.any badU = true then 141 else 0) := by show _ = _; rw [DF2.out]; rw [dfR, if_neg DF4.out, if_neg (by simp [hcr]), if_neg (by simp [cl])]
          clear DF2
          clear cl
          go_wp2_with fail
          go_loopg [3] t.Ul.length (fun q i wr => ∃ j : Nat, q = t.Ul.length - j ∧ j ≤ t.Ul.length ∧ i = .int .i64 (j : Int) ∧ (∀ a, a < j → badU (t.Ul.getD a zAun) = false) ∧ Below w1.heap.size w1 wr)
          case atStart => exact ⟨0, rfl, Nat.zero_le _, rfl, fun a ha => absurd ha (Nat.not_lt_zero _), Below.refl _ _⟩
          case round =>
            clear gch gcr ghs gu
            obtain ⟨j, hq, hj2, rfl, hno, hB⟩ := hrel
            have HN3 : Hid (gk = t.Ul.length - j ∧ (∀ a, a < j → badU (t.Ul.getD a zAun) = false)) := ⟨hq, hno⟩
            have HB3 : Hid (Below w1.heap.size w1 wr) := hB
            clear hq hno hB
            have gu := (FX.out _ HB3.out).1.U
            by_cases e : j = t.Ul.length
            · have dn : dfN t = 0 := by rw [DF3.out, any_no zAun fun i hi => HN3.out.2 i (by omega)]; rfl
              subst e
              go_wp2
              simp [bodyPost, results, Tryd.results29, go_sem, dn]
              exact (FX.out _ HB3.out).2
            · have hlt : j < t.Ul.length := by omega
              have hlt' : (j : Int) < (t.Ul.length : Int) := by omega
              have KS := UH.out _ (FX.out _ HB3.out).2
              have ea : t.Ua = some ⟨t.Ub, t.Uo, none⟩ := by
                rcases KS.2.1 with h | h
                · rw [h] at hlt; simp at hlt
                · exact h
              have c1 := aun_pa (KS.2.2 j hlt).1.2.1.1 (KS.2.2 j hlt).2
              rw [ea] at gu
              have BD : Hid (badU (t.Ul.getD j zAun) = decide (255 < (t.Ul.getD j zAun).pa)) := rfl
              have YES : Hid (badU (t.Ul.getD j zAun) = true → dfN t = 141) := fun h => by rw [DF3.out, any_yes (z := zAun) hlt h]; rfl
              clear KS ea UH e
              generalize (t.Ul.getD j zAun).pa = x0 at *
              generalize hbb : badU (t.Ul.getD j zAun) = bb at *
              have HBB : Hid (badU (t.Ul.getD j zAun) = bb) := hbb
              clear hbb
              by_cases cx : 255 < x0
              · have dn : dfN t = 141 := YES.out (by rw [BD.out, decide_eq_true cx])
                go_wp2
                simp [bodyPost, results, Tryd.results29, go_sem, dn]
                exact (FX.out _ HB3.out).2
              · have eb : bb = false := by rw [BD.out, decide_eq_false cx]
                subst eb
                have cx' : (255 < x0) = False := by simp; omega
                clear cx
                go_wp2
                go_roundg (t.Ul.length - (j + 1))
                case measure => have := HN3.out.1; omega
                case rel => exact ⟨j + 1, rfl, hlt, by go_num, fun a ha => by
                  by_cases c : a = j
                  · subst c; exact HBB.out
                  · exact HN3.out.2 a (by omega), HB3.out⟩
theorem rdraft_any {t : Txv} (w : World) (hG : TxG w t) (hH : t.Hsl.length < 1000000000) (hU : t.Ul.length < 1000000000) :
    Calls Tryd.prog 29 #[.agg (txC t).toArray] w fun e w' => e = .returned (.int .i64 (dfN t)) ∧ Below w.heap.size w w' := by
  by_cases h : t.ty < 0 ∨ 5 ≤ t.ty
  · rw [df_other h]
    exact rdraft_other hG.to.1 h w
  · have h1 : t.ty = (0 : Nat) ∨ t.ty = (1 : Nat) ∨ t.ty = (2 : Nat) ∨ t.ty = (3 : Nat) ∨ t.ty = (4 : Nat) := by omega
    rcases h1 with e | e | e | e | e
    · exact rdraft_0 w hG e hH hU
    · exact rdraft_1 w hG e hH hU
    · exact rdraft_2 w hG e hH hU
    · exact rdraft_3 w hG e hH hU
    · exact rdraft_4 w hG e hH hU
end Go.Proofs.YtllfmlgnemkklaaDoor

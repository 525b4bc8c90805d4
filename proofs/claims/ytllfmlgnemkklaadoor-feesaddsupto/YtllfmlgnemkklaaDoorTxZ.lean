import Derived.Test.YtllfmlgnemkklaaDoorTxY
import Derived.Test.YtllfmlgnemkklaaDoorAdLast
/- Layer 15: Draft of the program. -/
namespace Go.Proofs.YtllfmlgnemkklaaDoor
open Go.RowKit Go.Sort
open tq
/-- What Draft answers. -/
def dfN (t : Txv) : Int :=
  if t.ty < 0 ∨ 5 ≤ t.ty then 150
  else if straysT t t.ty.toNat = true ∨ (t.cr = true ∧ t.to ≠ List.replicate 20 0) ∨ ¬ (t.Hsl.length ≤ 4096 ∧ t.Hsl.any badB = false) then 152
  else if 9223372036854775807 < t.ch then 153
  else if t.cr = true ∧ (t.ty = 3 ∨ t.ty = 4) then 155
  else if (t.ty = 3 ∧ t.Hsl.length = 0) ∨ (t.ty = 4 ∧ t.Ul.length = 0) then 156
  else if t.Ul.any badU = true then 141 else 0
set_option maxRecDepth 100000 in
set_option maxHeartbeats 4000000 in
theorem draft_type {t : Txv} (h20 : t.to.length = 20) (h : t.ty < 0 ∨ 5 ≤ t.ty) (w : World) :
    Calls Tryd.prog 6 #[.agg (txC t).toArray] w fun e w' => e = .returned (.int .i64 150) ∧ Below w.heap.size w w' := by
  have g := (txb_one (w := w) h20 32).ty
  generalize txC t = M at *
  generalize t.ty = x at *
  clear h20
  rcases h with h | h
  · go_enter Tryd.func6, Tryd.ntmps6
    go_wp2
    simp [bodyPost, results, Tryd.results6, go_sem]
    repeat (first | with_reducible exact Below.refl _ _ | with_reducible refine Below.drew ?_ | with_reducible refine Below.alloc ?_ (by first | omega | (simp; done) | (simp; omega)) _)
  · have h2 : ¬ x < 0 := by omega
    go_enter Tryd.func6, Tryd.ntmps6
    go_wp2
    simp [bodyPost, results, Tryd.results6, go_sem]
    repeat (first | with_reducible exact Below.refl _ _ | with_reducible refine Below.drew ?_ | with_reducible refine Below.alloc ?_ (by first | omega | (simp; done) | (simp; omega)) _)
/-- The whole way, each answer by its contract. -/
theorem build_adr (w : World) : (Instr.build 26 #[]).run Tryd.prog w = .ok (.agg #[.int .u8 0, .int .u8 0, .int .u8 0, .int .u8 0, .int .u8 0, .int .u8 0, .int .u8 0, .int .u8 0, .int .u8 0, .int .u8 0, .int .u8 0, .int .u8 0, .int .u8 0, .int .u8 0, .int .u8 0, .int .u8 0, .int .u8 0, .int .u8 0, .int .u8 0, .int .u8 0]) w := run_build w 26 _ _ (by kernel_rfl)
theorem tq.TxB.toRZ {W : World} {b : Nat} {t : Txv} (h : TxB W b t) : W.rangeAt b 17 (hC t.to) := fun j v hv => by
  have hj : j < 20 := by have := (List.getElem?_eq_some_iff.1 hv).1; rw [hC, List.length_map, h.len] at this; exact this
  have e : (txC t)[17 + j]? = some v := by
    unfold txC
    have e : ∀ (p r : List Value), p.length = 17 → (p ++ (hC t.to ++ r))[17 + j]? = some v := fun p r hp => by
      rw [List.getElem?_append_right (by omega), hp, show 17 + j - 17 = j by omega, List.getElem?_append_left (by rw [hC, List.length_map, h.len]; exact hj)]
      exact hv
    simpa only [List.append_assoc, List.cons_append, List.nil_append] using e [.int .i64 t.ty, .int .u64 t.ch, .int .u64 t.no, .int .u64 (l0 t.pr), .int .u64 (l1 t.pr), .int .u64 (l2 t.pr), .int .u64 (l3 t.pr), .int .u64 (l0 t.ti), .int .u64 (l1 t.ti), .int .u64 (l2 t.ti), .int .u64 (l3 t.ti), .int .u64 (l0 t.ca), .int .u64 (l1 t.ca), .int .u64 (l2 t.ca), .int .u64 (l3 t.ca), .int .u64 t.gas, .bool t.cr] _ rfl
  simpa using h.all (17 + j) v e
theorem eq_toT {A : List Int} (h : A.length = 20) (w : World) : (Op.equalIn 10000 26 (.agg (hC A).toArray) (.agg #[.int .u8 0, .int .u8 0, .int .u8 0, .int .u8 0, .int .u8 0, .int .u8 0, .int .u8 0, .int .u8 0, .int .u8 0, .int .u8 0, .int .u8 0, .int .u8 0, .int .u8 0, .int .u8 0, .int .u8 0, .int .u8 0, .int .u8 0, .int .u8 0, .int .u8 0, .int .u8 0])).run Tryd.prog w = .ok (decide (A = List.replicate 20 0)) w := eq_adrJ (Y := List.replicate 20 0) h (by simp) w
/-- The rest of the answers. -/
def dfR (t : Txv) (K : Int) (y : Bool) : Int := if 9223372036854775807 < t.ch then 153 else if t.cr = true ∧ (K = 3 ∨ K = 4) then 155 else if (K = 3 ∧ t.Hsl.length = 0) ∨ (K = 4 ∧ t.Ul.length = 0) then 156 else if y = true then 141 else 0
set_option maxRecDepth 100000 in
set_option maxHeartbeats 16000000 in
theorem draft_rest {W0 : World} {t : Txv} {K : Int} {s z y : Bool} {r : Int} (hG : TxG W0 t) (ek : t.ty = K) (k0 : ¬ K < 0) (k5 : ¬ 5 ≤ K)
    (HS : Hid (∀ W, Rws W → Calls Tryd.prog 22 #[.agg (txC t).toArray] W fun e w' => e = .returned (.bool s) ∧ Below W.heap.size W w')) (w : World) (hR : Rws w)
    (AB : Hid (∀ W, Below w.heap.size w W → Calls Tryd.prog 23 #[.slice t.Hsa t.Hsl.length t.Hsc] W fun e w' => e = .returned (.bool z) ∧ Below W.heap.size W w'))
    (CF : Hid (∀ W, Below w.heap.size w W → Calls Tryd.prog 24 #[.slice t.Ua t.Ul.length t.Uc, .func (.func 25) #[] #[]] W fun e w' => e = .returned (.bool y) ∧ Below W.heap.size W w'))
    (hr : r = if s = true ∨ (t.cr = true ∧ t.to ≠ List.replicate 20 0) ∨ z = false then 152 else dfR t K y) :
    Calls Tryd.prog 6 #[.agg (txC t).toArray] w fun e w' => e = .returned (.int .i64 r) ∧ Below w.heap.size w w' := by
  have h20 := hG.to.1
  have sz := size_tx h20
  have TB : Hid (∀ ty W, Below (w.heap.size + 1) (w.alloc (.cells (txC t).toArray ty)) W → TxB W w.heap.size t) := fun ty W B => (txb_one (w := w) h20 ty).keep (by rw [World.size_alloc]; exact B)
  have g := (txb_one (w := w) h20 32).ty
  have rB := (txb_one (w := w) h20 32).all
  rw [ek] at g
  have RR := hR.keep ((Below.refl _ _).alloc (Nat.le_refl _) (.cells (txC t).toArray 32))
  have HRr : Hid (r = if s = true ∨ (t.cr = true ∧ t.to ≠ List.replicate 20 0) ∨ z = false then 152 else dfR t K y) := hr
  have HEK : Hid (t.ty = K) := ek
  clear hr hG hR ek
  generalize txC t = M at *
  go_enter Tryd.func6, Tryd.ntmps6
  go_wp2_with (refine wpList_load_mid rfl 32 _ rfl w.heap.size 0 rfl M _ rB Tryd.underlying32 rfl sz ?_)
  refine (HS.out _ RR).mono ?_
  rintro e w1 ⟨rfl, hb⟩
  have B1 : Below (w.heap.size + 1) (w.alloc (.cells M.toArray 32)) w1 := by have := hb; rw [World.size_alloc] at this; exact this
  have X1 : Hid (TxB w1 w.heap.size t) := TB.out _ _ B1
  have BW : Hid (Below w.heap.size w w1) := ((Below.refl _ _).alloc (Nat.le_refl _) _).trans (B1.mono (by omega))
  clear hb B1 g rB sz RR HS TB
  cases s with
  | true =>
    have er : r = 152 := by rw [HRr.out, if_pos (.inl rfl)]
    subst er
    go_wp2
    simp [bodyPost, results, Tryd.results6, go_sem]
    exact BW.out
  | false =>
    have cr := X1.out.cr
    have hs := X1.out.Hs
    have rT := X1.out.toRZ
    have szA : (Tryd.prog.info? 26).map (·.size) = some (hC t.to).length := by rw [hC, List.length_map, h20]; kernel_rfl
    have hzA := build_adr
    have he := eq_toT h20
    generalize hto : decide (t.to = List.replicate 20 0) = tz at he
    have HTO : Hid (decide (t.to = List.replicate 20 0) = tz) := hto
    clear hto
    generalize hcr : t.cr = cb at cr
    have HCR : Hid (t.cr = cb) := hcr
    clear hcr
    generalize hC t.to = A8 at *
    cases cb with
    | false =>
      go_wp2_with fail
      refine (AB.out _ BW.out).mono ?_
      rintro e w2 ⟨rfl, hb2⟩
      have X2 : Hid (TxB w2 w.heap.size t) := X1.out.keep hb2
      have BW2 : Hid (Below w.heap.size w w2) := BW.out.trans (hb2.mono (Nat.le_of_lt X1.out.lt))
      clear hb2 cr hs rT szA hzA he AB BW X1
      have ch := X2.out.ch
      have ty := X2.out.ty
      rw [HEK.out] at ty
      have hs := X2.out.Hs
      have us := X2.out.U
      have cr := X2.out.cr
      rw [HCR.out] at cr
      cases z with
      | false =>
        have er : r = 152 := by rw [HRr.out, if_pos (.inr (.inr rfl))]
        subst er
        go_wp2
        simp [bodyPost, results, Tryd.results6, go_sem]
        exact BW2.out
      | true =>
        have H2 : Hid (r = dfR t K y) := by
          refine HRr.out.trans (if_neg ?_)
          rintro (h | ⟨h, h2⟩ | h)
          · cases h
          · rw [HCR.out] at h; cases h
          · cases h
        clear HRr
        by_cases c : 9223372036854775807 < t.ch
        · have er : r = 153 := by rw [H2.out, dfR, if_pos c]
          subst er
          generalize t.ch = chv at *
          go_wp2
          simp [bodyPost, results, Tryd.results6, go_sem]
          exact BW2.out
        · have H3 : Hid (t.ch ≤ 9223372036854775807) := by exact Int.not_lt.1 c
          generalize hcv : t.ch = chv at ch c
          clear hcv
          generalize hn : t.Hsl.length = nH at hs
          have HNH : Hid (t.Hsl.length = nH) := hn
          clear hn
          rcases (show K = 3 ∨ K = 4 ∨ (¬ K = 3 ∧ ¬ K = 4) by omega) with rfl | rfl | ⟨n3, n4⟩
          · by_cases z0 : nH = 0
            · have er : r = 156 := by rw [H2.out, dfR, if_neg (Int.not_lt.2 H3.out), if_neg (by rw [HCR.out]; exact fun h => Bool.noConfusion h.1), if_pos (.inl ⟨rfl, HNH.out.trans z0⟩)]
              subst er
              subst z0
              go_wp2
              simp [bodyPost, results, Tryd.results6, go_sem]
              exact BW2.out
            · have z1 : ¬ (nH : Int) = 0 := by omega
              have HZ : Hid (¬ nH = 0) := z0
              go_wp2_with fail
              refine (CF.out _ BW2.out).mono ?_
              rintro e w3 ⟨rfl, hb3⟩
              have B3 : Hid (Below w.heap.size w w3) := BW2.out.trans (hb3.mono (Nat.le_of_lt X2.out.lt))
              clear hb3 CF
              cases y with
              | true =>
                have er : r = 141 := by rw [H2.out, dfR, if_neg (Int.not_lt.2 H3.out), if_neg (by rw [HCR.out]; exact fun h => Bool.noConfusion h.1), if_neg (by exact fun h => h.elim (fun h => HZ.out (HNH.out.symm.trans h.2)) (fun h => absurd h.1 (by decide)))]; rfl
                subst er
                go_wp2
                simp [bodyPost, results, Tryd.results6, go_sem]
                exact B3.out
              | false =>
                have er : r = 0 := by rw [H2.out, dfR, if_neg (Int.not_lt.2 H3.out), if_neg (by rw [HCR.out]; exact fun h => Bool.noConfusion h.1), if_neg (by exact fun h => h.elim (fun h => HZ.out (HNH.out.symm.trans h.2)) (fun h => absurd h.1 (by decide)))]; rfl
                subst er
                go_wp2
                simp [bodyPost, results, Tryd.results6, go_sem]
                exact B3.out
          · generalize hu : t.Ul.length = nU at us
            have HNU : Hid (t.Ul.length = nU) := hu
            rw [hu] at CF
            clear hu
            by_cases z0 : nU = 0
            · have er : r = 156 := by rw [H2.out, dfR, if_neg (Int.not_lt.2 H3.out), if_neg (by rw [HCR.out]; exact fun h => Bool.noConfusion h.1), if_pos (.inr ⟨rfl, HNU.out.trans z0⟩)]
              subst er
              subst z0
              go_wp2
              simp [bodyPost, results, Tryd.results6, go_sem]
              exact BW2.out
            · have z1 : ¬ (nU : Int) = 0 := by omega
              have HZ : Hid (¬ nU = 0) := z0
              go_wp2_with fail
              refine (CF.out _ BW2.out).mono ?_
              rintro e w3 ⟨rfl, hb3⟩
              have B3 : Hid (Below w.heap.size w w3) := BW2.out.trans (hb3.mono (Nat.le_of_lt X2.out.lt))
              clear hb3 CF
              cases y with
              | true =>
                have er : r = 141 := by rw [H2.out, dfR, if_neg (Int.not_lt.2 H3.out), if_neg (by rw [HCR.out]; exact fun h => Bool.noConfusion h.1), if_neg (by exact fun h => h.elim (fun h => absurd h.1 (by decide)) (fun h => HZ.out (HNU.out.symm.trans h.2)))]; rfl
                subst er
                go_wp2
                simp [bodyPost, results, Tryd.results6, go_sem]
                exact B3.out
              | false =>
                have er : r = 0 := by rw [H2.out, dfR, if_neg (Int.not_lt.2 H3.out), if_neg (by rw [HCR.out]; exact fun h => Bool.noConfusion h.1), if_neg (by exact fun h => h.elim (fun h => absurd h.1 (by decide)) (fun h => HZ.out (HNU.out.symm.trans h.2)))]; rfl
                subst er
                go_wp2
                simp [bodyPost, results, Tryd.results6, go_sem]
                exact B3.out
          · have HNN : Hid (¬ K = 3 ∧ ¬ K = 4) := ⟨n3, n4⟩
            go_wp2_with fail
            refine (CF.out _ BW2.out).mono ?_
            rintro e w3 ⟨rfl, hb3⟩
            have B3 : Hid (Below w.heap.size w w3) := BW2.out.trans (hb3.mono (Nat.le_of_lt X2.out.lt))
            clear hb3 CF
            cases y with
            | true =>
              have er : r = 141 := by rw [H2.out, dfR, if_neg (Int.not_lt.2 H3.out), if_neg (by rw [HCR.out]; exact fun h => Bool.noConfusion h.1), if_neg (by exact fun h => h.elim (fun h => HNN.out.1 h.1) (fun h => HNN.out.2 h.1))]; rfl
              subst er
              go_wp2
              simp [bodyPost, results, Tryd.results6, go_sem]
              exact B3.out
            | false =>
              have er : r = 0 := by rw [H2.out, dfR, if_neg (Int.not_lt.2 H3.out), if_neg (by rw [HCR.out]; exact fun h => Bool.noConfusion h.1), if_neg (by exact fun h => h.elim (fun h => HNN.out.1 h.1) (fun h => HNN.out.2 h.1))]; rfl
              subst er
              go_wp2
              simp [bodyPost, results, Tryd.results6, go_sem]
              exact B3.out
    | true =>
      cases tz with
      | false =>
        have er : r = 152 := by rw [HRr.out, if_pos (.inr (.inl ⟨HCR.out, of_decide_eq_false HTO.out⟩))]
        subst er
        go_wp2_with (refine wpList_load_midG (by kernel_rfl) 26 _ rfl w.heap.size 17 rfl A8 _ rT Tryd.underlying26 rfl szA ?_)
        simp [bodyPost, results, Tryd.results6, go_sem]
        exact BW.out
      | true =>
        go_wp2_with (refine wpList_load_midG (by kernel_rfl) 26 _ rfl w.heap.size 17 rfl A8 _ rT Tryd.underlying26 rfl szA ?_)
        refine (AB.out _ BW.out).mono ?_
        rintro e w2 ⟨rfl, hb2⟩
        have X2 : Hid (TxB w2 w.heap.size t) := X1.out.keep hb2
        have BW2 : Hid (Below w.heap.size w w2) := BW.out.trans (hb2.mono (Nat.le_of_lt X1.out.lt))
        clear hb2 cr hs rT szA hzA he AB BW X1
        have ch := X2.out.ch
        have ty := X2.out.ty
        rw [HEK.out] at ty
        have hs := X2.out.Hs
        have us := X2.out.U
        have cr := X2.out.cr
        rw [HCR.out] at cr
        cases z with
        | false =>
          have er : r = 152 := by rw [HRr.out, if_pos (.inr (.inr rfl))]
          subst er
          go_wp2
          simp [bodyPost, results, Tryd.results6, go_sem]
          exact BW2.out
        | true =>
          have H2 : Hid (r = dfR t K y) := by
            refine HRr.out.trans (if_neg ?_)
            rintro (h | ⟨h, h2⟩ | h)
            · cases h
            · exact h2 (of_decide_eq_true HTO.out)
            · cases h
          clear HRr
          by_cases c : 9223372036854775807 < t.ch
          · have er : r = 153 := by rw [H2.out, dfR, if_pos c]
            subst er
            generalize t.ch = chv at *
            go_wp2
            simp [bodyPost, results, Tryd.results6, go_sem]
            exact BW2.out
          · have H3 : Hid (t.ch ≤ 9223372036854775807) := by exact Int.not_lt.1 c
            generalize hcv : t.ch = chv at ch c
            clear hcv
            generalize hn : t.Hsl.length = nH at hs
            have HNH : Hid (t.Hsl.length = nH) := hn
            clear hn
            rcases (show K = 3 ∨ K = 4 ∨ (¬ K = 3 ∧ ¬ K = 4) by omega) with rfl | rfl | ⟨n3, n4⟩
            · have er : r = 155 := by rw [H2.out, dfR, if_neg (Int.not_lt.2 H3.out), if_pos ⟨HCR.out, (.inl rfl)⟩]
              subst er
              go_wp2
              simp [bodyPost, results, Tryd.results6, go_sem]
              exact BW2.out
            · have er : r = 155 := by rw [H2.out, dfR, if_neg (Int.not_lt.2 H3.out), if_pos ⟨HCR.out, (.inr rfl)⟩]
              subst er
              go_wp2
              simp [bodyPost, results, Tryd.results6, go_sem]
              exact BW2.out
            · have HNN : Hid (¬ K = 3 ∧ ¬ K = 4) := ⟨n3, n4⟩
              have e3 : (K == 3) = false := by simpa using n3
              have e4 : (K == 4) = false := by simpa using n4
              go_wp2_with fail
              refine (CF.out _ BW2.out).mono ?_
              rintro e w3 ⟨rfl, hb3⟩
              have B3 : Hid (Below w.heap.size w w3) := BW2.out.trans (hb3.mono (Nat.le_of_lt X2.out.lt))
              clear hb3 CF
              cases y with
              | true =>
                have er : r = 141 := by rw [H2.out, dfR, if_neg (Int.not_lt.2 H3.out), if_neg (by rw [HCR.out]; exact fun h => h.2.elim HNN.out.1 HNN.out.2), if_neg (by exact fun h => h.elim (fun h => HNN.out.1 h.1) (fun h => HNN.out.2 h.1))]; rfl
                subst er
                go_wp2
                simp [bodyPost, results, Tryd.results6, go_sem]
                exact B3.out
              | false =>
                have er : r = 0 := by rw [H2.out, dfR, if_neg (Int.not_lt.2 H3.out), if_neg (by rw [HCR.out]; exact fun h => h.2.elim HNN.out.1 HNN.out.2), if_neg (by exact fun h => h.elim (fun h => HNN.out.1 h.1) (fun h => HNN.out.2 h.1))]; rfl
                subst er
                go_wp2
                simp [bodyPost, results, Tryd.results6, go_sem]
                exact B3.out
end Go.Proofs.YtllfmlgnemkklaaDoor

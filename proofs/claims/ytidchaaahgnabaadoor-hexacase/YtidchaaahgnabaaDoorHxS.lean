import Derived.Test.YtidchaaahgnabaaDoorHxQ
/- Layer 8: the law HexaCase. -/
namespace Go.Proofs.YtidchaaahgnabaaDoor
open Go.RowKit Go.Sort
theorem paX_right {A : List Int} (hA : A.length = 20) (hb : ∀ i, 0 ≤ A.getD i 0 ∧ A.getD i 0 < 256) : paX ⟨(ckS A).toArray⟩ = A ∧ paE ⟨(ckS A).toArray⟩ = 0 := by
  obtain ⟨h1, h2, h3⟩ := (ckS_rds hA hb).ok hA hb
  have e : (⟨(ckS A).toArray⟩ : ByteArray) = ⟨(ckS (pk (tl ⟨(ckS A).toArray⟩) 20)).toArray⟩ := by rw [h3]
  refine ⟨?_, ?_⟩
  · unfold paX; rw [if_pos ⟨h1, h2, .inr e⟩, h3]
  · unfold paE; rw [if_pos ⟨h1, h2⟩, if_pos (.inr e)]
theorem paX_low {A : List Int} (hA : A.length = 20) (hb : ∀ i, 0 ≤ A.getD i 0 ∧ A.getD i 0 < 256) {T : List UInt8} (h : Rds T A) : paX ⟨(lowT T).toArray⟩ = A ∧ paE ⟨(lowT T).toArray⟩ = 0 := by
  obtain ⟨h1, h2, h3⟩ := (h.low hb).ok hA hb
  have c : (smA (tl ⟨(lowT T).toArray⟩) 40 && caA (tl ⟨(lowT T).toArray⟩) 40) = false := by rw [lowT_no h.1 40 (Nat.le_refl _), Bool.and_false]
  refine ⟨?_, ?_⟩
  · unfold paX; rw [if_pos ⟨h1, h2, .inl c⟩, h3]
  · unfold paE; rw [if_pos ⟨h1, h2⟩, if_pos (.inl c)]
theorem paX_any {A : List Int} (hA : A.length = 20) (hb : ∀ i, 0 ≤ A.getD i 0 ∧ A.getD i 0 < 256) {T : List UInt8} (h : Rds T A) (hn : T ≠ ckS A) :
    paX ⟨T.toArray⟩ = (if cS T 40 = 0 ∨ cG T 40 = 0 then A else List.replicate 20 0) ∧ paE ⟨T.toArray⟩ = (if cS T 40 = 0 ∨ cG T 40 = 0 then 0 else 84) := by
  obtain ⟨h1, h2, h3⟩ := h.ok hA hb
  have d : ∀ j, j < 40 → 0 ≤ dv (tb T (2 + j)) := fun j hj => h.digit hb hj
  have s1 := smA_count d 40 (Nat.le_refl _)
  have s2 := caA_count d 40 (Nat.le_refl _)
  have ne : ¬ ((⟨T.toArray⟩ : ByteArray) = ⟨(ckS (pk (tl ⟨T.toArray⟩) 20)).toArray⟩) := fun e => by
    rw [h3] at e
    injection e with e
    exact hn (by injection e)
  by_cases k : cS T 40 = 0 ∨ cG T 40 = 0
  · have c : (smA (tl ⟨T.toArray⟩) 40 && caA (tl ⟨T.toArray⟩) 40) = false := by
      rw [s1, s2]
      rcases k with k | k <;> simp [k]
    rw [if_pos k, if_pos k]
    refine ⟨?_, ?_⟩
    · unfold paX; rw [if_pos ⟨h1, h2, .inl c⟩, h3]
    · unfold paE; rw [if_pos ⟨h1, h2⟩, if_pos (.inl c)]
  · have c : ¬ (smA (tl ⟨T.toArray⟩) 40 && caA (tl ⟨T.toArray⟩) 40) = false := by
      rw [s1, s2]
      have k1 : ¬ cS T 40 = 0 := fun x => k (.inl x)
      have k2 : ¬ cG T 40 = 0 := fun x => k (.inr x)
      simp [k1, k2]
    rw [if_neg k, if_neg k]
    refine ⟨?_, ?_⟩
    · unfold paX; rw [if_neg (fun x => x.2.2.elim c ne)]
    · unfold paE; rw [if_pos ⟨h1, h2⟩, if_neg (fun x => x.elim c ne)]
theorem rangeBoxH {W : World} {M : List Value} {t : TypeId} : (W.alloc (.cells M.toArray t)).rangeAt W.heap.size 0 M := fun j v hv => by
  rw [Nat.zero_add, World.cell?_alloc_mark]
  simpa using hv
theorem range_keepH {W W' : World} {b : Nat} {M : List Value} (h : W.rangeAt b 0 M) (hb : Below W.heap.size W W') : W'.rangeAt b 0 M := fun j v hv => by
  have c := h j v hv
  rw [hb.cell (World.block_lt_of_cell? W _ c)]; exact c
theorem range_lt {W : World} {b : Nat} {M : List Value} (h : W.rangeAt b 0 M) (h0 : 0 < M.length) : b < W.heap.size :=
  World.block_lt_of_cell? W _ (h 0 _ (List.getElem?_eq_getElem h0))
theorem range_set {W : World} {b b' o : Nat} {M : List Value} (h : W.rangeAt b 0 M) (ne : b' ≠ b) (v : Value) : (W.setCell ⟨b', o, none⟩ v).rangeAt b 0 M := fun j x hx => by
  rw [World.cell?_setCell_other _ _ _ _ (fun e => ne (by cases e; rfl))]
  exact h j x hx
set_option maxRecDepth 100000 in
set_option maxHeartbeats 8000000 in
theorem case_any {A : List Int} {place : Int} (hA : A.length = 20) (hb : ∀ i, 0 ≤ A.getD i 0 ∧ A.getD i 0 < 256) (p0 : -9223372036854775808 ≤ place) (p1 : place < 9223372036854775808) (w : World) (tb1 : Tab w 4 turnsN) (tb2 : Lns w 2 marksN) :
    Calls Tryd.prog 3 #[.agg (A.map (Value.int .u8)).toArray, .int .i64 place] w fun e w' => e = .returned (.bool true) ∧ Below w.heap.size w w' := by
  have CK : Hid (∀ W, Below w.heap.size w W → Calls Tryd.prog 8 #[.agg (A.map (Value.int .u8)).toArray] W fun e w' => e = .returned (.string ⟨(ckS A).toArray⟩) ∧ Below W.heap.size W w') := fun W BW => checksum_any hA hb W (tb1.keep BW) (tb2.keep BW)
  have PA : Hid (∀ (T : List UInt8) W, T.length = 42 → Below w.heap.size w W → Calls Tryd.prog 9 #[.string ⟨T.toArray⟩] W fun e w' => e = .returned (.tuple #[.agg ((paX ⟨T.toArray⟩).map (Value.int .u8)).toArray, .int .i64 (paE ⟨T.toArray⟩)]) ∧ Below W.heap.size W w') := fun T W hT BW => pa_any (by rw [size_list, hT]; decide) W (tb1.keep BW) (tb2.keep BW)
  have RT := ckS_rds hA hb
  have X1 := paX_right hA hb
  have X2 := paX_low hA hb RT
  have EQ := eq_adr hA hA
  rw [decide_eq_true rfl] at EQ
  obtain ⟨Dz, eD⟩ : ∃ D, Hid (D = (List.replicate 20 (0 : Int)).map (Value.int .u8)) := ⟨_, rfl⟩
  have EZ : ∀ w, (Op.equalIn 10000 23 (.agg Dz.toArray) (.agg #[.int .u8 0, .int .u8 0, .int .u8 0, .int .u8 0, .int .u8 0, .int .u8 0, .int .u8 0, .int .u8 0, .int .u8 0, .int .u8 0, .int .u8 0, .int .u8 0, .int .u8 0, .int .u8 0, .int .u8 0, .int .u8 0, .int .u8 0, .int .u8 0, .int .u8 0, .int .u8 0])).run Tryd.prog w = .ok true w := fun w => by
    have h := eq_adr (show (List.replicate 20 (0 : Int)).length = 20 by simp) (show (List.replicate 20 (0 : Int)).length = 20 by simp) w
    rw [decide_eq_true rfl] at h
    rw [eD.out]
    exact h
  have P3 : Hid (∀ (T' : List UInt8) W, Rds T' A → T' ≠ ckS A → Below w.heap.size w W → Calls Tryd.prog 9 #[.string ⟨T'.toArray⟩] W fun e w' => e = .returned (.tuple #[.agg (if cS T' 40 = 0 ∨ cG T' 40 = 0 then A.map (Value.int .u8) else Dz).toArray, .int .i64 (if cS T' 40 = 0 ∨ cG T' 40 = 0 then 0 else 84)]) ∧ Below W.heap.size W w') := fun T' W hT hn BW => by
    have := PA.out T' W hT.1 BW
    obtain ⟨x1, x2⟩ := paX_any hA hb hT hn
    rw [x1, x2] at this
    have e : List.map (Value.int .u8) (if cS T' 40 = 0 ∨ cG T' 40 = 0 then A else List.replicate 20 0) = if cS T' 40 = 0 ∨ cG T' 40 = 0 then A.map (Value.int .u8) else Dz := by
      rw [eD.out]; split <;> rfl
    rw [e] at this
    exact this
  obtain ⟨T, eT⟩ : ∃ T, T = ckS A := ⟨_, rfl⟩
  rw [← eT] at CK RT X1 X2
  simp only [← eT] at P3
  have DZ : Hid (Dz.length = 20 ∧ Dz.toArray.all (·.oneCell') = true) := ⟨by rw [eD.out]; simp, by rw [eD.out]; exact one_u8 _⟩
  have P1 : Hid (∀ W, Below w.heap.size w W → Calls Tryd.prog 9 #[.string ⟨T.toArray⟩] W fun e w' => e = .returned (.tuple #[.agg (A.map (Value.int .u8)).toArray, .int .i64 0]) ∧ Below W.heap.size W w') := fun W BW => by
    have := PA.out T W RT.1 BW
    rw [X1.1, X1.2] at this; exact this
  have P2 : Hid (∀ W, Below w.heap.size w W → Calls Tryd.prog 9 #[.string ⟨(lowT T).toArray⟩] W fun e w' => e = .returned (.tuple #[.agg (A.map (Value.int .u8)).toArray, .int .i64 0]) ∧ Below W.heap.size W w') := fun W BW => by
    have := PA.out (lowT T) W (RT.low hb).1 BW
    rw [X2.1, X2.2] at this; exact this
  have LO : Hid (∀ W, Calls Tryd.prog 10 #[.string ⟨T.toArray⟩] W fun e w' => e = .returned (.string ⟨(lowT T).toArray⟩) ∧ Below W.heap.size W w') := fun W => lower_any (by rw [RT.1]; decide) W
  have NU : Hid (∀ v w, Calls Tryd.prog 11 #[.int .i64 v] w fun e w' => e = .returned (.int .i64 v) ∧ Below w.heap.size w w') := fun v w => hnum_any v w
  have ST : Hid (Rds T A ∧ (∀ i, 0 ≤ A.getD i 0 ∧ A.getD i 0 < 256) ∧ T.length = 42) := ⟨RT, hb, RT.1⟩
  have sT : (⟨T.toArray⟩ : ByteArray).size = 42 := by rw [size_list, RT.1]
  obtain ⟨N, eN⟩ : ∃ N, Hid (N = A.map (Value.int .u8)) := ⟨_, rfl⟩
  have LN : N.length = 20 := by rw [eN.out, List.length_map, hA]
  have lN : (Tryd.prog.info? 23).map (·.size) = some N.length := by rw [LN]; kernel_rfl
  have oN : N.toArray.all (·.oneCell') = true := by rw [eN.out]; exact one_u8 _
  rw [← eN.out] at CK P1 P2 EQ ⊢
  simp only [← eN.out] at P3
  clear tb1 tb2 X1 X2 RT PA eT
  go_enter Tryd.func3, Tryd.ntmps3
  go_wp2_with (refine wpList_load_mid rfl 23 _ rfl w.heap.size 0 rfl N _ rangeBoxH Tryd.underlying23 rfl lN ?_)
  refine calls_world (fun W => Below w.heap.size w W ∧ W.rangeAt w.heap.size 0 N ∧ w.heap.size < W.heap.size) ⟨(Below.refl _ _).alloc (Nat.le_refl _) _, rangeBoxH, by simp⟩ ?_
  rintro W ⟨B, RA, lt0⟩
  have o0 : w.heap.size ≤ w.heap.size := Nat.le_refl _
  with_reducible refine (CK.out _ B).mono ?_
  rintro e1 w1 ⟨rfl, hb1⟩
  replace B := B.trans (hb1.mono B.size)
  replace RA := range_keepH RA hb1
  clear hb1 lt0 CK W
  go_wp2_with fail
  with_reducible refine (P1.out _ B).mono ?_
  rintro e1 w2 ⟨rfl, hb1⟩
  replace B := B.trans (hb1.mono B.size)
  replace RA := range_keepH RA hb1
  clear hb1 P1 w1
  have M20 : (20 : Nat) = N.length := LN.symm
  go_wp2_with (refine wpList_put_new rfl 23 _ _ rfl N rfl rfl M20 lN oN ?_; intro w3 hb3 RX; simp only [Act.put])
  refine calls_world (fun W => Below w.heap.size w W ∧ W.rangeAt w.heap.size 0 N ∧ W.rangeAt w2.heap.size 0 N) ⟨B.trans (hb3.mono B.size), range_keepH RA hb3, RX⟩ ?_
  clear B RA RX hb3
  rintro W ⟨B, RA, RX⟩
  generalize w2.heap.size = bx at *
  clear w3 w2
  with_reducible refine (LO.out _).mono ?_
  rintro e1 w4 ⟨rfl, hb1⟩
  replace B := B.trans (hb1.mono B.size)
  replace RA := range_keepH RA hb1
  replace RX := range_keepH RX hb1
  clear hb1 LO W
  go_wp2_with fail
  with_reducible refine (P2.out _ B).mono ?_
  rintro e1 w5 ⟨rfl, hb1⟩
  replace B := B.trans (hb1.mono B.size)
  replace RA := range_keepH RA hb1
  replace RX := range_keepH RX hb1
  clear hb1 P2 w4
  go_wp2_with (refine wpList_put_new rfl 23 _ _ rfl N rfl rfl M20 lN oN ?_; intro w6 hb3 RY; simp only [Act.put])
  refine calls_world (fun W => Below w.heap.size w W ∧ W.rangeAt w.heap.size 0 N ∧ W.rangeAt bx 0 N ∧ W.rangeAt w5.heap.size 0 N) ⟨B.trans (hb3.mono B.size), range_keepH RA hb3, range_keepH RX hb3, RY⟩ ?_
  clear B RA RX RY hb3
  rintro W ⟨B, RA, RX, RY⟩
  generalize w5.heap.size = bz at *
  clear w6 w5
  with_reducible refine (NU.out _ _).mono ?_
  rintro e1 w7 ⟨rfl, hb1⟩
  replace B := B.trans (hb1.mono B.size)
  replace RA := range_keepH RA hb1
  replace RX := range_keepH RX hb1
  replace RY := range_keepH RY hb1
  clear hb1 W
  go_wp2_with fail
  with_reducible refine (NU.out _ _).mono ?_
  rintro e1 w8 ⟨rfl, hb1⟩
  replace B := B.trans (hb1.mono B.size)
  replace RA := range_keepH RA hb1
  replace RX := range_keepH RX hb1
  replace RY := range_keepH RY hb1
  clear hb1 w7
  obtain ⟨cap, W2, hcv, hcap, hB2, hF⟩ := Fz.of T w8
  rw [ST.out.2.2] at hcv hcap hF
  have hcap' : (42 : Int) ≤ (cap : Int) := by omega
  obtain ⟨r, er⟩ : ∃ r, place.tmod 40 = r := ⟨_, rfl⟩
  have rb : -40 < r ∧ r < 40 := by
    rw [← er]
    by_cases hp : 0 ≤ place
    · rw [Int.tmod_eq_emod_of_nonneg hp]; omega
    · have e : place = -(-place) := by omega
      rw [e, Int.neg_tmod, Int.tmod_eq_emod_of_nonneg (by omega)]; omega
  obtain ⟨k, ek⟩ : ∃ k : Nat, (r < 0 → r + 40 = (k : Int)) ∧ (0 ≤ r → r = (k : Int)) ∧ k < 40 := ⟨(if r < 0 then r + 40 else r).toNat, by
    split <;> refine ⟨fun _ => ?_, fun _ => ?_, ?_⟩ <;> omega⟩
  have KB : Hid (k < 40) := ek.2.2
  have gk := hF (2 + k) (by omega)
  obtain ⟨gc, fc⟩ := gk
  have HF : Hid (Fz W2 w8.heap.size 42 (fun j => T.getD j 0) ∧ Below w.heap.size w W2 ∧ W2.rangeAt w.heap.size 0 N) := ⟨hF, B.trans (hB2.mono B.size), range_keepH RA hB2⟩
  have e2k : ((2 : Int) + (k : Int)).toNat = 2 + k := by omega
  have b2k : (2 : Int) + (k : Int) < 42 := by have := KB.out; omega
  obtain ⟨u, hu⟩ : ∃ u : UInt8, Hid (u = T.getD (2 + k) 0) := ⟨_, rfl⟩
  simp only [← hu.out] at gc
  have u0 : (0 : Int) ≤ (u.toNat : Int) ∧ (u.toNat : Int) < 256 := by have := u.toNat_lt; omega
  have ud := ST.out.1.digit ST.out.2.1 KB.out
  unfold tb at ud
  rw [← hu.out] at ud
  have uc := dv_cases ud
  obtain ⟨v, hv⟩ : ∃ v : Int, v = (u.toNat : Int) := ⟨_, rfl⟩
  rw [← hv] at gc u0 uc
  have HV : Hid (v = (u.toNat : Int)) := hv
  have UC : Hid ((48 ≤ v ∧ v ≤ 57) ∨ (97 ≤ v ∧ v ≤ 102) ∨ (65 ≤ v ∧ v ≤ 70)) := uc
  obtain ⟨v0, v1⟩ := u0
  have o8 : w.heap.size ≤ w8.heap.size := B.size
  have n8 : w8.heap.size ≠ w.heap.size := Nat.ne_of_gt (range_lt RA (by omega))
  generalize w8.heap.size = gt at *
  clear hF hB2 hv uc ud hcap rb
  have TE : Hid (65 ≤ v → ((tn u).toNat : Int) = if 97 ≤ v then v - 97 + 65 else v - 65 + 97) := fun h => by
    have := tn_num (u := u) (by have := HV.out; omega) (by have := HV.out; have := UC.out; omega)
    rw [← HV.out] at this; exact this
  have RT : Hid (65 ≤ v → Rds (T.set (2 + k) (tn u)) A ∧ T.set (2 + k) (tn u) ≠ T) := fun h => by
    have h1 : 65 ≤ tb T (2 + k) := by unfold tb; rw [← hu.out, ← HV.out]; exact h
    have h2 : tb T (2 + k) ≤ 102 := by unfold tb; rw [← hu.out, ← HV.out]; have := UC.out; omega
    have a := ST.out.1.turn ST.out.2.1 KB.out h1
    have b := turn_ne ST.out.2.2 KB.out h1 h2
    rw [← hu.out] at a b
    exact ⟨a, b⟩
  have FP : Hid (∀ x : Int, x = ((tn u).toNat : Int) → Fz (W2.setCell ⟨gt, 2 + k, none⟩ (.int .u8 x)) gt 42 (fun j => (T.set (2 + k) (tn u)).getD j 0)) := fun x hx => HF.out.1.put (u := tn u) (by have := KB.out; omega) hx (fun j hj => set_at _ _ _ _ (by rw [ST.out.2.2]; have := KB.out; omega))
  obtain ⟨T', eT'⟩ : ∃ T', Hid (T' = T.set (2 + k) (tn u)) := ⟨_, rfl⟩
  rw [← eT'.out] at RT FP
  have LT : Hid (T'.length = 42) := by rw [eT'.out]; exact (by rw [List.length_set]; exact ST.out.2.2)
  by_cases hr : r < 0
  · have ek1 := ek.1 hr
    clear ek
    by_cases h65 : v < 65
    · clear RT FP TE
      go_wp2_with first | ((with_reducible refine wpList_load_wantH (ty := 23) bx 0 N _ RX Tryd.underlying23 ?_ lN ?_ ?_ ?_); rfl; rfl; rfl; simp only [Act.put, List.setIfInBounds_toArray, List.set_cons_succ, List.set_cons_zero]) | ((with_reducible refine wpList_load_wantH (ty := 23) w.heap.size 0 N _ RA Tryd.underlying23 ?_ lN ?_ ?_ ?_); rfl; rfl; rfl; simp only [Act.put, List.setIfInBounds_toArray, List.set_cons_succ, List.set_cons_zero]) | ((with_reducible refine wpList_load_wantH (ty := 23) bz 0 N _ RY Tryd.underlying23 ?_ lN ?_ ?_ ?_); rfl; rfl; rfl; simp only [Act.put, List.setIfInBounds_toArray, List.set_cons_succ, List.set_cons_zero])
      simp [bodyPost, results, Tryd.results3, go_sem]
      exact HF.out.2.1
    · have h65' : 65 ≤ v := by omega
      by_cases h97 : 97 ≤ v
      · have R1 := RT.out h65'
        have F1 := FP.out (v - 97 + 65) (by have := TE.out h65'; rw [if_pos h97] at this; omega)
        have HG : Hid (Rds T' A ∧ T' ≠ T ∧ Below w.heap.size w (W2.setCell ⟨gt, 2 + k, none⟩ (.int .u8 (v - 97 + 65))) ∧ (W2.setCell ⟨gt, 2 + k, none⟩ (.int .u8 (v - 97 + 65))).rangeAt w.heap.size 0 N ∧ Fz (W2.setCell ⟨gt, 2 + k, none⟩ (.int .u8 (v - 97 + 65))) gt 42 (fun j => T'.getD j 0)) := ⟨R1.1, R1.2, HF.out.2.1.setCell o8 _, range_set HF.out.2.2 n8 _, F1⟩
        clear R1 F1 RT FP TE HF
        go_wp2_with first | ((with_reducible refine wpList_load_wantH (ty := 23) bx 0 N _ RX Tryd.underlying23 ?_ lN ?_ ?_ ?_); rfl; rfl; rfl; simp only [Act.put, List.setIfInBounds_toArray, List.set_cons_succ, List.set_cons_zero]) | ((with_reducible refine wpList_load_wantH (ty := 23) w.heap.size 0 N _ RA Tryd.underlying23 ?_ lN ?_ ?_ ?_); rfl; rfl; rfl; simp only [Act.put, List.setIfInBounds_toArray, List.set_cons_succ, List.set_cons_zero]) | ((with_reducible refine wpList_load_wantH (ty := 23) bz 0 N _ RY Tryd.underlying23 ?_ lN ?_ ?_ ?_); rfl; rfl; rfl; simp only [Act.put, List.setIfInBounds_toArray, List.set_cons_succ, List.set_cons_zero])
        refine wp_world (fun W => Below w.heap.size w W ∧ W.rangeAt w.heap.size 0 N ∧ Fz W gt 42 (fun j => T'.getD j 0)) ⟨HG.out.2.2.1, HG.out.2.2.2.1, HG.out.2.2.2.2⟩ ?_
        rintro W3 ⟨B3, R3, F3⟩
        have HR : Hid (Rds T' A ∧ T' ≠ T) := ⟨HG.out.1, HG.out.2.1⟩
        clear HG gc fc RX RY RA B hcv
        have HW : Hid (Below w.heap.size w W3 ∧ W3.rangeAt w.heap.size 0 N ∧ Fz W3 gt 42 (fun j => T'.getD j 0)) := ⟨B3, R3, F3⟩
        clear B3 R3 F3
        go_loopg [13, 14, 15] 40 (fun kk sv gv iv wr => ∃ i : Nat, kk = 40 - i ∧ i ≤ 40 ∧ iv = .int .i64 (2 + (i : Int)) ∧ sv = .int .i64 (cS T' i : Int) ∧ gv = .int .i64 (cG T' i : Int) ∧ wr = W3)
        case atStart => exact ⟨0, rfl, Nat.zero_le _, rfl, rfl, rfl, rfl⟩
        case round =>
          obtain ⟨i, hk, hi, rfl, rfl, rfl, ew⟩ := hrel
          subst ew
          have HK : Hid (gk = 40 - i ∧ i ≤ 40) := ⟨hk, hi⟩
          clear hk
          by_cases h8 : i = 40
          · subst h8
            have ct := Fz.text (cap := cap) (T := T') HW.out.2.2 LT.out (fun j hj => rfl)
            have q1 : decide ((cS T' 40 : Int) = 0) = decide (cS T' 40 = 0) := by by_cases k : cS T' 40 = 0 <;> simp [k]
            have q2 : decide ((cG T' 40 : Int) = 0) = decide (cG T' 40 = 0) := by by_cases k : cG T' 40 = 0 <;> simp [k]
            have PC := P3.out T' _ HR.out.1 HR.out.2 HW.out.1
            by_cases kc : cS T' 40 = 0 ∨ cG T' 40 = 0
            · rw [if_pos kc, if_pos kc] at PC
              by_cases kz : cS T' 40 = 0
              · rw [kz]
                go_wp2_with fail
                with_reducible refine PC.mono ?_
                rintro e1 w9 ⟨rfl, hb9⟩
                have HB : Hid (Below w.heap.size w w9 ∧ w9.rangeAt w.heap.size 0 N) := ⟨HW.out.1.trans (hb9.mono HW.out.1.size), range_keepH HW.out.2.1 hb9⟩
                clear hb9 PC
                go_wp2_with (refine wpList_put_new rfl 23 _ _ rfl N rfl rfl M20 lN oN ?_; intro w10 hb10 RZ; simp only [Act.put])
                have B10 : Below w.heap.size w w10 := HB.out.1.trans (hb10.mono HB.out.1.size)
                have R10 := range_keepH HB.out.2 hb10
                with_reducible refine (NU.out _ _).mono ?_
                rintro e1 w11 ⟨rfl, hb11⟩
                replace B10 := B10.trans (hb11.mono B10.size)
                replace RZ := range_keepH RZ hb11
                replace R10 := range_keepH R10 hb11
                clear hb10 hb11
                go_wp2_with first | ((with_reducible refine wpList_load_wantH (ty := 23) w9.heap.size 0 N _ RZ Tryd.underlying23 ?_ lN ?_ ?_ ?_); rfl; rfl; rfl; simp only [Act.put, List.setIfInBounds_toArray, List.set_cons_succ, List.set_cons_zero]) | ((with_reducible refine wpList_load_wantH (ty := 23) w.heap.size 0 N _ R10 Tryd.underlying23 ?_ lN ?_ ?_ ?_); rfl; rfl; rfl; simp only [Act.put, List.setIfInBounds_toArray, List.set_cons_succ, List.set_cons_zero])
                simp [bodyPost, results, Tryd.results3, go_sem]
                exact B10
              · have kg := kc.resolve_left kz
                have kz' : ((cS T' 40 : Int) == 0) = false := by simp; omega
                rw [kg]
                go_wp2_with fail
                with_reducible refine PC.mono ?_
                rintro e1 w9 ⟨rfl, hb9⟩
                have HB : Hid (Below w.heap.size w w9 ∧ w9.rangeAt w.heap.size 0 N) := ⟨HW.out.1.trans (hb9.mono HW.out.1.size), range_keepH HW.out.2.1 hb9⟩
                clear hb9 PC
                go_wp2_with (refine wpList_put_new rfl 23 _ _ rfl N rfl rfl M20 lN oN ?_; intro w10 hb10 RZ; simp only [Act.put])
                have B10 : Below w.heap.size w w10 := HB.out.1.trans (hb10.mono HB.out.1.size)
                have R10 := range_keepH HB.out.2 hb10
                with_reducible refine (NU.out _ _).mono ?_
                rintro e1 w11 ⟨rfl, hb11⟩
                replace B10 := B10.trans (hb11.mono B10.size)
                replace RZ := range_keepH RZ hb11
                replace R10 := range_keepH R10 hb11
                clear hb10 hb11
                go_wp2_with first | ((with_reducible refine wpList_load_wantH (ty := 23) w9.heap.size 0 N _ RZ Tryd.underlying23 ?_ lN ?_ ?_ ?_); rfl; rfl; rfl; simp only [Act.put, List.setIfInBounds_toArray, List.set_cons_succ, List.set_cons_zero]) | ((with_reducible refine wpList_load_wantH (ty := 23) w.heap.size 0 N _ R10 Tryd.underlying23 ?_ lN ?_ ?_ ?_); rfl; rfl; rfl; simp only [Act.put, List.setIfInBounds_toArray, List.set_cons_succ, List.set_cons_zero])
                simp [bodyPost, results, Tryd.results3, go_sem]
                exact B10
            · rw [if_neg kc, if_neg kc] at PC
              have kz' : ((cS T' 40 : Int) == 0) = false := by simp; exact fun x => kc (.inl x)
              have kg' : ((cG T' 40 : Int) == 0) = false := by simp; exact fun x => kc (.inr x)
              go_wp2_with fail
              with_reducible refine PC.mono ?_
              rintro e1 w9 ⟨rfl, hb9⟩
              have HB : Hid (Below w.heap.size w w9) := HW.out.1.trans (hb9.mono HW.out.1.size)
              clear hb9 PC
              go_wp2_with (refine wpList_put_new rfl 23 _ _ rfl Dz rfl rfl DZ.out.1.symm (by rw [DZ.out.1]; kernel_rfl) DZ.out.2 ?_; intro w10 hb10 RZ; simp only [Act.put])
              have lD : (Tryd.prog.info? 23).map (·.size) = some Dz.length := by rw [DZ.out.1]; kernel_rfl
              have B10 : Below w.heap.size w w10 := HB.out.trans (hb10.mono HB.out.size)
              with_reducible refine (NU.out _ _).mono ?_
              rintro e1 w11 ⟨rfl, hb11⟩
              replace B10 := B10.trans (hb11.mono B10.size)
              replace RZ := range_keepH RZ hb11
              clear hb10 hb11
              go_wp2_with ((with_reducible refine wpList_load_wantH (ty := 23) w9.heap.size 0 Dz _ RZ Tryd.underlying23 ?_ lD ?_ ?_ ?_); rfl; rfl; rfl; simp only [Act.put, List.setIfInBounds_toArray, List.set_cons_succ, List.set_cons_zero])
              simp [go_sem]
              go_wp2
              simp [bodyPost, results, Tryd.results3, go_sem]
              exact B10
          · have hlt : i < 40 := by omega
            have hlt' : (2 : Int) + (i : Int) < 42 := by omega
            have e2i : ((2 : Int) + (i : Int)).toNat = 2 + i := by omega
            have gy := (HW.out.2.2 (2 + i) (by omega)).1
            obtain ⟨t, ht⟩ : ∃ t : Int, Hid (t = tb T' (2 + i)) := ⟨_, rfl⟩
            have gy2 : wr.cell? ⟨gt, 2 + i, none⟩ = some (.int .u8 t) := by rw [ht.out]; exact gy
            have cs1 : cS T' (i + 1) = cS T' i + (if 97 ≤ t then 1 else 0) := by rw [ht.out]; rfl
            have cg1 : cG T' (i + 1) = cG T' i + (if 65 ≤ t ∧ t < 97 then 1 else 0) := by rw [ht.out]; rfl
            have cl1 := cS_le T' i
            have cl2 := cG_le T' i
            obtain ⟨a, ea⟩ : ∃ a, a = cS T' i := ⟨_, rfl⟩
            obtain ⟨b', eb⟩ : ∃ b', b' = cG T' i := ⟨_, rfl⟩
            rw [← ea] at cs1 cl1 ⊢
            rw [← eb] at cg1 cl2 ⊢
            have a40 : (a : Int) ≤ 40 := by omega
            have b40 : (b' : Int) ≤ 40 := by omega
            clear gy hi ea eb
            by_cases k97 : 97 ≤ t
            · rw [if_pos k97] at cs1
              rw [if_neg (by omega)] at cg1
              have HC : Hid (cS T' (i + 1) = a + 1 ∧ cG T' (i + 1) = b' + 0) := ⟨cs1, cg1⟩
              clear cs1 cg1
              go_wp2
              go_roundg (40 - (i + 1))
              case measure => have := HK.out; omega
              case rel => exact ⟨i + 1, rfl, hlt, by congr 1, by rw [HC.out.1]; congr 1, by rw [HC.out.2]; congr 1, rfl⟩
            · rw [if_neg k97] at cs1
              by_cases k65 : 65 ≤ t
              · rw [if_pos ⟨k65, by omega⟩] at cg1
                have HC : Hid (cS T' (i + 1) = a + 0 ∧ cG T' (i + 1) = b' + 1) := ⟨cs1, cg1⟩
                clear cs1 cg1
                go_wp2
                go_roundg (40 - (i + 1))
                case measure => have := HK.out; omega
                case rel => exact ⟨i + 1, rfl, hlt, by congr 1, by rw [HC.out.1]; congr 1, by rw [HC.out.2]; congr 1, rfl⟩
              · rw [if_neg (by omega)] at cg1
                have HC : Hid (cS T' (i + 1) = a + 0 ∧ cG T' (i + 1) = b' + 0) := ⟨cs1, cg1⟩
                clear cs1 cg1
                go_wp2
                go_roundg (40 - (i + 1))
                case measure => have := HK.out; omega
                case rel => exact ⟨i + 1, rfl, hlt, by congr 1, by rw [HC.out.1]; congr 1, by rw [HC.out.2]; congr 1, rfl⟩
      · have R1 := RT.out h65'
        have F1 := FP.out (v - 65 + 97) (by have := TE.out h65'; rw [if_neg h97] at this; omega)
        have HG : Hid (Rds T' A ∧ T' ≠ T ∧ Below w.heap.size w (W2.setCell ⟨gt, 2 + k, none⟩ (.int .u8 (v - 65 + 97))) ∧ (W2.setCell ⟨gt, 2 + k, none⟩ (.int .u8 (v - 65 + 97))).rangeAt w.heap.size 0 N ∧ Fz (W2.setCell ⟨gt, 2 + k, none⟩ (.int .u8 (v - 65 + 97))) gt 42 (fun j => T'.getD j 0)) := ⟨R1.1, R1.2, HF.out.2.1.setCell o8 _, range_set HF.out.2.2 n8 _, F1⟩
        clear R1 F1 RT FP TE HF
        go_wp2_with first | ((with_reducible refine wpList_load_wantH (ty := 23) bx 0 N _ RX Tryd.underlying23 ?_ lN ?_ ?_ ?_); rfl; rfl; rfl; simp only [Act.put, List.setIfInBounds_toArray, List.set_cons_succ, List.set_cons_zero]) | ((with_reducible refine wpList_load_wantH (ty := 23) w.heap.size 0 N _ RA Tryd.underlying23 ?_ lN ?_ ?_ ?_); rfl; rfl; rfl; simp only [Act.put, List.setIfInBounds_toArray, List.set_cons_succ, List.set_cons_zero]) | ((with_reducible refine wpList_load_wantH (ty := 23) bz 0 N _ RY Tryd.underlying23 ?_ lN ?_ ?_ ?_); rfl; rfl; rfl; simp only [Act.put, List.setIfInBounds_toArray, List.set_cons_succ, List.set_cons_zero])
        refine wp_world (fun W => Below w.heap.size w W ∧ W.rangeAt w.heap.size 0 N ∧ Fz W gt 42 (fun j => T'.getD j 0)) ⟨HG.out.2.2.1, HG.out.2.2.2.1, HG.out.2.2.2.2⟩ ?_
        rintro W3 ⟨B3, R3, F3⟩
        have HR : Hid (Rds T' A ∧ T' ≠ T) := ⟨HG.out.1, HG.out.2.1⟩
        clear HG gc fc RX RY RA B hcv
        have HW : Hid (Below w.heap.size w W3 ∧ W3.rangeAt w.heap.size 0 N ∧ Fz W3 gt 42 (fun j => T'.getD j 0)) := ⟨B3, R3, F3⟩
        clear B3 R3 F3
        go_loopg [13, 14, 15] 40 (fun kk sv gv iv wr => ∃ i : Nat, kk = 40 - i ∧ i ≤ 40 ∧ iv = .int .i64 (2 + (i : Int)) ∧ sv = .int .i64 (cS T' i : Int) ∧ gv = .int .i64 (cG T' i : Int) ∧ wr = W3)
        case atStart => exact ⟨0, rfl, Nat.zero_le _, rfl, rfl, rfl, rfl⟩
        case round =>
          obtain ⟨i, hk, hi, rfl, rfl, rfl, ew⟩ := hrel
          subst ew
          have HK : Hid (gk = 40 - i ∧ i ≤ 40) := ⟨hk, hi⟩
          clear hk
          by_cases h8 : i = 40
          · subst h8
            have ct := Fz.text (cap := cap) (T := T') HW.out.2.2 LT.out (fun j hj => rfl)
            have q1 : decide ((cS T' 40 : Int) = 0) = decide (cS T' 40 = 0) := by by_cases k : cS T' 40 = 0 <;> simp [k]
            have q2 : decide ((cG T' 40 : Int) = 0) = decide (cG T' 40 = 0) := by by_cases k : cG T' 40 = 0 <;> simp [k]
            have PC := P3.out T' _ HR.out.1 HR.out.2 HW.out.1
            by_cases kc : cS T' 40 = 0 ∨ cG T' 40 = 0
            · rw [if_pos kc, if_pos kc] at PC
              by_cases kz : cS T' 40 = 0
              · rw [kz]
                go_wp2_with fail
                with_reducible refine PC.mono ?_
                rintro e1 w9 ⟨rfl, hb9⟩
                have HB : Hid (Below w.heap.size w w9 ∧ w9.rangeAt w.heap.size 0 N) := ⟨HW.out.1.trans (hb9.mono HW.out.1.size), range_keepH HW.out.2.1 hb9⟩
                clear hb9 PC
                go_wp2_with (refine wpList_put_new rfl 23 _ _ rfl N rfl rfl M20 lN oN ?_; intro w10 hb10 RZ; simp only [Act.put])
                have B10 : Below w.heap.size w w10 := HB.out.1.trans (hb10.mono HB.out.1.size)
                have R10 := range_keepH HB.out.2 hb10
                with_reducible refine (NU.out _ _).mono ?_
                rintro e1 w11 ⟨rfl, hb11⟩
                replace B10 := B10.trans (hb11.mono B10.size)
                replace RZ := range_keepH RZ hb11
                replace R10 := range_keepH R10 hb11
                clear hb10 hb11
                go_wp2_with first | ((with_reducible refine wpList_load_wantH (ty := 23) w9.heap.size 0 N _ RZ Tryd.underlying23 ?_ lN ?_ ?_ ?_); rfl; rfl; rfl; simp only [Act.put, List.setIfInBounds_toArray, List.set_cons_succ, List.set_cons_zero]) | ((with_reducible refine wpList_load_wantH (ty := 23) w.heap.size 0 N _ R10 Tryd.underlying23 ?_ lN ?_ ?_ ?_); rfl; rfl; rfl; simp only [Act.put, List.setIfInBounds_toArray, List.set_cons_succ, List.set_cons_zero])
                simp [bodyPost, results, Tryd.results3, go_sem]
                exact B10
              · have kg := kc.resolve_left kz
                have kz' : ((cS T' 40 : Int) == 0) = false := by simp; omega
                rw [kg]
                go_wp2_with fail
                with_reducible refine PC.mono ?_
                rintro e1 w9 ⟨rfl, hb9⟩
                have HB : Hid (Below w.heap.size w w9 ∧ w9.rangeAt w.heap.size 0 N) := ⟨HW.out.1.trans (hb9.mono HW.out.1.size), range_keepH HW.out.2.1 hb9⟩
                clear hb9 PC
                go_wp2_with (refine wpList_put_new rfl 23 _ _ rfl N rfl rfl M20 lN oN ?_; intro w10 hb10 RZ; simp only [Act.put])
                have B10 : Below w.heap.size w w10 := HB.out.1.trans (hb10.mono HB.out.1.size)
                have R10 := range_keepH HB.out.2 hb10
                with_reducible refine (NU.out _ _).mono ?_
                rintro e1 w11 ⟨rfl, hb11⟩
                replace B10 := B10.trans (hb11.mono B10.size)
                replace RZ := range_keepH RZ hb11
                replace R10 := range_keepH R10 hb11
                clear hb10 hb11
                go_wp2_with first | ((with_reducible refine wpList_load_wantH (ty := 23) w9.heap.size 0 N _ RZ Tryd.underlying23 ?_ lN ?_ ?_ ?_); rfl; rfl; rfl; simp only [Act.put, List.setIfInBounds_toArray, List.set_cons_succ, List.set_cons_zero]) | ((with_reducible refine wpList_load_wantH (ty := 23) w.heap.size 0 N _ R10 Tryd.underlying23 ?_ lN ?_ ?_ ?_); rfl; rfl; rfl; simp only [Act.put, List.setIfInBounds_toArray, List.set_cons_succ, List.set_cons_zero])
                simp [bodyPost, results, Tryd.results3, go_sem]
                exact B10
            · rw [if_neg kc, if_neg kc] at PC
              have kz' : ((cS T' 40 : Int) == 0) = false := by simp; exact fun x => kc (.inl x)
              have kg' : ((cG T' 40 : Int) == 0) = false := by simp; exact fun x => kc (.inr x)
              go_wp2_with fail
              with_reducible refine PC.mono ?_
              rintro e1 w9 ⟨rfl, hb9⟩
              have HB : Hid (Below w.heap.size w w9) := HW.out.1.trans (hb9.mono HW.out.1.size)
              clear hb9 PC
              go_wp2_with (refine wpList_put_new rfl 23 _ _ rfl Dz rfl rfl DZ.out.1.symm (by rw [DZ.out.1]; kernel_rfl) DZ.out.2 ?_; intro w10 hb10 RZ; simp only [Act.put])
              have lD : (Tryd.prog.info? 23).map (·.size) = some Dz.length := by rw [DZ.out.1]; kernel_rfl
              have B10 : Below w.heap.size w w10 := HB.out.trans (hb10.mono HB.out.size)
              with_reducible refine (NU.out _ _).mono ?_
              rintro e1 w11 ⟨rfl, hb11⟩
              replace B10 := B10.trans (hb11.mono B10.size)
              replace RZ := range_keepH RZ hb11
              clear hb10 hb11
              go_wp2_with ((with_reducible refine wpList_load_wantH (ty := 23) w9.heap.size 0 Dz _ RZ Tryd.underlying23 ?_ lD ?_ ?_ ?_); rfl; rfl; rfl; simp only [Act.put, List.setIfInBounds_toArray, List.set_cons_succ, List.set_cons_zero])
              simp [go_sem]
              go_wp2
              simp [bodyPost, results, Tryd.results3, go_sem]
              exact B10
          · have hlt : i < 40 := by omega
            have hlt' : (2 : Int) + (i : Int) < 42 := by omega
            have e2i : ((2 : Int) + (i : Int)).toNat = 2 + i := by omega
            have gy := (HW.out.2.2 (2 + i) (by omega)).1
            obtain ⟨t, ht⟩ : ∃ t : Int, Hid (t = tb T' (2 + i)) := ⟨_, rfl⟩
            have gy2 : wr.cell? ⟨gt, 2 + i, none⟩ = some (.int .u8 t) := by rw [ht.out]; exact gy
            have cs1 : cS T' (i + 1) = cS T' i + (if 97 ≤ t then 1 else 0) := by rw [ht.out]; rfl
            have cg1 : cG T' (i + 1) = cG T' i + (if 65 ≤ t ∧ t < 97 then 1 else 0) := by rw [ht.out]; rfl
            have cl1 := cS_le T' i
            have cl2 := cG_le T' i
            obtain ⟨a, ea⟩ : ∃ a, a = cS T' i := ⟨_, rfl⟩
            obtain ⟨b', eb⟩ : ∃ b', b' = cG T' i := ⟨_, rfl⟩
            rw [← ea] at cs1 cl1 ⊢
            rw [← eb] at cg1 cl2 ⊢
            have a40 : (a : Int) ≤ 40 := by omega
            have b40 : (b' : Int) ≤ 40 := by omega
            clear gy hi ea eb
            by_cases k97 : 97 ≤ t
            · rw [if_pos k97] at cs1
              rw [if_neg (by omega)] at cg1
              have HC : Hid (cS T' (i + 1) = a + 1 ∧ cG T' (i + 1) = b' + 0) := ⟨cs1, cg1⟩
              clear cs1 cg1
              go_wp2
              go_roundg (40 - (i + 1))
              case measure => have := HK.out; omega
              case rel => exact ⟨i + 1, rfl, hlt, by congr 1, by rw [HC.out.1]; congr 1, by rw [HC.out.2]; congr 1, rfl⟩
            · rw [if_neg k97] at cs1
              by_cases k65 : 65 ≤ t
              · rw [if_pos ⟨k65, by omega⟩] at cg1
                have HC : Hid (cS T' (i + 1) = a + 0 ∧ cG T' (i + 1) = b' + 1) := ⟨cs1, cg1⟩
                clear cs1 cg1
                go_wp2
                go_roundg (40 - (i + 1))
                case measure => have := HK.out; omega
                case rel => exact ⟨i + 1, rfl, hlt, by congr 1, by rw [HC.out.1]; congr 1, by rw [HC.out.2]; congr 1, rfl⟩
              · rw [if_neg (by omega)] at cg1
                have HC : Hid (cS T' (i + 1) = a + 0 ∧ cG T' (i + 1) = b' + 0) := ⟨cs1, cg1⟩
                clear cs1 cg1
                go_wp2
                go_roundg (40 - (i + 1))
                case measure => have := HK.out; omega
                case rel => exact ⟨i + 1, rfl, hlt, by congr 1, by rw [HC.out.1]; congr 1, by rw [HC.out.2]; congr 1, rfl⟩
  · have ek1 := ek.2.1 (by omega)
    subst ek1
    clear ek
    by_cases h65 : v < 65
    · clear RT FP TE
      go_wp2_with first | ((with_reducible refine wpList_load_wantH (ty := 23) bx 0 N _ RX Tryd.underlying23 ?_ lN ?_ ?_ ?_); rfl; rfl; rfl; simp only [Act.put, List.setIfInBounds_toArray, List.set_cons_succ, List.set_cons_zero]) | ((with_reducible refine wpList_load_wantH (ty := 23) w.heap.size 0 N _ RA Tryd.underlying23 ?_ lN ?_ ?_ ?_); rfl; rfl; rfl; simp only [Act.put, List.setIfInBounds_toArray, List.set_cons_succ, List.set_cons_zero]) | ((with_reducible refine wpList_load_wantH (ty := 23) bz 0 N _ RY Tryd.underlying23 ?_ lN ?_ ?_ ?_); rfl; rfl; rfl; simp only [Act.put, List.setIfInBounds_toArray, List.set_cons_succ, List.set_cons_zero])
      simp [bodyPost, results, Tryd.results3, go_sem]
      exact HF.out.2.1
    · have h65' : 65 ≤ v := by omega
      by_cases h97 : 97 ≤ v
      · have R1 := RT.out h65'
        have F1 := FP.out (v - 97 + 65) (by have := TE.out h65'; rw [if_pos h97] at this; omega)
        have HG : Hid (Rds T' A ∧ T' ≠ T ∧ Below w.heap.size w (W2.setCell ⟨gt, 2 + k, none⟩ (.int .u8 (v - 97 + 65))) ∧ (W2.setCell ⟨gt, 2 + k, none⟩ (.int .u8 (v - 97 + 65))).rangeAt w.heap.size 0 N ∧ Fz (W2.setCell ⟨gt, 2 + k, none⟩ (.int .u8 (v - 97 + 65))) gt 42 (fun j => T'.getD j 0)) := ⟨R1.1, R1.2, HF.out.2.1.setCell o8 _, range_set HF.out.2.2 n8 _, F1⟩
        clear R1 F1 RT FP TE HF
        go_wp2_with first | ((with_reducible refine wpList_load_wantH (ty := 23) bx 0 N _ RX Tryd.underlying23 ?_ lN ?_ ?_ ?_); rfl; rfl; rfl; simp only [Act.put, List.setIfInBounds_toArray, List.set_cons_succ, List.set_cons_zero]) | ((with_reducible refine wpList_load_wantH (ty := 23) w.heap.size 0 N _ RA Tryd.underlying23 ?_ lN ?_ ?_ ?_); rfl; rfl; rfl; simp only [Act.put, List.setIfInBounds_toArray, List.set_cons_succ, List.set_cons_zero]) | ((with_reducible refine wpList_load_wantH (ty := 23) bz 0 N _ RY Tryd.underlying23 ?_ lN ?_ ?_ ?_); rfl; rfl; rfl; simp only [Act.put, List.setIfInBounds_toArray, List.set_cons_succ, List.set_cons_zero])
        refine wp_world (fun W => Below w.heap.size w W ∧ W.rangeAt w.heap.size 0 N ∧ Fz W gt 42 (fun j => T'.getD j 0)) ⟨HG.out.2.2.1, HG.out.2.2.2.1, HG.out.2.2.2.2⟩ ?_
        rintro W3 ⟨B3, R3, F3⟩
        have HR : Hid (Rds T' A ∧ T' ≠ T) := ⟨HG.out.1, HG.out.2.1⟩
        clear HG gc fc RX RY RA B hcv
        have HW : Hid (Below w.heap.size w W3 ∧ W3.rangeAt w.heap.size 0 N ∧ Fz W3 gt 42 (fun j => T'.getD j 0)) := ⟨B3, R3, F3⟩
        clear B3 R3 F3
        go_loopg [13, 14, 15] 40 (fun kk sv gv iv wr => ∃ i : Nat, kk = 40 - i ∧ i ≤ 40 ∧ iv = .int .i64 (2 + (i : Int)) ∧ sv = .int .i64 (cS T' i : Int) ∧ gv = .int .i64 (cG T' i : Int) ∧ wr = W3)
        case atStart => exact ⟨0, rfl, Nat.zero_le _, rfl, rfl, rfl, rfl⟩
        case round =>
          obtain ⟨i, hk, hi, rfl, rfl, rfl, ew⟩ := hrel
          subst ew
          have HK : Hid (gk = 40 - i ∧ i ≤ 40) := ⟨hk, hi⟩
          clear hk
          by_cases h8 : i = 40
          · subst h8
            have ct := Fz.text (cap := cap) (T := T') HW.out.2.2 LT.out (fun j hj => rfl)
            have q1 : decide ((cS T' 40 : Int) = 0) = decide (cS T' 40 = 0) := by by_cases k : cS T' 40 = 0 <;> simp [k]
            have q2 : decide ((cG T' 40 : Int) = 0) = decide (cG T' 40 = 0) := by by_cases k : cG T' 40 = 0 <;> simp [k]
            have PC := P3.out T' _ HR.out.1 HR.out.2 HW.out.1
            by_cases kc : cS T' 40 = 0 ∨ cG T' 40 = 0
            · rw [if_pos kc, if_pos kc] at PC
              by_cases kz : cS T' 40 = 0
              · rw [kz]
                go_wp2_with fail
                with_reducible refine PC.mono ?_
                rintro e1 w9 ⟨rfl, hb9⟩
                have HB : Hid (Below w.heap.size w w9 ∧ w9.rangeAt w.heap.size 0 N) := ⟨HW.out.1.trans (hb9.mono HW.out.1.size), range_keepH HW.out.2.1 hb9⟩
                clear hb9 PC
                go_wp2_with (refine wpList_put_new rfl 23 _ _ rfl N rfl rfl M20 lN oN ?_; intro w10 hb10 RZ; simp only [Act.put])
                have B10 : Below w.heap.size w w10 := HB.out.1.trans (hb10.mono HB.out.1.size)
                have R10 := range_keepH HB.out.2 hb10
                with_reducible refine (NU.out _ _).mono ?_
                rintro e1 w11 ⟨rfl, hb11⟩
                replace B10 := B10.trans (hb11.mono B10.size)
                replace RZ := range_keepH RZ hb11
                replace R10 := range_keepH R10 hb11
                clear hb10 hb11
                go_wp2_with first | ((with_reducible refine wpList_load_wantH (ty := 23) w9.heap.size 0 N _ RZ Tryd.underlying23 ?_ lN ?_ ?_ ?_); rfl; rfl; rfl; simp only [Act.put, List.setIfInBounds_toArray, List.set_cons_succ, List.set_cons_zero]) | ((with_reducible refine wpList_load_wantH (ty := 23) w.heap.size 0 N _ R10 Tryd.underlying23 ?_ lN ?_ ?_ ?_); rfl; rfl; rfl; simp only [Act.put, List.setIfInBounds_toArray, List.set_cons_succ, List.set_cons_zero])
                simp [bodyPost, results, Tryd.results3, go_sem]
                exact B10
              · have kg := kc.resolve_left kz
                have kz' : ((cS T' 40 : Int) == 0) = false := by simp; omega
                rw [kg]
                go_wp2_with fail
                with_reducible refine PC.mono ?_
                rintro e1 w9 ⟨rfl, hb9⟩
                have HB : Hid (Below w.heap.size w w9 ∧ w9.rangeAt w.heap.size 0 N) := ⟨HW.out.1.trans (hb9.mono HW.out.1.size), range_keepH HW.out.2.1 hb9⟩
                clear hb9 PC
                go_wp2_with (refine wpList_put_new rfl 23 _ _ rfl N rfl rfl M20 lN oN ?_; intro w10 hb10 RZ; simp only [Act.put])
                have B10 : Below w.heap.size w w10 := HB.out.1.trans (hb10.mono HB.out.1.size)
                have R10 := range_keepH HB.out.2 hb10
                with_reducible refine (NU.out _ _).mono ?_
                rintro e1 w11 ⟨rfl, hb11⟩
                replace B10 := B10.trans (hb11.mono B10.size)
                replace RZ := range_keepH RZ hb11
                replace R10 := range_keepH R10 hb11
                clear hb10 hb11
                go_wp2_with first | ((with_reducible refine wpList_load_wantH (ty := 23) w9.heap.size 0 N _ RZ Tryd.underlying23 ?_ lN ?_ ?_ ?_); rfl; rfl; rfl; simp only [Act.put, List.setIfInBounds_toArray, List.set_cons_succ, List.set_cons_zero]) | ((with_reducible refine wpList_load_wantH (ty := 23) w.heap.size 0 N _ R10 Tryd.underlying23 ?_ lN ?_ ?_ ?_); rfl; rfl; rfl; simp only [Act.put, List.setIfInBounds_toArray, List.set_cons_succ, List.set_cons_zero])
                simp [bodyPost, results, Tryd.results3, go_sem]
                exact B10
            · rw [if_neg kc, if_neg kc] at PC
              have kz' : ((cS T' 40 : Int) == 0) = false := by simp; exact fun x => kc (.inl x)
              have kg' : ((cG T' 40 : Int) == 0) = false := by simp; exact fun x => kc (.inr x)
              go_wp2_with fail
              with_reducible refine PC.mono ?_
              rintro e1 w9 ⟨rfl, hb9⟩
              have HB : Hid (Below w.heap.size w w9) := HW.out.1.trans (hb9.mono HW.out.1.size)
              clear hb9 PC
              go_wp2_with (refine wpList_put_new rfl 23 _ _ rfl Dz rfl rfl DZ.out.1.symm (by rw [DZ.out.1]; kernel_rfl) DZ.out.2 ?_; intro w10 hb10 RZ; simp only [Act.put])
              have lD : (Tryd.prog.info? 23).map (·.size) = some Dz.length := by rw [DZ.out.1]; kernel_rfl
              have B10 : Below w.heap.size w w10 := HB.out.trans (hb10.mono HB.out.size)
              with_reducible refine (NU.out _ _).mono ?_
              rintro e1 w11 ⟨rfl, hb11⟩
              replace B10 := B10.trans (hb11.mono B10.size)
              replace RZ := range_keepH RZ hb11
              clear hb10 hb11
              go_wp2_with ((with_reducible refine wpList_load_wantH (ty := 23) w9.heap.size 0 Dz _ RZ Tryd.underlying23 ?_ lD ?_ ?_ ?_); rfl; rfl; rfl; simp only [Act.put, List.setIfInBounds_toArray, List.set_cons_succ, List.set_cons_zero])
              simp [go_sem]
              go_wp2
              simp [bodyPost, results, Tryd.results3, go_sem]
              exact B10
          · have hlt : i < 40 := by omega
            have hlt' : (2 : Int) + (i : Int) < 42 := by omega
            have e2i : ((2 : Int) + (i : Int)).toNat = 2 + i := by omega
            have gy := (HW.out.2.2 (2 + i) (by omega)).1
            obtain ⟨t, ht⟩ : ∃ t : Int, Hid (t = tb T' (2 + i)) := ⟨_, rfl⟩
            have gy2 : wr.cell? ⟨gt, 2 + i, none⟩ = some (.int .u8 t) := by rw [ht.out]; exact gy
            have cs1 : cS T' (i + 1) = cS T' i + (if 97 ≤ t then 1 else 0) := by rw [ht.out]; rfl
            have cg1 : cG T' (i + 1) = cG T' i + (if 65 ≤ t ∧ t < 97 then 1 else 0) := by rw [ht.out]; rfl
            have cl1 := cS_le T' i
            have cl2 := cG_le T' i
            obtain ⟨a, ea⟩ : ∃ a, a = cS T' i := ⟨_, rfl⟩
            obtain ⟨b', eb⟩ : ∃ b', b' = cG T' i := ⟨_, rfl⟩
            rw [← ea] at cs1 cl1 ⊢
            rw [← eb] at cg1 cl2 ⊢
            have a40 : (a : Int) ≤ 40 := by omega
            have b40 : (b' : Int) ≤ 40 := by omega
            clear gy hi ea eb
            by_cases k97 : 97 ≤ t
            · rw [if_pos k97] at cs1
              rw [if_neg (by omega)] at cg1
              have HC : Hid (cS T' (i + 1) = a + 1 ∧ cG T' (i + 1) = b' + 0) := ⟨cs1, cg1⟩
              clear cs1 cg1
              go_wp2
              go_roundg (40 - (i + 1))
              case measure => have := HK.out; omega
              case rel => exact ⟨i + 1, rfl, hlt, by congr 1, by rw [HC.out.1]; congr 1, by rw [HC.out.2]; congr 1, rfl⟩
            · rw [if_neg k97] at cs1
              by_cases k65 : 65 ≤ t
              · rw [if_pos ⟨k65, by omega⟩] at cg1
                have HC : Hid (cS T' (i + 1) = a + 0 ∧ cG T' (i + 1) = b' + 1) := ⟨cs1, cg1⟩
                clear cs1 cg1
                go_wp2
                go_roundg (40 - (i + 1))
                case measure => have := HK.out; omega
                case rel => exact ⟨i + 1, rfl, hlt, by congr 1, by rw [HC.out.1]; congr 1, by rw [HC.out.2]; congr 1, rfl⟩
              · rw [if_neg (by omega)] at cg1
                have HC : Hid (cS T' (i + 1) = a + 0 ∧ cG T' (i + 1) = b' + 0) := ⟨cs1, cg1⟩
                clear cs1 cg1
                go_wp2
                go_roundg (40 - (i + 1))
                case measure => have := HK.out; omega
                case rel => exact ⟨i + 1, rfl, hlt, by congr 1, by rw [HC.out.1]; congr 1, by rw [HC.out.2]; congr 1, rfl⟩
      · have R1 := RT.out h65'
        have F1 := FP.out (v - 65 + 97) (by have := TE.out h65'; rw [if_neg h97] at this; omega)
        have HG : Hid (Rds T' A ∧ T' ≠ T ∧ Below w.heap.size w (W2.setCell ⟨gt, 2 + k, none⟩ (.int .u8 (v - 65 + 97))) ∧ (W2.setCell ⟨gt, 2 + k, none⟩ (.int .u8 (v - 65 + 97))).rangeAt w.heap.size 0 N ∧ Fz (W2.setCell ⟨gt, 2 + k, none⟩ (.int .u8 (v - 65 + 97))) gt 42 (fun j => T'.getD j 0)) := ⟨R1.1, R1.2, HF.out.2.1.setCell o8 _, range_set HF.out.2.2 n8 _, F1⟩
        clear R1 F1 RT FP TE HF
        go_wp2_with first | ((with_reducible refine wpList_load_wantH (ty := 23) bx 0 N _ RX Tryd.underlying23 ?_ lN ?_ ?_ ?_); rfl; rfl; rfl; simp only [Act.put, List.setIfInBounds_toArray, List.set_cons_succ, List.set_cons_zero]) | ((with_reducible refine wpList_load_wantH (ty := 23) w.heap.size 0 N _ RA Tryd.underlying23 ?_ lN ?_ ?_ ?_); rfl; rfl; rfl; simp only [Act.put, List.setIfInBounds_toArray, List.set_cons_succ, List.set_cons_zero]) | ((with_reducible refine wpList_load_wantH (ty := 23) bz 0 N _ RY Tryd.underlying23 ?_ lN ?_ ?_ ?_); rfl; rfl; rfl; simp only [Act.put, List.setIfInBounds_toArray, List.set_cons_succ, List.set_cons_zero])
        refine wp_world (fun W => Below w.heap.size w W ∧ W.rangeAt w.heap.size 0 N ∧ Fz W gt 42 (fun j => T'.getD j 0)) ⟨HG.out.2.2.1, HG.out.2.2.2.1, HG.out.2.2.2.2⟩ ?_
        rintro W3 ⟨B3, R3, F3⟩
        have HR : Hid (Rds T' A ∧ T' ≠ T) := ⟨HG.out.1, HG.out.2.1⟩
        clear HG gc fc RX RY RA B hcv
        have HW : Hid (Below w.heap.size w W3 ∧ W3.rangeAt w.heap.size 0 N ∧ Fz W3 gt 42 (fun j => T'.getD j 0)) := ⟨B3, R3, F3⟩
        clear B3 R3 F3
        go_loopg [13, 14, 15] 40 (fun kk sv gv iv wr => ∃ i : Nat, kk = 40 - i ∧ i ≤ 40 ∧ iv = .int .i64 (2 + (i : Int)) ∧ sv = .int .i64 (cS T' i : Int) ∧ gv = .int .i64 (cG T' i : Int) ∧ wr = W3)
        case atStart => exact ⟨0, rfl, Nat.zero_le _, rfl, rfl, rfl, rfl⟩
        case round =>
          obtain ⟨i, hk, hi, rfl, rfl, rfl, ew⟩ := hrel
          subst ew
          have HK : Hid (gk = 40 - i ∧ i ≤ 40) := ⟨hk, hi⟩
          clear hk
          by_cases h8 : i = 40
          · subst h8
            have ct := Fz.text (cap := cap) (T := T') HW.out.2.2 LT.out (fun j hj => rfl)
            have q1 : decide ((cS T' 40 : Int) = 0) = decide (cS T' 40 = 0) := by by_cases k : cS T' 40 = 0 <;> simp [k]
            have q2 : decide ((cG T' 40 : Int) = 0) = decide (cG T' 40 = 0) := by by_cases k : cG T' 40 = 0 <;> simp [k]
            have PC := P3.out T' _ HR.out.1 HR.out.2 HW.out.1
            by_cases kc : cS T' 40 = 0 ∨ cG T' 40 = 0
            · rw [if_pos kc, if_pos kc] at PC
              by_cases kz : cS T' 40 = 0
              · rw [kz]
                go_wp2_with fail
                with_reducible refine PC.mono ?_
                rintro e1 w9 ⟨rfl, hb9⟩
                have HB : Hid (Below w.heap.size w w9 ∧ w9.rangeAt w.heap.size 0 N) := ⟨HW.out.1.trans (hb9.mono HW.out.1.size), range_keepH HW.out.2.1 hb9⟩
                clear hb9 PC
                go_wp2_with (refine wpList_put_new rfl 23 _ _ rfl N rfl rfl M20 lN oN ?_; intro w10 hb10 RZ; simp only [Act.put])
                have B10 : Below w.heap.size w w10 := HB.out.1.trans (hb10.mono HB.out.1.size)
                have R10 := range_keepH HB.out.2 hb10
                with_reducible refine (NU.out _ _).mono ?_
                rintro e1 w11 ⟨rfl, hb11⟩
                replace B10 := B10.trans (hb11.mono B10.size)
                replace RZ := range_keepH RZ hb11
                replace R10 := range_keepH R10 hb11
                clear hb10 hb11
                go_wp2_with first | ((with_reducible refine wpList_load_wantH (ty := 23) w9.heap.size 0 N _ RZ Tryd.underlying23 ?_ lN ?_ ?_ ?_); rfl; rfl; rfl; simp only [Act.put, List.setIfInBounds_toArray, List.set_cons_succ, List.set_cons_zero]) | ((with_reducible refine wpList_load_wantH (ty := 23) w.heap.size 0 N _ R10 Tryd.underlying23 ?_ lN ?_ ?_ ?_); rfl; rfl; rfl; simp only [Act.put, List.setIfInBounds_toArray, List.set_cons_succ, List.set_cons_zero])
                simp [bodyPost, results, Tryd.results3, go_sem]
                exact B10
              · have kg := kc.resolve_left kz
                have kz' : ((cS T' 40 : Int) == 0) = false := by simp; omega
                rw [kg]
                go_wp2_with fail
                with_reducible refine PC.mono ?_
                rintro e1 w9 ⟨rfl, hb9⟩
                have HB : Hid (Below w.heap.size w w9 ∧ w9.rangeAt w.heap.size 0 N) := ⟨HW.out.1.trans (hb9.mono HW.out.1.size), range_keepH HW.out.2.1 hb9⟩
                clear hb9 PC
                go_wp2_with (refine wpList_put_new rfl 23 _ _ rfl N rfl rfl M20 lN oN ?_; intro w10 hb10 RZ; simp only [Act.put])
                have B10 : Below w.heap.size w w10 := HB.out.1.trans (hb10.mono HB.out.1.size)
                have R10 := range_keepH HB.out.2 hb10
                with_reducible refine (NU.out _ _).mono ?_
                rintro e1 w11 ⟨rfl, hb11⟩
                replace B10 := B10.trans (hb11.mono B10.size)
                replace RZ := range_keepH RZ hb11
                replace R10 := range_keepH R10 hb11
                clear hb10 hb11
                go_wp2_with first | ((with_reducible refine wpList_load_wantH (ty := 23) w9.heap.size 0 N _ RZ Tryd.underlying23 ?_ lN ?_ ?_ ?_); rfl; rfl; rfl; simp only [Act.put, List.setIfInBounds_toArray, List.set_cons_succ, List.set_cons_zero]) | ((with_reducible refine wpList_load_wantH (ty := 23) w.heap.size 0 N _ R10 Tryd.underlying23 ?_ lN ?_ ?_ ?_); rfl; rfl; rfl; simp only [Act.put, List.setIfInBounds_toArray, List.set_cons_succ, List.set_cons_zero])
                simp [bodyPost, results, Tryd.results3, go_sem]
                exact B10
            · rw [if_neg kc, if_neg kc] at PC
              have kz' : ((cS T' 40 : Int) == 0) = false := by simp; exact fun x => kc (.inl x)
              have kg' : ((cG T' 40 : Int) == 0) = false := by simp; exact fun x => kc (.inr x)
              go_wp2_with fail
              with_reducible refine PC.mono ?_
              rintro e1 w9 ⟨rfl, hb9⟩
              have HB : Hid (Below w.heap.size w w9) := HW.out.1.trans (hb9.mono HW.out.1.size)
              clear hb9 PC
              go_wp2_with (refine wpList_put_new rfl 23 _ _ rfl Dz rfl rfl DZ.out.1.symm (by rw [DZ.out.1]; kernel_rfl) DZ.out.2 ?_; intro w10 hb10 RZ; simp only [Act.put])
              have lD : (Tryd.prog.info? 23).map (·.size) = some Dz.length := by rw [DZ.out.1]; kernel_rfl
              have B10 : Below w.heap.size w w10 := HB.out.trans (hb10.mono HB.out.size)
              with_reducible refine (NU.out _ _).mono ?_
              rintro e1 w11 ⟨rfl, hb11⟩
              replace B10 := B10.trans (hb11.mono B10.size)
              replace RZ := range_keepH RZ hb11
              clear hb10 hb11
              go_wp2_with ((with_reducible refine wpList_load_wantH (ty := 23) w9.heap.size 0 Dz _ RZ Tryd.underlying23 ?_ lD ?_ ?_ ?_); rfl; rfl; rfl; simp only [Act.put, List.setIfInBounds_toArray, List.set_cons_succ, List.set_cons_zero])
              simp [go_sem]
              go_wp2
              simp [bodyPost, results, Tryd.results3, go_sem]
              exact B10
          · have hlt : i < 40 := by omega
            have hlt' : (2 : Int) + (i : Int) < 42 := by omega
            have e2i : ((2 : Int) + (i : Int)).toNat = 2 + i := by omega
            have gy := (HW.out.2.2 (2 + i) (by omega)).1
            obtain ⟨t, ht⟩ : ∃ t : Int, Hid (t = tb T' (2 + i)) := ⟨_, rfl⟩
            have gy2 : wr.cell? ⟨gt, 2 + i, none⟩ = some (.int .u8 t) := by rw [ht.out]; exact gy
            have cs1 : cS T' (i + 1) = cS T' i + (if 97 ≤ t then 1 else 0) := by rw [ht.out]; rfl
            have cg1 : cG T' (i + 1) = cG T' i + (if 65 ≤ t ∧ t < 97 then 1 else 0) := by rw [ht.out]; rfl
            have cl1 := cS_le T' i
            have cl2 := cG_le T' i
            obtain ⟨a, ea⟩ : ∃ a, a = cS T' i := ⟨_, rfl⟩
            obtain ⟨b', eb⟩ : ∃ b', b' = cG T' i := ⟨_, rfl⟩
            rw [← ea] at cs1 cl1 ⊢
            rw [← eb] at cg1 cl2 ⊢
            have a40 : (a : Int) ≤ 40 := by omega
            have b40 : (b' : Int) ≤ 40 := by omega
            clear gy hi ea eb
            by_cases k97 : 97 ≤ t
            · rw [if_pos k97] at cs1
              rw [if_neg (by omega)] at cg1
              have HC : Hid (cS T' (i + 1) = a + 1 ∧ cG T' (i + 1) = b' + 0) := ⟨cs1, cg1⟩
              clear cs1 cg1
              go_wp2
              go_roundg (40 - (i + 1))
              case measure => have := HK.out; omega
              case rel => exact ⟨i + 1, rfl, hlt, by congr 1, by rw [HC.out.1]; congr 1, by rw [HC.out.2]; congr 1, rfl⟩
            · rw [if_neg k97] at cs1
              by_cases k65 : 65 ≤ t
              · rw [if_pos ⟨k65, by omega⟩] at cg1
                have HC : Hid (cS T' (i + 1) = a + 0 ∧ cG T' (i + 1) = b' + 1) := ⟨cs1, cg1⟩
                clear cs1 cg1
                go_wp2
                go_roundg (40 - (i + 1))
                case measure => have := HK.out; omega
                case rel => exact ⟨i + 1, rfl, hlt, by congr 1, by rw [HC.out.1]; congr 1, by rw [HC.out.2]; congr 1, rfl⟩
              · rw [if_neg (by omega)] at cg1
                have HC : Hid (cS T' (i + 1) = a + 0 ∧ cG T' (i + 1) = b' + 0) := ⟨cs1, cg1⟩
                clear cs1 cg1
                go_wp2
                go_roundg (40 - (i + 1))
                case measure => have := HK.out; omega
                case rel => exact ⟨i + 1, rfl, hlt, by congr 1, by rw [HC.out.1]; congr 1, by rw [HC.out.2]; congr 1, rfl⟩
end Go.Proofs.YtidchaaahgnabaaDoor

import Derived.Test.YtncpjgpioajbeaaGreatDoorSRHb
namespace Go.Proofs.YtncpjgpioajbeaaGreatDoor.S
open Go.RowKit Go.Sort

theorem mask_take {K : List (BitVec 8)} {m : BitVec 8} {i : Nat} (h : i < K.length) : maskL (K.take (i + 1)) m = maskL (K.take i) m ++ [K.getD i 0 ^^^ m] := by
  rw [take_snoc h, maskL, List.map_append]; rfl
set_option maxRecDepth 100000 in
set_option maxHeartbeats 8000000 in
theorem rhmac_mid {a : Option Addr} {bp op cp br b0 : Nat} {PS : List Part} {K1 : List (BitVec 8)} {kv : Value} (hs : (catX PS).length < 1073730000) (hn : PS.length ≤ 1073730000) (ha : PS = [] ∨ a = some ⟨bp, op, none⟩) (w W : World)
    (hPK : ∀ W', Below w.heap.size w W' → Prts W' bp op PS) (gr : w.heap.size ≤ br) (hT : Tw w W br b0 (.slice none 0 0) kv (.slice none 0 0) [] K1 []) (lK : K1.length ≤ 64) (t0 t2 t3 t6 t7 t8 t9 t10 t11 t12 t13 t14 t15 t16 t17 t18 t19 t20 t21 t22 t23 t24 t25 t26 t27 t28 t29 t30 t31 t32 t33 t34 t35 t36 t37 t38 t39 t40 t41 t42 t43 t44 t45 t46 t47 t48 t49 t50 t51 t52 t53 t54 t55 t56 t57 t58 t59 t60 : Value) :
    WpFrom Tryz.prog Tryz.f121 3 (bodyPost Tryz.prog Tryz.f121 fun e w' => e = .returned (.agg (byts (shaL (maskL (K1 ++ List.replicate (64 - K1.length) 0) 92 ++ shaL (maskL (K1 ++ List.replicate (64 - K1.length) 0) 54 ++ catX PS)))).toArray) ∧ Below w.heap.size w w') { tmps := #[t0, .slice a PS.length cp, t2, t3, .pointer (some ⟨br, 0, none⟩), kv, t6, t7, t8, t9, t10, t11, t12, t13, t14, t15, t16, t17, t18, t19, t20, t21, t22, t23, t24, t25, t26, t27, t28, t29, t30, t31, t32, t33, t34, t35, t36, t37, t38, t39, t40, t41, t42, t43, t44, t45, t46, t47, t48, t49, t50, t51, t52, t53, t54, t55, t56, t57, t58, t59, t60], defers := [] } W := by
  refine WpFrom.intro rfl ?_
  obtain ⟨i0, hi, hz0, hz1, hz2⟩ := info_parts info_byte
  have HZ : Hid (Tryz.prog.info? 5 = some i0 ∧ i0.zero = some (.int .u8 0) ∧ i0.size = 1 ∧ i0.bytes = 1) := ⟨hi, hz0, hz1, hz2⟩
  have HA : Hid ((catX PS).length < 1073730000 ∧ PS.length ≤ 1073730000 ∧ (PS = [] ∨ a = some ⟨bp, op, none⟩) ∧ (∀ W', Below w.heap.size w W' → Prts W' bp op PS) ∧ w.heap.size ≤ br) := ⟨hs, hn, ha, hPK, gr⟩
  have HL : Hid (K1.length ≤ 64) := lK
  have HW : Hid (Tw w W br b0 (.slice none 0 0) kv (.slice none 0 0) [] K1 []) := hT
  have yz : Hid (Y 0 = 0) := Y_zero
  clear hs hn ha hPK gr hT lK hi hz0 hz1 hz2
  refine wp_seq_k fun KA kk => ?_
  have H0 : Hid _ := kk
  clear kk
  go_wp2_with fail
  go_loopg [5] (64 - K1.length) (fun g lv wr => ∃ (j : Nat) (a' : Option Addr) (c' : Nat), g = 64 - K1.length - j ∧ j ≤ 64 - K1.length ∧ lv = .slice a' (K1.length + j) c' ∧ Tw w wr br b0 (.slice none 0 0) lv (.slice none 0 0) [] (K1 ++ List.replicate j 0) [])
  case atStart =>
    obtain ⟨a', _, c', e, _⟩ := HW.out.i.liesH
    exact ⟨0, a', c', rfl, Nat.zero_le _, e, by rw [List.replicate_zero, List.append_nil]; exact HW.out⟩
  case round =>
    obtain ⟨j, a', c', hk, hj, rfl, hT⟩ := hrel
    have HK : Hid (gk = 64 - K1.length - j ∧ j ≤ 64 - K1.length) := ⟨hk, hj⟩
    have HT : Hid (Tw w wr br b0 (.slice none 0 0) (.slice a' (K1.length + j) c') (.slice none 0 0) [] (K1 ++ List.replicate j 0) []) := hT
    clear hk hj hT
    by_cases h8 : K1.length + j < 64
    · have q1 : ((K1.length : Int) + (j : Int)) < 64 := by omega
      have hO : Hid (wr.ownsRow b0 5 1 (.slice a' (K1.length + j) c') (K1.length + j) (byts (K1 ++ List.replicate j 0))) := by
        have := HT.out.i.row
        rw [List.length_append, List.length_replicate] at this
        exact this
      have LR : Hid (K1.length + j < 64) := h8
      go_wp2_with ((at_builtin; go_loud (refine wpList_append_own_at _ rfl _ _ 76 rfl b0 5 i0 (.int .u8 0) 1 1 Tryz.underlying76 HZ.out.1 HZ.out.2.1 HZ.out.2.2.1 HZ.out.2.2.2 rfl (by decide) (.slice a' (K1.length + j) c') _ _ rfl (hO.out.alloc _) ⟨wr.heap.size, 0, none⟩ 1 1 [.int .u8 0] rfl rfl (cell_one_new _ _ _) (fun u hu => by simp at hu; subst hu; rfl) (by unfold maxLen; have := LR.out; omega) (by have := LR.out; omega) (by have := HT.out.hi; simp; omega) ?_); intro v' w3 hown' hgrow3 hnil3 hblk))
      have HO : Hid (Tw w w3 br b0 (.slice none 0 0) v' (.slice none 0 0) [] (K1 ++ List.replicate (j + 1) 0) []) := by
        rw [List.replicate_succ', ← List.append_assoc]
        refine HT.out.push (x := 0) ?_ hgrow3 hblk
        rw [yz.out, List.length_append, List.length_replicate]
        exact hown'
      obtain ⟨a3, _, c3, e3, _⟩ := HO.out.i.liesH
      rw [List.length_append, List.length_replicate] at e3
      clear hown' hgrow3 hnil3 hblk hO
      subst e3
      go_roundg (64 - K1.length - (j + 1))
      case measure => have := HK.out; have := LR.out; omega
      case rel => exact ⟨j + 1, a3, c3, rfl, by have := LR.out; omega, rfl, HO.out⟩
    · have q1 : ¬ ((K1.length : Int) + (j : Int)) < 64 := by omega
      have ej : j = 64 - K1.length := by have := HK.out; have := HL.out; omega
      subst ej
      have lK : (K1 ++ List.replicate (64 - K1.length) (0 : BitVec 8)).length = 64 := by rw [List.length_append, List.length_replicate]; have := HL.out; omega
      have e64 : K1.length + (64 - K1.length) = 64 := by have := HL.out; omega
      rw [e64] at HT
      have e64' : (K1.length : Int) + ((64 - K1.length : Nat) : Int) = 64 := by have := HL.out; omega
      go_wp2
      refine H0.out _ _ ?_
      clear H0 e64 e64'
      obtain ⟨K, eK⟩ : ∃ K, K = K1 ++ List.replicate (64 - K1.length) (0 : BitVec 8) := ⟨_, rfl⟩
      rw [← eK] at HT lK ⊢
      have HKK : Hid (K.length = 64) := lK
      have HT2 : Hid (Tw w wr br b0 (.slice a' 64 c') (.slice none 0 0) (.slice none 0 0) K (maskL (K.take 0) 54) (maskL (K.take 0) 92)) :=
        ⟨HT.out.B, HT.out.h, HT.out.lo, HT.out.hi, HT.out.lw, HT.out.i, HT.out.k, HT.out.o, (fun b _ e => nomatch e), (fun b _ e => nomatch e), (fun b e => nomatch e)⟩
      obtain ⟨gk2, ck, ef, hck⟩ := own_form HT2.out.k (by rw [lK]; decide)
      have ea : a' = some ⟨gk2, 0, none⟩ := by injection ef
      subst ea
      clear ef hck eK HT q1 h8
      refine wp_seq_k fun KB kk => ?_
      have H1 : Hid _ := kk
      clear kk
      go_wp2
      refine H1.out _ _ ?_
      clear H1
      refine wp_seq_k fun KC kk => ?_
      have H2 : Hid _ := kk
      clear kk
      go_wp2
      refine H2.out _ _ ?_
      clear H2
      refine wp_seq_k fun KD kk => ?_
      have H3 : Hid _ := kk
      clear kk
      go_wp2_with fail
      go_loopg [7, 8, 9] 64 (fun g iv ov nv wq => ∃ i : Nat, g = 64 - i ∧ i ≤ 64 ∧ nv = .int .i64 i ∧ Tw w wq br b0 (.slice (some ⟨gk2, 0, none⟩) 64 c') iv ov K (maskL (K.take i) 54) (maskL (K.take i) 92))
      case atStart => exact ⟨0, rfl, by decide, rfl, HT2.out⟩
      case round =>
        clear HT2 lK
        obtain ⟨i, hk, hi, rfl, hT⟩ := hrel
        have HN : Hid (gk = 64 - i ∧ i ≤ 64) := ⟨hk, hi⟩
        have HT : Hid (Tw w wr br b0 (.slice (some ⟨gk2, 0, none⟩) 64 c') u7 u8 K (maskL (K.take i) 54) (maskL (K.take i) 92)) := hT
        clear hk hi hT
        by_cases h9 : i < 64
        · have h9' : (i : Int) < 64 := by omega
          have LI : Hid (i < 64 ∧ (maskL (K.take i) 54).length = i ∧ (maskL (K.take i) 92).length = i) := ⟨h9, by rw [maskL_len, List.length_take, HKK.out]; omega, by rw [maskL_len, List.length_take, HKK.out]; omega⟩
          have cellK : ∀ {W' : World} {iv ov : Value} {I O : List (BitVec 8)}, Tw w W' br b0 (.slice (some ⟨gk2, 0, none⟩) 64 c') iv ov K I O → W'.cell? ⟨gk2, i, none⟩ = some (.int .u8 (Y (K.getD i 0))) := fun t => by
            have hr := t.k.row
            rw [HKK.out] at hr
            rw [hr.cellAt i h9, byts, List.getElem?_map, List.getElem?_eq_getElem (by rw [HKK.out]; exact h9), List.getD, List.getElem?_eq_getElem (by rw [HKK.out]; exact h9)]; rfl
          have CK : Hid (∀ {W' : World} {iv ov : Value} {I O : List (BitVec 8)}, Tw w W' br b0 (.slice (some ⟨gk2, 0, none⟩) 64 c') iv ov K I O → W'.cell? ⟨gk2, i, none⟩ = some (.int .u8 (Y (K.getD i 0)))) := cellK
          clear cellK
          have gx := CK.out HT.out
          have M1 : Hid (maskL (K.take (i + 1)) 54 = maskL (K.take i) 54 ++ [K.getD i 0 ^^^ 54] ∧ maskL (K.take (i + 1)) 92 = maskL (K.take i) 92 ++ [K.getD i 0 ^^^ 92]) := ⟨mask_take (by rw [HKK.out]; exact h9), mask_take (by rw [HKK.out]; exact h9)⟩
          have y1 : bits .xor .u8 (Y (K.getD i 0)) 54 = Y (K.getD i 0 ^^^ 54) := by
            have := Y_xor (K.getD i 0) 54
            rw [show Y 54 = 54 by rw [Y_eq]; rfl] at this
            exact this
          have y2 : bits .xor .u8 (Y (K.getD i 0)) 92 = Y (K.getD i 0 ^^^ 92) := by
            have := Y_xor (K.getD i 0) 92
            rw [show Y 92 = 92 by rw [Y_eq]; rfl] at this
            exact this
          generalize K.getD i 0 = x at *
          go_wp2_with first | ((at_builtin; (refine wpList_append_own_at _ rfl _ _ 76 rfl b0 5 i0 (.int .u8 0) 1 1 Tryz.underlying76 HZ.out.1 HZ.out.2.1 HZ.out.2.2.1 HZ.out.2.2.2 rfl (by decide) u7 _ _ rfl (HT.out.i.row.alloc _) ⟨wr.heap.size, 0, none⟩ 1 1 [.int .u8 (Y (x ^^^ 54))] rfl rfl (cell_one_new _ _ _) (fun u hu => by simp at hu; subst hu; rfl) (by unfold maxLen; have := LI.out; omega) (by have := LI.out; omega) (by have := HT.out.hi; simp; omega) ?_); intro v7 w7 hown7 hgrow7 hnil7 hblk7; (have HT7 : Hid (Tw w w7 br b0 (.slice (some ⟨gk2, 0, none⟩) 64 c') v7 u8 K (maskL (K.take i) 54 ++ [x ^^^ 54]) (maskL (K.take i) 92)) := HT.out.push hown7 hgrow7 hblk7); (have gx7 := CK.out HT7.out); (clear hown7 hgrow7 hnil7 hblk7 gx))) | ((at_builtin; (refine wpList_append_own_at _ rfl _ _ 76 rfl b0 5 i0 (.int .u8 0) 1 1 Tryz.underlying76 HZ.out.1 HZ.out.2.1 HZ.out.2.2.1 HZ.out.2.2.2 rfl (by decide) u8 _ _ rfl (HT7.out.o.row.alloc _) ⟨w7.heap.size, 0, none⟩ 1 1 [.int .u8 (Y (x ^^^ 92))] rfl rfl (cell_one_new _ _ _) (fun u hu => by simp at hu; subst hu; rfl) (by unfold maxLen; have := LI.out; omega) (by have := LI.out; omega) (by have := HT7.out.hi; simp; omega) ?_); intro v8 w8 hown8 hgrow8 hnil8 hblk8; (have HT8 : Hid (Tw w w8 br b0 (.slice (some ⟨gk2, 0, none⟩) 64 c') v7 v8 K (maskL (K.take i) 54 ++ [x ^^^ 54]) (maskL (K.take i) 92 ++ [x ^^^ 92])) := (HT7.out.swap.push hown8 hgrow8 hblk8).swap); (clear hown8 hgrow8 hnil8 hblk8 gx7)))
          go_roundg (64 - (i + 1))
          case measure => have := HN.out; have := LI.out; omega
          case rel => exact ⟨i + 1, rfl, LI.out.1, by go_num, by rw [M1.out.1, M1.out.2]; exact HT8.out⟩
        · have h9' : ¬ (i : Int) < 64 := by omega
          obtain rfl : i = 64 := by have := HN.out; omega
          have eT : Hid (K.take 64 = K) := by rw [← HKK.out]; exact List.take_length
          rw [eT.out] at HT
          have lI : (maskL K 54).length = 64 := by rw [maskL_len, HKK.out]
          have lO : (maskL K 92).length = 64 := by rw [maskL_len, HKK.out]
          obtain ⟨gi, ci, rfl, hci⟩ := own_form HT.out.i (by rw [lI]; decide)
          obtain ⟨go, co, rfl, hco⟩ := own_form HT.out.o (by rw [lO]; decide)
          obtain ⟨ai, gi', ci', ei, _, yi, _⟩ := HT.out.i.liesH
          obtain ⟨ao, go', co', eo, _, yo, _⟩ := HT.out.o.liesH
          have egi : gi = gi' := by
            rcases ‹At ai gi' 0 (maskL K 54)› with h | h
            · rw [h] at lI; cases lI
            · rw [h] at ei; injection ei with e1; injection e1 with e1; injection e1
          have ego : go = go' := by
            rcases ‹At ao go' 0 (maskL K 92)› with h | h
            · rw [h] at lO; cases lO
            · rw [h] at eo; injection eo with e1; injection e1 with e1; injection e1
          subst egi ego
          have HE : Hid (Byo wr gi 0 (maskL K 54) ∧ 64 ≤ ci ∧ Byo wr go 0 (maskL K 92) ∧ 64 ≤ co ∧ (maskL K 54).length = 64 ∧ (maskL K 92).length = 64) := ⟨yi, by omega, yo, by omega, lI, lO⟩
          rw [lI, lO]
          clear yi yo ei eo hci hco lI lO h9 h9'
          go_wp2
          refine H3.out _ _ ?_
          clear H3
          exact (rhmac_end HA.out.1 HA.out.2.1 HA.out.2.2.1 w _ HA.out.2.2.2.1 HT.out.B HT.out.h HA.out.2.2.2.2 HE.out.1 HE.out.2.2.2.2.1 HE.out.2.1 HE.out.2.2.1 HE.out.2.2.2.2.2 HE.out.2.2.2.1 _ _ _ _ _ _ _ _ _ _ _ _ _ _ _ _ _ _ _ _ _ _ _ _ _ _ _ _ _ _ _ _ _ _ _ _ _ _ _ _ _ _ _ _ _ _ _ _ _ _ _ _ _ _ _ _ _).out rfl
end Go.Proofs.YtncpjgpioajbeaaGreatDoor.S

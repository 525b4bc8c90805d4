import Derived.Test.YtcjabligkeaafaaDoorRbA
/- Layer 17: receipt.BloomOf. -/
namespace Go.Proofs.YtcjabligkeaafaaDoor.tq
open Go.RowKit Go.Sort
theorem bl_next {ls : List Lg} {i : Nat} (h : i < ls.length) : blL (ls.take (i + 1)) = stF (blL (ls.take i)) (txL (ls.getD i zLg)) := by
  have e : ls.take (i + 1) = ls.take i ++ [ls.getD i zLg] := by rw [List.take_add_one, List.getElem?_eq_getElem h, List.getD, List.getElem?_eq_getElem h]; rfl
  unfold blL
  rw [e, List.flatMap_append, stF_app]
  simp [List.flatMap]
set_option maxRecDepth 100000 in
set_option maxHeartbeats 16000000 in
theorem bloomOf_any {a : Option Addr} {b o c : Nat} {ls : List Lg} (hn : ls.length < 1000000000) (hT : ∀ i, i < ls.length → (ls.getD i zLg).Tl.length < 1000000000) (w : World) (hG : LsG w a b o c ls) (hk : S.KtB w) :
    Calls Tryd.prog 4 #[.slice a ls.length c] w fun e w' => e = .returned (.agg (S.byts (blL ls)).toArray) ∧ Below w.heap.size w w' := by
  have GR : Hid (∀ V, Below w.heap.size w V → LsG V a b o c ls) := fun V B => hG.keep B
  have KT : Hid (∀ V, Below w.heap.size w V → S.KtB V) := fun V B => hk.keep B
  have HT : Hid (∀ i, i < ls.length → (ls.getD i zLg).Tl.length < 1000000000) := hT
  have AA : Hid (ls = [] ∨ a = some ⟨b, o, none⟩) := hG.2.1
  have n1 : (ls.length : Int) < 1000000000 := by omega
  obtain ⟨n, en⟩ : ∃ n, n = ls.length := ⟨_, rfl⟩
  have EN : Hid (ls.length = n) := en.symm
  rw [← en] at n1 ⊢
  clear hn hT hG hk en
  go_enter Tryd.func4, Tryd.ntmps4
  go_wp2_with (refine S.wpList_alloc_zero rfl 28 rfl _ S.zero_bloom ?_)
  refine wp_world (fun W => Below w.heap.size w W ∧ S.Blm W w.heap.size S.zF ∧ S.Blm W (w.heap.size + 1) S.zF) ⟨((Below.refl _ _).alloc (Nat.le_refl _) _).alloc (by simp) _, (S.Blm.new S.zF_len _ rfl).alloc _, S.Blm.new S.zF_len _ (by simp)⟩ ?_
  rintro W ⟨B, hR, hF⟩
  have o1 : w.heap.size ≤ w.heap.size + 1 := by omega
  have c1 : w.heap.size ≠ w.heap.size + 1 := by omega
  generalize w.heap.size + 1 = b3 at *
  have O3 : Hid (w.heap.size ≤ b3 ∧ w.heap.size ≠ b3) := ⟨o1, c1⟩
  clear o1 c1
  go_loopg [10] n (fun k iv wr => ∃ i : Nat, k = n - i ∧ i ≤ n ∧ iv = .int .i64 (i : Int) ∧ Below w.heap.size w wr ∧ S.Blm wr w.heap.size S.zF ∧ S.Blm wr b3 (blL (ls.take i)))
  case atStart => exact ⟨0, rfl, Nat.zero_le _, rfl, B, hR, hF⟩
  case round =>
    clear B hR hF
    obtain ⟨i, hk, hi, rfl, B, hR, hF⟩ := hrel
    have HK : Hid (gk = n - i) := hk
    clear hk
    by_cases h8 : i = n
    · subst h8
      have tk : ls.take i = ls := by rw [← EN.out, List.take_length]
      rw [tk] at hF
      have rb := hF.range
      have ic := S.size_bloom hF.1
      have ia := S.size_bloomA hF.1
      have oc := S.one_byts (blL ls)
      obtain ⟨N, hN⟩ : ∃ N, N = S.byts (blL ls) := ⟨_, rfl⟩
      have HN : Hid (N = S.byts (blL ls) ∧ N.length = 256) := ⟨hN, by rw [hN, S.byts_len]; exact hF.1⟩
      rw [← hN] at rb ic ia oc
      have sz : N.toArray.size = 256 := by simp [HN.out.2]
      have tr : wr.there w.heap.size 0 N.toArray.size := by rw [sz]; exact hR.there
      clear HK hN hF hR tk hi
      go_wp2_with (first | refine wpList_load_mid rfl 28 _ rfl b3 0 rfl N _ rb Tryd.underlying28 rfl ic ?_ | refine wpList_store_mid rfl 28 _ _ rfl w.heap.size 0 _ rfl rfl tr ia oc ?_)
      have ld := run_loadVar_mid (P := Tryd.prog) (wr.setCells w.heap.size 0 N) w.heap.size 0 28 N _ (World.rangeAt_setCells_same _ _ _ _ (by simpa using tr)) Tryd.underlying28 rfl ic
      refine bodyPost_ret (v := .agg N.toArray) ?_ rfl ⟨by rw [HN.out.1], below_setCells (Nat.le_refl _) N 0 wr B⟩
      simp [results, Tryd.results4, Act.put, asAddr, ld]
    · have hlt : i < n := by omega
      have hlt' : (i : Int) < (n : Int) := by omega
      obtain rfl : a = some ⟨b, o, none⟩ := by
        rcases AA.out with e | e
        · have := EN.out; rw [e] at this; simp at this; omega
        · exact e
      obtain ⟨gl, r1⟩ := (GR.out _ B).2.2 i (by rw [EN.out]; exact hlt)
      have NXO : Hid (blL (ls.take (i + 1)) = stF (blL (ls.take i)) (txL (ls.getD i zLg))) := bl_next (by rw [EN.out]; exact hlt)
      have L9 := HT.out i (by rw [EN.out]; exact hlt)
      have CL : Hid ((lgC (ls.getD i zLg)).length = 22 ∧ ∀ u ∈ lgC (ls.getD i zLg), u.oneCell' = true) := ⟨lgC_len gl.adr.1, lgC_one _⟩
      have PT : Hid (∀ (W : World) (g : Nat), W.rangeAt g 0 (lgC (ls.getD i zLg)) → W.rangeAt g 0 (hC (ls.getD i zLg).adr) ∧ W.cell? ⟨g, 20, none⟩ = some (.slice (ls.getD i zLg).Ta (ls.getD i zLg).Tl.length (ls.getD i zLg).Tc)) := fun W g h => by
        have := lg_parts gl.adr.1 h
        simpa using ⟨this.1, this.2.1⟩
      have XL : Hid ((ls.getD i zLg).adr.length = 20 ∧ Bys (ls.getD i zLg).adr) := gl.adr
      have GT : Hid (∀ V, Below w.heap.size w V → KsG V (ls.getD i zLg).Ta (ls.getD i zLg).Tb (ls.getD i zLg).To (ls.getD i zLg).Tc (ls.getD i zLg).Tl) := fun V bV => ((GR.out V bV).2.2 i (by rw [EN.out]; exact hlt)).1.T
      have LF : Hid ((blL (ls.take i)).length = 256) := blL_len _
      clear gl hi h8
      have TX : Hid (txL (ls.getD i zLg) = (ls.getD i zLg).adr :: (ls.getD i zLg).Tl) := rfl
      generalize txL (ls.getD i zLg) = tx at *
      generalize lgC (ls.getD i zLg) = cs at *
      generalize (ls.getD i zLg).Ta = Ta at *
      generalize (ls.getD i zLg).Tb = Tb at *
      generalize (ls.getD i zLg).To = To at *
      generalize (ls.getD i zLg).Tc = Tc at *
      generalize (ls.getD i zLg).Tl = Tl at *
      generalize (ls.getD i zLg).adr = adr at *
      generalize blL (ls.take i) = F0 at *
      obtain ⟨m, em⟩ : ∃ m, m = Tl.length := ⟨_, rfl⟩
      have EM : Hid (Tl.length = m) := em.symm
      rw [← em] at L9 PT
      have m1 : (m : Int) < 1000000000 := by omega
      clear em L9
      go_wp2_with first
        | (refine wpList_load_midT rfl 33 _ rfl b (o + i * 22) rfl cs _ r1 Tryd.underlying33 rfl (by rw [CL.out.1]; exact size_lg) ?_)
        | (refine wpList_allocT rfl 33 rfl (some 5) rfl 22 72 rI_g ?_; intro b5 W5 h5 B5 t5)
        | (refine wpList_storeT rfl 33 _ _ rfl b5 cs rfl rfl (by rw [CL.out.1]; exact t5) (by rw [CL.out.1]; exact size_lg) CL.out.2 ?_; intro W6 u9 q6 t9)
      have B16 : Below wr.heap.size wr W6 := u9.below (by have := h5.out; omega) B5
      have ne5 : Hid (b5 ≠ b3 ∧ w.heap.size ≤ b5) := (show _ ∧ _ by have := h5.out; have := hF.lt; have := B.size; omega)
      replace B := B.trans (B16.mono B.size)
      replace hR := hR.keep B16
      replace hF := hF.keep B16
      obtain ⟨q5, c20⟩ := PT.out W6 b5 q6
      clear q6 t9 u9 t5 B5 h5 r1 B16 PT
      obtain ⟨F1, hF1⟩ : ∃ F, F = S.setsF F0 (plX adr) := ⟨_, rfl⟩
      have NXT : Hid (S.setsF F0 (plX adr) = F1) := hF1.symm
      have LEN : Hid (F1.length = 256) := by show _ = _; rw [hF1]; exact S.setsF_len _ LF.out
      have E1 : Hid (F1 = stF F0 [adr]) := by show _ = _; rw [hF1]; rfl
      clear hF1
      have rb : ∀ w', (∃ p : Regrown, w' = grow (redrawn W6 p.d) p.os) → w'.rangeAt b3 0 (S.byts F0) := by rintro w' ⟨p, rfl⟩; exact (hF.grown _ _).range
      have ic := S.size_bloom hF.1
      have RC : Hid (∀ d os, Calls Tryd.prog 8 #[.agg (S.byts F0).toArray, .slice (some ⟨b5, 0, none⟩) 20 20] (grow (redrawn W6 d) os) fun e w' => e = .returned (.agg (S.byts F1).toArray) ∧ Below (grow (redrawn W6 d) os).heap.size (grow (redrawn W6 d) os) w') := fun d os => by
        have bg := below_regrown W6 d os
        have h := add_I (F := F0) (c := 20) (n := 20) hF.1 XL.out.1 (by decide) XL.out.2 (Nat.le_refl _) (range_keep q5 bg) ((KT.out _ B).keep bg)
        rw [NXT.out] at h; exact h
      have KK : Hid (∀ d os, Below w.heap.size w (grow (redrawn W6 d) os) ∧ S.Blm (grow (redrawn W6 d) os) w.heap.size S.zF ∧ S.Blm (grow (redrawn W6 d) os) b3 F0 ∧ Below W6.heap.size W6 (grow (redrawn W6 d) os)) := fun d os => ⟨B.trans ((below_regrown W6 d os).mono B.size), hR.grown d os, hF.grown d os, below_regrown W6 d os⟩
      clear hF hR B
      go_wp2_with fail
      try simp only [Act.put, List.setIfInBounds_toArray, List.set_cons_succ, List.set_cons_zero]
      refine below_tail 4 (by kernel_rfl) (by kernel_rfl) ?_
      simp only [List.take_succ_cons, List.take_zero, List.drop_succ_cons, List.drop_zero]
      repeat
        first
          | go_big_quiet_skip
          | (go_big_quiet_want; go_big_quiet_op; go_big_quiet_on)
          | (go_big_quiet_want; refine S.quiet_load_mid 28 _ rfl b3 0 rfl (S.byts F0) _ rb Tryd.underlying28 rfl ic ?_; simp only [Act.put, List.setIfInBounds_toArray, List.set_cons_succ, List.set_cons_zero]; go_big_quiet_on)
          | (go_big_quiet_want
             go_big_quiet_op
             apply Exists.intro
             refine ⟨fun p => ?_, ?_⟩
             · (go_at_call 8; with_reducible exact Calls.regrown_of (RC.out p.d p.os))
             go_big_quiet_on)
      refine wpQuiet_nil ?_
      rintro w4 ⟨p, rfl⟩
      obtain ⟨B4, R4, F4, G4⟩ := KK.out p.d p.os
      generalize grow (redrawn W6 p.d) p.os = w4 at *
      have lS : F1.length = 256 := LEN.out
      have ia := S.size_bloomA lS
      have oc := S.one_byts F1
      have NX : Hid (Below w.heap.size w (w4.setCells b3 0 (S.byts F1)) ∧ S.Blm (w4.setCells b3 0 (S.byts F1)) w.heap.size S.zF ∧ S.Blm (w4.setCells b3 0 (S.byts F1)) b3 F1 ∧ (w4.setCells b3 0 (S.byts F1)).cell? ⟨b5, 20, none⟩ = some (.slice Ta m Tc)) := ⟨below_setCells O3.out.1 _ 0 w4 B4, R4.otherCells (Ne.symm O3.out.2) _, F4.stored lS, (World.cell?_of_block (w := w4) (a := ⟨b5, 20, none⟩) (heap_setsT ne5.out.1 _ _ _)).trans (cell_keep G4 c20)⟩
      have sz : (S.byts F1).toArray.size = 256 := by rw [List.size_toArray, S.byts_len, lS]
      have tr' : w4.there b3 0 (S.byts F1).toArray.size := by rw [sz]; exact F4.there
      clear KK RC rb ic B4 R4 F4 lS
      go_wp2_with ((refine wpList_store_mid rfl 28 _ _ rfl b3 0 _ rfl rfl tr' ia oc ?_); (refine wpList_worldA (fun W => Below w.heap.size w W ∧ S.Blm W w.heap.size S.zF ∧ S.Blm W b3 F1 ∧ W.cell? ⟨b5, 20, none⟩ = some (.slice Ta m Tc)) NX.out ?_); (rintro V0 ⟨B, hR, hF, c20⟩))
      clear tr' oc ia sz q5 NXT G4 NX w4
      go_loopg [21] m (fun k iv wv => ∃ jj : Nat, k = m - jj ∧ jj ≤ m ∧ iv = .int .i64 (jj : Int) ∧ Below w.heap.size w wv ∧ S.Blm wv w.heap.size S.zF ∧ S.Blm wv b3 (stF F0 (adr :: Tl.take jj)))
      case atStart => exact ⟨0, rfl, Nat.zero_le _, rfl, B, hR, by rw [List.take_zero, ← E1.out]; exact hF⟩
      case round =>
        clear B hR hF c20
        obtain ⟨jj, hk2, hj, rfl, B, hR, hF⟩ := hrel
        have HK2 : Hid (gk = m - jj) := hk2
        clear hk2
        by_cases h9 : jj = m
        · subst h9
          have tk : Tl.take jj = Tl := by rw [← EM.out, List.take_length]
          have HF : Hid (Below w.heap.size w wr ∧ S.Blm wr w.heap.size S.zF ∧ S.Blm wr b3 (blL (ls.take (i + 1)))) := ⟨B, hR, by rw [NXO.out, TX.out, ← tk]; exact hF⟩
          clear HK2 B hR hF tk hj
          go_wp2
          go_roundg (n - (i + 1))
          case measure => have := HK.out; omega
          case rel => exact ⟨i + 1, rfl, hlt, by go_num, HF.out⟩
        · have hlj : jj < m := by omega
          have hlj' : (jj : Int) < (m : Int) := by omega
          have gt := GT.out _ B
          obtain rfl : Ta = some ⟨Tb, To, none⟩ := by
            rcases gt.2.1 with e | e
            · have := EM.out; rw [e] at this; simp at this; omega
            · exact e
          obtain ⟨XH, r1⟩ := gt.2.2 jj (by rw [EM.out]; exact hlj)
          have tn : Hid (stF F0 (adr :: Tl.take (jj + 1)) = S.setsF (stF F0 (adr :: Tl.take jj)) (plX (Tl.getD jj []))) := by
            show _ = _
            have e : Tl.take (jj + 1) = Tl.take jj ++ [Tl.getD jj []] := by rw [List.take_add_one, List.getElem?_eq_getElem (by rw [EM.out]; exact hlj), List.getD, List.getElem?_eq_getElem (by rw [EM.out]; exact hlj)]; rfl
            rw [e, ← List.cons_append, stF_app]; rfl
          have XL2 : Hid ((Tl.getD jj []).length = 32 ∧ Bys (Tl.getD jj [])) := XH
          have CL2 : Hid ((hC (Tl.getD jj [])).length = 32 ∧ ∀ u ∈ hC (Tl.getD jj []), u.oneCell' = true) := ⟨by rw [hC_len]; exact XH.1, hC_one _⟩
          have LF2 : Hid ((stF F0 (adr :: Tl.take jj)).length = 256) := stF_len _ LF.out
          clear XH gt h9 hj
          generalize stF F0 (adr :: Tl.take jj) = G0 at *
          generalize Tl.getD jj [] = X at *
          obtain ⟨XC, hXC⟩ : ∃ C, C = hC X := ⟨_, rfl⟩
          have EXC : Hid (XC = hC X) := hXC
          rw [← hXC] at r1 CL2
          clear hXC
          go_wp2_with first
            | (refine wpList_load_midT rfl 26 _ rfl Tb (To + jj * 32) rfl XC _ r1 Tryd.underlying26 rfl (by rw [CL2.out.1]; exact size_hs) ?_)
            | (refine wpList_allocT rfl 26 rfl (some 7) rfl 32 32 rI_h ?_; intro b7 W7 h7 B7 t7)
            | (refine wpList_storeT rfl 26 _ _ rfl b7 XC rfl rfl (by rw [CL2.out.1]; exact t7) (by rw [CL2.out.1]; exact size_hs) CL2.out.2 ?_; intro W8 u9 q6 t9)
          have B16 : Below wr.heap.size wr W8 := u9.below (by have := h7.out; omega) B7
          replace B := B.trans (B16.mono B.size)
          replace hR := hR.keep B16
          replace hF := hF.keep B16
          have q5 : W8.rangeAt b7 0 (hC X) := by rw [← EXC.out]; exact q6
          clear q6 t9 u9 t7 B7 h7 r1 B16
          obtain ⟨F2, hF2⟩ : ∃ F, F = S.setsF G0 (plX X) := ⟨_, rfl⟩
          have NXT : Hid (S.setsF G0 (plX X) = F2) := hF2.symm
          have LEN : Hid (F2.length = 256) := by show _ = _; rw [hF2]; exact S.setsF_len _ LF2.out
          have E2 : Hid (stF F0 (adr :: Tl.take (jj + 1)) = F2) := by show _ = _; rw [tn.out, hF2]
          clear hF2 tn
          have rb : ∀ w', (∃ p : Regrown, w' = grow (redrawn W8 p.d) p.os) → w'.rangeAt b3 0 (S.byts G0) := by rintro w' ⟨p, rfl⟩; exact (hF.grown _ _).range
          have ic := S.size_bloom hF.1
          have RC : Hid (∀ d os, Calls Tryd.prog 8 #[.agg (S.byts G0).toArray, .slice (some ⟨b7, 0, none⟩) 32 32] (grow (redrawn W8 d) os) fun e w' => e = .returned (.agg (S.byts F2).toArray) ∧ Below (grow (redrawn W8 d) os).heap.size (grow (redrawn W8 d) os) w') := fun d os => by
            have bg := below_regrown W8 d os
            have h := add_I (F := G0) (c := 32) (n := 32) hF.1 XL2.out.1 (by decide) XL2.out.2 (Nat.le_refl _) (range_keep q5 bg) ((KT.out _ B).keep bg)
            rw [NXT.out] at h; exact h
          have KK : Hid (∀ d os, Below w.heap.size w (grow (redrawn W8 d) os) ∧ S.Blm (grow (redrawn W8 d) os) w.heap.size S.zF ∧ S.Blm (grow (redrawn W8 d) os) b3 G0 ∧ Below W8.heap.size W8 (grow (redrawn W8 d) os)) := fun d os => ⟨B.trans ((below_regrown W8 d os).mono B.size), hR.grown d os, hF.grown d os, below_regrown W8 d os⟩
          clear hF hR B
          go_wp2_with fail
          try simp only [Act.put, List.setIfInBounds_toArray, List.set_cons_succ, List.set_cons_zero]
          refine below_tail 3 (by kernel_rfl) (by kernel_rfl) ?_
          simp only [List.take_succ_cons, List.take_zero, List.drop_succ_cons, List.drop_zero]
          repeat
            first
              | go_big_quiet_skip
              | (go_big_quiet_want; go_big_quiet_op; go_big_quiet_on)
              | (go_big_quiet_want; refine S.quiet_load_mid 28 _ rfl b3 0 rfl (S.byts G0) _ rb Tryd.underlying28 rfl ic ?_; simp only [Act.put, List.setIfInBounds_toArray, List.set_cons_succ, List.set_cons_zero]; go_big_quiet_on)
              | (go_big_quiet_want
                 go_big_quiet_op
                 apply Exists.intro
                 refine ⟨fun p => ?_, ?_⟩
                 · (go_at_call 8; with_reducible exact Calls.regrown_of (RC.out p.d p.os))
                 go_big_quiet_on)
          refine wpQuiet_nil ?_
          rintro w4 ⟨p, rfl⟩
          obtain ⟨B4, R4, F4, G4⟩ := KK.out p.d p.os
          generalize grow (redrawn W8 p.d) p.os = w4 at *
          have lS : F2.length = 256 := LEN.out
          have ia := S.size_bloomA lS
          have oc := S.one_byts F2
          have NX : Hid (Below w.heap.size w (w4.setCells b3 0 (S.byts F2)) ∧ S.Blm (w4.setCells b3 0 (S.byts F2)) w.heap.size S.zF ∧ S.Blm (w4.setCells b3 0 (S.byts F2)) b3 F2 ∧ True) := ⟨below_setCells O3.out.1 _ 0 w4 B4, R4.otherCells (Ne.symm O3.out.2) _, F4.stored lS, trivial⟩
          have sz : (S.byts F2).toArray.size = 256 := by rw [List.size_toArray, S.byts_len, lS]
          have tr' : w4.there b3 0 (S.byts F2).toArray.size := by rw [sz]; exact F4.there
          clear KK RC rb ic B4 R4 F4 lS
          go_wp2_with ((refine wpList_store_mid rfl 28 _ _ rfl b3 0 _ rfl rfl tr' ia oc ?_); (refine wpList_worldA (fun W => Below w.heap.size w W ∧ S.Blm W w.heap.size S.zF ∧ S.Blm W b3 F2 ∧ True) NX.out ?_); (rintro V0 ⟨B, hR, hF, -⟩))
          go_roundg (m - (jj + 1))
          case measure => have := HK2.out; omega
          case rel => exact ⟨jj + 1, rfl, hlj, by go_num, B, hR, by rw [E2.out]; exact hF⟩
end Go.Proofs.YtcjabligkeaafaaDoor.tq

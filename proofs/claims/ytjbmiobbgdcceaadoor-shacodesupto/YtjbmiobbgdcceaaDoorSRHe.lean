import Derived.Test.YtjbmiobbgdcceaaDoorSRHd
namespace Go.Proofs.YtjbmiobbgdcceaaDoor
open Go.RowKit Go.Sort

theorem Gb.offH {W W' : World} {g b : Nat} {T : List (BitVec 8)} (h : Gb W g T) (ho : Off b W W') (ne : g ≠ b) (hl : g < W.heap.size) : Gb W' g T := h.same (ho.block g hl ne)
set_option maxRecDepth 100000 in
set_option maxHeartbeats 16000000 in
theorem codes_any {ka a : Option Addr} {kb ko kc bp op cp : Nat} {X : List (BitVec 8)} {PS : List Part} (hl : X.length < 1073730000) (hkc : X.length ≤ kc) (hka : At ka kb ko X) (hs : (catX PS).length < 1073730000) (hn : PS.length ≤ 1073730000) (ha : PS = [] ∨ a = some ⟨bp, op, none⟩) (w : World) (hX : Byo w kb ko X) (hP : Prts w bp op PS) (hf : Wds w 0 0 hN) (hk : Wds w 1 0 kN) :
    Calls Tryd.prog 3 #[.slice ka X.length kc, .slice a PS.length cp] w fun e w' => e = .returned (.bool true) ∧ Below w.heap.size w w' := by
  have HH : Hid (Prts w bp op PS ∧ (PS = [] ∨ a = some ⟨bp, op, none⟩) ∧ Wds w 0 0 hN ∧ Wds w 1 0 kN ∧ (catX PS).length < 1073730000 ∧ PS.length ≤ 1073730000) := ⟨hP, ha, hf, hk, hs, hn⟩
  have HX : Hid (X.length < 1073730000 ∧ X.length ≤ kc ∧ At ka kb ko X ∧ Byo w kb ko X) := ⟨hl, hkc, hka, hX⟩
  have PK : Hid (∀ W, Below w.heap.size w W → Prts W bp op PS) := fun W B i hi => by
    obtain ⟨h1, h2, h3, h4⟩ := HH.out.1 i hi
    exact ⟨by rw [B.cell (p := ⟨bp, op + i, none⟩) (World.block_lt_of_cell? w _ h1)]; exact h1, h2, h3, fun j hj => by rw [B.cell (World.block_lt_of_cell? w _ (h4 j hj))]; exact h4 j hj⟩
  have XK : Hid (∀ W, Below w.heap.size w W → Byo W kb ko X) := fun W B j hj => by rw [B.cell (World.block_lt_of_cell? w _ (HX.out.2.2.2 j hj))]; exact HX.out.2.2.2 j hj
  have PX : Hid (∀ p ∈ PS, p.X.length < 1073741000) := fun p hp => by
    have : p.X.length ≤ (catX PS).length := by
      rw [catX]
      obtain ⟨l1, l2, rfl⟩ := List.append_of_mem hp
      simp
      omega
    have := HH.out.2.2.2.2.1
    omega
  have n1 : (PS.length : Int) ≤ 1073730000 := by omega
  have x1 : (X.length : Int) < 1073730000 := by omega
  clear hP ha hf hk hs hn hl hkc hka hX
  go_enter Tryd.func3, Tryd.ntmps3
  go_wp2_with fail
  refine (parcelR_any (by have := HH.out.2.2.2.2.1; omega) (by have := HH.out.2.2.2.2.2; omega) HH.out.2.1 _ HH.out.1).mono ?_
  rintro e w1 ⟨g, c, rfl, hc, QS, hq, hQ, hx, hb, hR, hg, m1, m2, c1, c2, c3, c4⟩
  have T1 : Hid (Tn w w1 g QS) := ⟨hb, hQ, hR.1, hR.2⟩
  have KQ : Hid (QS.length = PS.length ∧ QS.map (·.X) = PS.map (·.X) ∧ PS.length + 2 ≤ c ∧ catX QS = catX PS) := ⟨hq, hx, hc, catX_same hx⟩
  have WH : Hid (∀ W, Below w1.heap.size w1 W → Calls Tryd.prog 8 #[.slice (some ⟨g, 0, none⟩) PS.length c, .slice a PS.length cp] W fun e w' => e = .returned (.bool true) ∧ Below W.heap.size W w') := fun W hW => by
    have T := T1.out.keep hW
    exact whole_any (by have := HH.out.2.2.2.2.2; omega) hq hx PX.out hc HH.out.2.1 W (PK.out W T.1) T.2.1 (fun q hq => ⟨(T.2.2.1 q hq).1, (T.2.2.1 q hq).2.1, (T.2.2.1 q hq).2.2.1⟩) (cell_keep hW c1) (cell_keep hW c2) (cell_keep hW c3) (cell_keep hW c4)
  have RS : Hid (∀ W, Below w.heap.size w W → Calls Tryd.prog 7 #[.slice ka X.length kc, .slice a PS.length cp] W fun e w' => e = .returned (.agg (byts (hmacL X (catX PS))).toArray) ∧ Below W.heap.size W w') := fun W hW => rhmac_any (by have := HX.out.1; omega) HX.out.2.1 HX.out.2.2.1 HH.out.2.2.2.2.1 HH.out.2.2.2.2.2 HH.out.2.1 W (XK.out W hW) (PK.out W hW)
  have c0 : (PS.length : Int) ≤ (c : Int) := by omega
  have G1 : Hid (g < w1.heap.size) := by
    by_cases h0 : PS.length = 0
    · have := World.block_lt_of_cell? _ _ c1; exact this
    · have := World.block_lt_of_cell? _ _ c1; exact this
  clear hc hq hQ hx hb hR hg c1 c2 c3 c4
  go_wp2_with fail
  have hle := lentR_any (a := ka) (bd := kb) (od := ko) (cd := kc) (X := X) (by have := HX.out.1; omega) HX.out.2.2.1 w1 (XK.out w1 T1.out.1)
  refine hle.mono ?_
  clear hle
  rintro e w2 ⟨gy, ck, rfl, hck, hgk, hgk2, hG, hb⟩
  have KG : Hid (X.length + 70 ≤ ck ∧ w1.heap.size ≤ gy ∧ gy < w2.heap.size ∧ Gb w2 gy (X ++ List.replicate 70 165) ∧ Below w1.heap.size w1 w2) := ⟨hck, hgk, hgk2, hG, hb⟩
  have ck1 : (X.length : Int) ≤ (ck : Int) := by omega
  have ST : Hid (∀ W, Below w2.heap.size w2 W → Calls Tryd.prog 9 #[.slice (some ⟨gy, 0, none⟩) X.length ck, .slice ka X.length kc] W fun e w' => e = .returned (.bool true) ∧ Below W.heap.size W w') := fun W hW => by
    have B1 := T1.out.1.trans (KG.out.2.2.2.2.mono T1.out.1.size)
    exact still_any (by have := HX.out.1; omega) KG.out.1 HX.out.2.2.1 W (KG.out.2.2.2.1.keep KG.out.2.2.1 hW).1 (XK.out W (B1.trans (hW.mono B1.size)))
  clear hck hgk hgk2 hG hb
  go_wp2_with fail
  have BW : Hid (Below w.heap.size w w2) := T1.out.1.trans (KG.out.2.2.2.2.mono T1.out.1.size)
  have s1 := hmac_any (ka := some ⟨gy, 0, none⟩) (kb := gy) (ko := 0) (kc := ck) (X := X) (PS := QS) (a := some ⟨g, 0, none⟩) (bp := g) (op := 0) (cp := c) (by have := HX.out.1; omega) (by have := KG.out.1; omega) (.inr rfl) (by rw [KQ.out.2.2.2]; exact HH.out.2.2.2.2.1) (by rw [KQ.out.1]; exact HH.out.2.2.2.2.2) (.inr rfl) w2 (KG.out.2.2.2.1.front) (T1.out.keep KG.out.2.2.2.2).2.1 (HH.out.2.2.1.keep BW.out) (HH.out.2.2.2.1.keep BW.out)
  rw [KQ.out.1, KQ.out.2.2.2] at s1
  with_reducible refine s1.mono ?_
  clear s1
  rintro e w3 ⟨rfl, hb⟩
  have lH : (hmacL X (catX PS)).length = 32 := by rw [hmacL]; exact shaL_len _
  obtain ⟨D, eD⟩ : ∃ D, D = hmacL X (catX PS) := ⟨_, rfl⟩
  rw [← eD] at RS lH ⊢
  clear eD
  have eqh := fun w => eq_hash (X := D) (Zs := D) lH lH w
  rw [decide_eq_true rfl] at eqh
  have oc := one_byts D
  have lN : (byts D).length = 32 := by rw [byts_len, lH]
  generalize hN : byts D = N at *
  clear hN lH
  have LN : Hid (N.length = 32) := lN
  have il : (Tryd.prog.info? 27).map (·.size) = some N.length := by rw [LN.out]; kernel_rfl
  have il3 : (Tryd.prog.info? 27).map (·.size) = some N.toArray.size := by rw [List.size_toArray]; exact il
  have B2 : Hid (Below w2.heap.size w2 w3) := hb
  have F2 : ∀ t, Hid (Below w2.heap.size w2 ((w3.alloc (.cells #[.int .u8 0, .int .u8 0, .int .u8 0, .int .u8 0, .int .u8 0, .int .u8 0, .int .u8 0, .int .u8 0, .int .u8 0, .int .u8 0, .int .u8 0, .int .u8 0, .int .u8 0, .int .u8 0, .int .u8 0, .int .u8 0, .int .u8 0, .int .u8 0, .int .u8 0, .int .u8 0, .int .u8 0, .int .u8 0, .int .u8 0, .int .u8 0, .int .u8 0, .int .u8 0, .int .u8 0, .int .u8 0, .int .u8 0, .int .u8 0, .int .u8 0, .int .u8 0] t)).setCells w3.heap.size 0 N) ∧ ((w3.alloc (.cells #[.int .u8 0, .int .u8 0, .int .u8 0, .int .u8 0, .int .u8 0, .int .u8 0, .int .u8 0, .int .u8 0, .int .u8 0, .int .u8 0, .int .u8 0, .int .u8 0, .int .u8 0, .int .u8 0, .int .u8 0, .int .u8 0, .int .u8 0, .int .u8 0, .int .u8 0, .int .u8 0, .int .u8 0, .int .u8 0, .int .u8 0, .int .u8 0, .int .u8 0, .int .u8 0, .int .u8 0, .int .u8 0, .int .u8 0, .int .u8 0, .int .u8 0, .int .u8 0] t)).setCells w3.heap.size 0 N).rangeAt w3.heap.size 0 N) := fun t => ⟨B2.out.trans ((hash_put LN.out).1.mono B2.out.size), (hash_put LN.out).2⟩
  have th := fun t => hash_new (W := w3) (t := t) LN.out
  clear hb lN
  go_wp2_with ((with_reducible refine wpList_store_at (ty := 27) w3.heap.size 0 N.toArray (th _) il3 oc ?_ ?_ ?_); rfl; rfl; refine wpList_world (fun W => Below w2.heap.size w2 W ∧ W.rangeAt w3.heap.size 0 N) (F2 _).out ?_; clear F2 th; rintro W ⟨hB, r4⟩)
  have W2 : Hid (Below w2.heap.size w2 W) := hB
  have W1 : Hid (Below w1.heap.size w1 W) := KG.out.2.2.2.2.trans (hB.mono KG.out.2.2.2.2.size)
  have W0 : Hid (Below w.heap.size w W) := T1.out.1.trans (W1.out.mono T1.out.1.size)
  have ldY : ∀ w', (∃ p : Regrown, w' = grow (redrawn W p.d) p.os) → w'.rangeAt w3.heap.size 0 N := by rintro w' ⟨p, rfl⟩; exact range_kept r4 (below_regrown W p.d p.os)
  have C1 : ∀ d os, Below w.heap.size w (grow (redrawn W d) os) := fun d os => W0.out.trans ((below_regrown W d os).mono W0.out.size)
  have C2 : ∀ d os, Below w1.heap.size w1 (grow (redrawn W d) os) := fun d os => W1.out.trans ((below_regrown W d os).mono W1.out.size)
  have C3 : ∀ d os, Below w2.heap.size w2 (grow (redrawn W d) os) := fun d os => W2.out.trans ((below_regrown W d os).mono W2.out.size)
  generalize w3.heap.size = b4 at *
  clear hB r4
  simp only [Act.put]
  refine wp_region_quiet_below (by kernel_rfl) (by kernel_rfl) ?_
  repeat
    first
      | go_big_quiet_skip
      | (go_big_quiet_want; go_big_quiet_op; go_big_quiet_on)
      | (go_big_quiet_want; refine quiet_load_midS 27 _ rfl b4 0 rfl N _ ldY Tryd.underlying27 rfl il ?_; simp only [Act.put, List.setIfInBounds_toArray, List.set_cons_succ, List.set_cons_zero]; go_big_quiet_on)
      | (go_big_quiet_want
         go_big_quiet_op
         apply Exists.intro
         refine ⟨fun p => ?_, ?_⟩
         · (first | (go_at_call 7; with_reducible exact Calls.regrown_of (RS.out (grow (redrawn W p.d) p.os) (C1 p.d p.os))) | (go_at_call 8; with_reducible exact Calls.regrown_of (WH.out (grow (redrawn W p.d) p.os) (C2 p.d p.os))) | (go_at_call 9; with_reducible exact Calls.regrown_of (ST.out (grow (redrawn W p.d) p.os) (C3 p.d p.os))))
         go_big_quiet_on)
  refine wpQuiet_nil ?_
  rintro w5 ⟨p, rfl⟩
  have B5 : Hid (Below w2.heap.size w2 (grow (redrawn W p.d) p.os)) := C3 p.d p.os
  generalize grow (redrawn W p.d) p.os = w5 at *
  have G5 : Hid (Gb w5 gy (X ++ List.replicate 70 165) ∧ gy < w5.heap.size) := ⟨KG.out.2.2.2.1.keep KG.out.2.2.1 B5.out, by have := KG.out.2.2.1; have := B5.out.size; omega⟩
  have QX : Hid (∀ q ∈ QS, q.X.length < 1073741824) := fun q hq => by
    have : q.X.length ≤ (catX QS).length := by
      rw [catX]
      obtain ⟨l1, l2, rfl⟩ := List.append_of_mem hq
      simp
      omega
    have h2 := HH.out.2.2.2.2.1
    rw [KQ.out.2.2.2] at this
    omega
  clear ldY C1 C2 C3 W0 W1 W2 RS WH ST B2 eqh
  have TK := turn_any (c := ck) (Z := List.replicate 70 165) (by have := HX.out.1; omega) w5 G5.out.1
  go_wp2_with fail
  with_reducible refine TK.mono ?_
  clear TK
  rintro e w6 ⟨rfl, hG, ho⟩
  have B6 : Hid (Below w1.heap.size w1 w6) := by
    have h1 := KG.out.2.2.2.2.trans (B5.out.mono KG.out.2.2.2.2.size)
    exact h1.trans (ho.below h1.size KG.out.2.1)
  have S6 : Hid (Tn w w6 g QS ∧ Gb w6 gy (flipB X ++ List.replicate 70 165) ∧ gy < w6.heap.size) := ⟨T1.out.keep B6.out, hG, by have := G5.out.2; have := ho.size; omega⟩
  have QB : Hid (∀ q ∈ QS, q.b ≠ gy) := fun q hq e => by
    have h1 := (T1.out.2.2.1 q hq).2.2.2.2.2.1
    have h2 := KG.out.2.1
    omega
  clear hG ho B6 B5 G5 T1
  go_wp2_with fail
  go_loopg [8] PS.length (fun k iv wr => ∃ i : Nat, k = PS.length - i ∧ i ≤ PS.length ∧ iv = .int .i64 i ∧ Tn w wr g (flQ QS i) ∧ Gb wr gy (flipB X ++ List.replicate 70 165) ∧ gy < wr.heap.size)
  case atStart => exact ⟨0, rfl, Nat.zero_le _, rfl, by rw [flQ_0]; exact S6.out⟩
  case round =>
    obtain ⟨i, hk, hi, rfl, hT, hGk⟩ := hrel
    have HK : Hid (gk = PS.length - i) := hk
    have HF : Hid (Tn w wr g (flQ QS i)) := hT
    have HGy : Hid (Gb wr gy (flipB X ++ List.replicate 70 165) ∧ gy < wr.heap.size) := hGk
    clear hk hT hGk
    by_cases h8 : i = PS.length
    · subst h8
      go_wp2_with fail
      have eF : flQ QS PS.length = QS.map fp := by rw [flQ, ← KQ.out.1, List.take_length, List.drop_length, List.append_nil]
      have TF := HF.out
      rw [eF] at TF
      have lM : (QS.map fp).length = PS.length := by rw [List.length_map, KQ.out.1]
      have lX : (catX (QS.map fp)).length < 1073730000 := by rw [catX_flip, KQ.out.2.2.2]; exact HH.out.2.2.2.2.1
      have lF : (flipB X).length = X.length := flipB_len X
      have s1 := hmac_any (ka := some ⟨gy, 0, none⟩) (kb := gy) (ko := 0) (kc := ck) (X := flipB X) (PS := QS.map fp) (a := some ⟨g, 0, none⟩) (bp := g) (op := 0) (cp := c) (by rw [lF]; have := HX.out.1; omega) (by rw [lF]; have := KG.out.1; omega) (.inr rfl) lX (by rw [lM]; exact HH.out.2.2.2.2.2) (.inr rfl) wr HGy.out.1.front TF.2.1 (HH.out.2.2.1.keep TF.1) (HH.out.2.2.2.1.keep TF.1)
      have RS : Hid (∀ W, Below wr.heap.size wr W → Calls Tryd.prog 7 #[.slice (some ⟨gy, 0, none⟩) X.length ck, .slice (some ⟨g, 0, none⟩) PS.length c] W fun e w' => e = .returned (.agg (byts (hmacL (flipB X) (catX (QS.map fp)))).toArray) ∧ Below W.heap.size W w') := fun W hW => by
        have h := rhmac_any (ka := some ⟨gy, 0, none⟩) (kb := gy) (ko := 0) (kc := ck) (X := flipB X) (PS := QS.map fp) (a := some ⟨g, 0, none⟩) (bp := g) (op := 0) (cp := c) (by rw [lF]; have := HX.out.1; omega) (by rw [lF]; have := KG.out.1; omega) (.inr rfl) lX (by rw [lM]; exact HH.out.2.2.2.2.2) (.inr rfl) W (HGy.out.1.keep HGy.out.2 hW).front (TF.keep hW).2.1
        rw [lM, lF] at h
        exact h
      rw [lM, lF] at s1
      have W0 : Hid (Below w.heap.size w wr) := TF.1
      with_reducible refine s1.mono ?_
      clear s1 TF eF lM lX HF
      rintro e w7 ⟨rfl, hb⟩
      have lH : (hmacL (flipB X) (catX (QS.map fp))).length = 32 := by rw [hmacL]; exact shaL_len _
      obtain ⟨D2, eD⟩ : ∃ D, D = hmacL (flipB X) (catX (QS.map fp)) := ⟨_, rfl⟩
      rw [← eD] at RS lH ⊢
      clear eD
      have eqh := fun w => eq_hash (X := D2) (Zs := D2) lH lH w
      rw [decide_eq_true rfl] at eqh
      have om := one_byts D2
      have lM : (byts D2).length = 32 := by rw [byts_len, lH]
      generalize hM : byts D2 = M at *
      clear hM lH
      have LM : Hid (M.length = 32) := lM
      have im : (Tryd.prog.info? 27).map (·.size) = some M.length := by rw [LM.out]; kernel_rfl
      have im3 : (Tryd.prog.info? 27).map (·.size) = some M.toArray.size := by rw [List.size_toArray]; exact im
      have B7 : Hid (Below wr.heap.size wr w7) := hb
      have F7 : ∀ t, Hid (Below wr.heap.size wr ((w7.alloc (.cells #[.int .u8 0, .int .u8 0, .int .u8 0, .int .u8 0, .int .u8 0, .int .u8 0, .int .u8 0, .int .u8 0, .int .u8 0, .int .u8 0, .int .u8 0, .int .u8 0, .int .u8 0, .int .u8 0, .int .u8 0, .int .u8 0, .int .u8 0, .int .u8 0, .int .u8 0, .int .u8 0, .int .u8 0, .int .u8 0, .int .u8 0, .int .u8 0, .int .u8 0, .int .u8 0, .int .u8 0, .int .u8 0, .int .u8 0, .int .u8 0, .int .u8 0, .int .u8 0] t)).setCells w7.heap.size 0 M) ∧ ((w7.alloc (.cells #[.int .u8 0, .int .u8 0, .int .u8 0, .int .u8 0, .int .u8 0, .int .u8 0, .int .u8 0, .int .u8 0, .int .u8 0, .int .u8 0, .int .u8 0, .int .u8 0, .int .u8 0, .int .u8 0, .int .u8 0, .int .u8 0, .int .u8 0, .int .u8 0, .int .u8 0, .int .u8 0, .int .u8 0, .int .u8 0, .int .u8 0, .int .u8 0, .int .u8 0, .int .u8 0, .int .u8 0, .int .u8 0, .int .u8 0, .int .u8 0, .int .u8 0, .int .u8 0] t)).setCells w7.heap.size 0 M).rangeAt w7.heap.size 0 M) := fun t => ⟨B7.out.trans ((hash_put LM.out).1.mono B7.out.size), (hash_put LM.out).2⟩
      have th := fun t => hash_new (W := w7) (t := t) LM.out
      clear hb lM
      go_wp2_with ((with_reducible refine wpList_store_at (ty := 27) w7.heap.size 0 M.toArray (th _) im3 om ?_ ?_ ?_); rfl; rfl; refine wpList_world (fun W => Below wr.heap.size wr W ∧ W.rangeAt w7.heap.size 0 M) (F7 _).out ?_; clear F7 th; rintro W8 ⟨hB, r4⟩)
      have W1 : Hid (Below wr.heap.size wr W8) := hB
      have ldY : ∀ w', (∃ p : Regrown, w' = grow (redrawn W8 p.d) p.os) → w'.rangeAt w7.heap.size 0 M := by rintro w' ⟨p, rfl⟩; exact range_kept r4 (below_regrown W8 p.d p.os)
      have C2 : ∀ d os, Below wr.heap.size wr (grow (redrawn W8 d) os) := fun d os => W1.out.trans ((below_regrown W8 d os).mono W1.out.size)
      generalize w7.heap.size = b6 at *
      clear hB r4
      simp only [Act.put]
      refine wp_region_quiet_below (by kernel_rfl) (by kernel_rfl) ?_
      repeat
        first
          | go_big_quiet_skip
          | (go_big_quiet_want; go_big_quiet_op; go_big_quiet_on)
          | (go_big_quiet_want; refine quiet_load_midS 27 _ rfl b6 0 rfl M _ ldY Tryd.underlying27 rfl im ?_; simp only [Act.put, List.setIfInBounds_toArray, List.set_cons_succ, List.set_cons_zero]; go_big_quiet_on)
          | (go_big_quiet_want
             go_big_quiet_op
             apply Exists.intro
             refine ⟨fun p => ?_, ?_⟩
             · (go_at_call 7; with_reducible exact Calls.regrown_of (RS.out (grow (redrawn W8 p.d) p.os) (C2 p.d p.os)))
             go_big_quiet_on)
      refine wpQuiet_nil ?_
      rintro w9 ⟨p, rfl⟩
      have B9 : Hid (Below w.heap.size w (grow (redrawn W8 p.d) p.os)) := W0.out.trans ((C2 p.d p.os).mono W0.out.size)
      generalize grow (redrawn W8 p.d) p.os = w9 at *
      clear ldY C2
      go_wp2
      simp [bodyPost, results, Tryd.results3, go_sem]
      exact B9.out
    · have hlt : i < PS.length := by omega
      have hlt' : (i : Int) < (PS.length : Int) := by omega
      have hltq : i < QS.length := by rw [KQ.out.1]; exact hlt
      have lf : i < (flQ QS i).length := by have := congrArg List.length (flQ_b QS i); simp only [List.length_map] at this; omega
      obtain ⟨f1, f2⟩ := flQ_at hltq
      have q1 := (HF.out.2.1 i lf).1
      rw [f1] at q1
      have qm : QS.getD i .none ∈ QS := by rw [List.getD, List.getElem?_eq_getElem hltq]; exact List.getElem_mem hltq
      have qn : QS.getD i .none ∈ flQ QS i := by rw [← f1, List.getD, List.getElem?_eq_getElem lf]; exact List.getElem_mem lf
      have qL := HF.out.2.2.1 _ qn
      have qb := QB.out _ qm
      have NX : Hid (∀ W', Off (QS.getD i .none).b wr W' → Gb W' (QS.getD i .none).b (flipB (QS.getD i .none).X ++ List.replicate 70 165) → Tn w W' g (flQ QS (i + 1)) ∧ Gb W' gy (flipB X ++ List.replicate 70 165) ∧ gy < W'.heap.size) := fun W' ho hG => by
        refine ⟨?_, HGy.out.1.offH ho (fun e => qb e.symm) HGy.out.2, by have := HGy.out.2; have := ho.size; omega⟩
        rw [f2, ← f1]
        exact HF.out.turned lf (by rw [f1]; exact ho) (by rw [f1]; exact hG)
      have TC := turn_any (c := (QS.getD i .none).c) (QX.out _ qm) wr qL.1
      have q2 := qL.2.2.1
      rw [Part.val] at q1
      clear f1 f2 qm qn qL lf hltq qb
      generalize QS.getD i .none = q at *
      obtain ⟨qa, qb, qo, qc, X2⟩ := q
      simp only at q2 q1 TC NX
      subst q2
      rw [Nat.zero_add] at q1
      go_wp2_with fail
      refine TC.mono ?_
      clear TC
      rintro e w4 ⟨rfl, hG, ho⟩
      have N4 : Hid (Tn w w4 g (flQ QS (i + 1)) ∧ Gb w4 gy (flipB X ++ List.replicate 70 165) ∧ gy < w4.heap.size) := NX.out _ ho hG
      clear hG ho NX q1
      go_wp2
      go_roundg (PS.length - (i + 1))
      case measure => have := HK.out; omega
      case rel => exact ⟨i + 1, rfl, by omega, by go_num, N4.out⟩
end Go.Proofs.YtjbmiobbgdcceaaDoor

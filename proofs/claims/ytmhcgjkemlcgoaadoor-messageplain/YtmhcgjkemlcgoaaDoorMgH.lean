import Derived.Test.YtmhcgjkemlcgoaaDoorMgF
/- The law MessagePlain. -/
namespace Go.Proofs.YtmhcgjkemlcgoaaDoor
open Go.RowKit Go.Sort
theorem quiet_load_midN {P : Program} {C : World → Prop} {a : Act} {o : Oper} {K : Act → Prop} (ty : TypeId) (x : Operand) (ho : o.op = .load ty x)
    (b f : Nat) (hx : a.eval x = .pointer (some ⟨b, f, none⟩)) (cs : List Value) (d : TypeDesc) (hS : ∀ w, C w → w.rangeAt b f cs)
    (hu : P.underlying ty = some d) (hd : d.isRow = true) (hi : (P.info? ty).map (·.size) = some cs.length) (h : K (a.put o.dst (.agg cs.toArray))) : o.quiet P a C K :=
  ⟨.agg cs.toArray, fun w hw => by
    unfold Oper.quietAt execOp
    simp only [ho, hx, Instr.loadAt, Instr.sureAddr, Sem.run_bind, Sem.run_pure, Result.andThen_ok, run_loadVar_mid w b f ty cs d (hS w hw) hu hd hi]
    exact ⟨rfl, rfl⟩, h⟩
set_option maxRecDepth 100000 in
set_option maxHeartbeats 16000000 in
theorem plain_any {a : Option Addr} {bb ob c : Nat} {X A : List Int} (hl : X.length ≤ 140737488351232) (hnc : a = none → c = 0) (lA : A.length = 20) (hA : Bys A) (w : World) (hp : PtC.ok w ⟨a, bb, ob, c, X⟩) (hk : KtC w) (hr : RtC w) (ht : TbM w) :
    Calls Tryd.prog 3 #[.slice a X.length c, .agg (A.map (Value.int .u8)).toArray] w fun e w' => e = .returned (.bool true) ∧ Below w.heap.size w w' := by
  have ha : Az a bb ob X := hp.1
  have hX : Bys X := hp.2.2.1
  have hz : Bz w bb ob X := hp.2.2.2
  obtain ⟨N, eN⟩ : ∃ N, Hid (N = A.map (Value.int .u8)) := ⟨_, rfl⟩
  obtain ⟨D1, e1⟩ : ∃ D, Hid (D = (perM X).map (Value.int .u8)) := ⟨_, rfl⟩
  obtain ⟨D2, e2⟩ : ∃ D, Hid (D = (intM A X).map (Value.int .u8)) := ⟨_, rfl⟩
  obtain ⟨D3, e3⟩ : ∃ D, Hid (D = (perM X.reverse).map (Value.int .u8)) := ⟨_, rfl⟩
  obtain ⟨D4, e4⟩ : ∃ D, Hid (D = (intM A X.reverse).map (Value.int .u8)) := ⟨_, rfl⟩
  have hY : Bys X.reverse := fun x hx => hX x (List.mem_reverse.1 hx)
  have lY : X.reverse.length = X.length := List.length_reverse
  have pt : ∀ {W : World} {g : Nat} {Z : List Int}, Bys Z → Rw8 W g (lentL Z) → PtC.ok W ⟨some ⟨g, 0, none⟩, g, 0, Z.length + 70, Z⟩ := fun hZ h => ⟨.inr rfl, by simp, hZ, lentL_bz h⟩
  have LE : Hid (∀ W, Below w.heap.size w W → Calls Tryd.prog 4 #[.slice a X.length c] W fun e w' => e = .returned (.slice (some ⟨W.heap.size, 0, none⟩) X.length (X.length + 70)) ∧ Rw8 w' W.heap.size (lentL X) ∧ Below W.heap.size W w') := fun W B => mlent_any (by omega) ha W (hz.keep B)
  have BW : Hid (∀ W, Below w.heap.size w W → Calls Tryd.prog 10 #[.slice a X.length c] W fun e w' => ∃ v, e = .returned v ∧ OwnB W.heap.size w' v X.reverse ∧ Below W.heap.size W w') := fun W B => mbackward_any (by omega) ha W (hz.keep B)
  have P1 : Hid (∀ W g, Below w.heap.size w W → Rw8 W g (lentL X) → Calls Tryd.prog 5 #[.slice (some ⟨g, 0, none⟩) X.length (X.length + 70)] W fun e w' => e = .returned (.agg D1.toArray) ∧ Below W.heap.size W w') := fun W g B h => personal_any rfl hl e1 W (pt hX h) (hk.keep B) (ht.keep B)
  have I1 : Hid (∀ W g, Below w.heap.size w W → Rw8 W g (lentL X) → Calls Tryd.prog 6 #[.agg N.toArray, .slice (some ⟨g, 0, none⟩) X.length (X.length + 70)] W fun e w' => e = .returned (.agg D2.toArray) ∧ Below W.heap.size W w') := fun W g B h => by rw [eN.out]; exact intended_any rfl lA hA hl e2 W (pt hX h) (hk.keep B)
  have P2 : Hid (∀ W g, Below w.heap.size w W → Rw8 W g (lentL X.reverse) → Calls Tryd.prog 5 #[.slice (some ⟨g, 0, none⟩) X.length (X.length + 70)] W fun e w' => e = .returned (.agg D3.toArray) ∧ Below W.heap.size W w') := fun W g B h => by
    have := personal_any lY.symm (by rw [lY]; exact hl) e3 W (pt hY h) (hk.keep B) (ht.keep B)
    rw [lY] at this; exact this
  have I2 : Hid (∀ W g, Below w.heap.size w W → Rw8 W g (lentL X.reverse) → Calls Tryd.prog 6 #[.agg N.toArray, .slice (some ⟨g, 0, none⟩) X.length (X.length + 70)] W fun e w' => e = .returned (.agg D4.toArray) ∧ Below W.heap.size W w') := fun W g B h => by
    have := intended_any lY.symm lA hA (by rw [lY]; exact hl) e4 W (pt hY h) (hk.keep B)
    rw [lY] at this; rw [eN.out]; exact this
  have Q1 : Hid (∀ W, Below w.heap.size w W → Calls Tryd.prog 7 #[.slice a X.length c] W fun e w' => e = .returned (.agg D1.toArray) ∧ Below W.heap.size W w') := fun W B => rpersonal_any rfl hl hnc e1 W (hp.keep B) (hr.keep B)
  have J1 : Hid (∀ W, Below w.heap.size w W → Calls Tryd.prog 8 #[.agg N.toArray, .slice a X.length c] W fun e w' => e = .returned (.agg D2.toArray) ∧ Below W.heap.size W w') := fun W B => by rw [eN.out]; exact rintended_any rfl lA hA hl e2 hnc W (hp.keep B) (hr.keep B)
  have Q2 : Hid (∀ W a' g' c', Below w.heap.size w W → (a' = none → c' = 0) → PtC.ok W ⟨a', g', 0, c', X.reverse⟩ → Calls Tryd.prog 7 #[.slice a' X.length c'] W fun e w' => e = .returned (.agg D3.toArray) ∧ Below W.heap.size W w') := fun W a' g' c' B h0 h => rpersonal_any lY.symm (by rw [lY]; exact hl) h0 e3 W h (hr.keep B)
  have J2 : Hid (∀ W a' g' c', Below w.heap.size w W → (a' = none → c' = 0) → PtC.ok W ⟨a', g', 0, c', X.reverse⟩ → Calls Tryd.prog 8 #[.agg N.toArray, .slice a' X.length c'] W fun e w' => e = .returned (.agg D4.toArray) ∧ Below W.heap.size W w') := fun W a' g' c' B h0 h => by rw [eN.out]; exact rintended_any lY.symm lA hA (by rw [lY]; exact hl) e4 h0 W h (hr.keep B)
  have S1 : Hid (∀ W g, Below w.heap.size w W → Rw8 W g (lentL X) → Calls Tryd.prog 9 #[.slice (some ⟨g, 0, none⟩) X.length (X.length + 70), .slice a X.length c] W fun e w' => e = .returned (.bool true) ∧ Below W.heap.size W w') := fun W g B h => mstill_any (by omega) ha W h (hz.keep B)
  have S2 : Hid (∀ W g a' g' c', Rw8 W g (lentL X.reverse) → PtC.ok W ⟨a', g', 0, c', X.reverse⟩ → Calls Tryd.prog 9 #[.slice (some ⟨g, 0, none⟩) X.length (X.length + 70), .slice a' X.length c'] W fun e w' => e = .returned (.bool true) ∧ Below W.heap.size W w') := fun W g a' g' c' h h1 => by
    have := mstill_any (cd := c') (by rw [lY]; omega) h1.1 W h h1.2.2.2
    rw [lY] at this; exact this
  have EE : Hid (∀ D, (D = D1 ∨ D = D2 ∨ D = D3 ∨ D = D4) → (D.length = 32 ∧ D.toArray.all (·.oneCell') = true ∧ ∀ W, (Op.equalIn 10000 27 (.agg D.toArray) (.agg D.toArray)).run Tryd.prog W = .ok true W)) := by
    rintro D (rfl | rfl | rfl | rfl)
    · rw [e1.out]; exact ⟨by rw [List.length_map, perM, kecC_len], one_cells _, fun W => by rw [eq_hshM (by rw [perM, kecC_len]) (by rw [perM, kecC_len])]; simp⟩
    · rw [e2.out]; exact ⟨by rw [List.length_map, intM, kecC_len], one_cells _, fun W => by rw [eq_hshM (by rw [intM, kecC_len]) (by rw [intM, kecC_len])]; simp⟩
    · rw [e3.out]; exact ⟨by rw [List.length_map, perM, kecC_len], one_cells _, fun W => by rw [eq_hshM (by rw [perM, kecC_len]) (by rw [perM, kecC_len])]; simp⟩
    · rw [e4.out]; exact ⟨by rw [List.length_map, intM, kecC_len], one_cells _, fun W => by rw [eq_hshM (by rw [intM, kecC_len]) (by rw [intM, kecC_len])]; simp⟩
  have ER : (∀ W, (Op.equalIn 10000 27 (.agg D1.toArray) (.agg D1.toArray)).run Tryd.prog W = .ok true W) := (EE.out _ (.inl rfl)).2.2
  have ES : (∀ W, (Op.equalIn 10000 27 (.agg D2.toArray) (.agg D2.toArray)).run Tryd.prog W = .ok true W) := (EE.out _ (.inr (.inl rfl))).2.2
  have ET : (∀ W, (Op.equalIn 10000 27 (.agg D3.toArray) (.agg D3.toArray)).run Tryd.prog W = .ok true W) := (EE.out _ (.inr (.inr (.inl rfl)))).2.2
  have EU : (∀ W, (Op.equalIn 10000 27 (.agg D4.toArray) (.agg D4.toArray)).run Tryd.prog W = .ok true W) := (EE.out _ (.inr (.inr (.inr rfl)))).2.2
  have k1 := EE.out D1 (.inl rfl); have k2 := EE.out D2 (.inr (.inl rfl)); have k3 := EE.out D3 (.inr (.inr (.inl rfl))); have k4 := EE.out D4 (.inr (.inr (.inr rfl)))
  have z1 : D1.toArray.size = 32 := by simp [k1.1]
  have z2 : D2.toArray.size = 32 := by simp [k2.1]
  have z3 : D3.toArray.size = 32 := by simp [k3.1]
  have z4 : D4.toArray.size = 32 := by simp [k4.1]
  have n1 : (Tryd.prog.info? 27).map (·.size) = some D1.length := by rw [k1.1]; kernel_rfl
  have n2 : (Tryd.prog.info? 27).map (·.size) = some D2.length := by rw [k2.1]; kernel_rfl
  have n3 : (Tryd.prog.info? 27).map (·.size) = some D3.length := by rw [k3.1]; kernel_rfl
  have n4 : (Tryd.prog.info? 27).map (·.size) = some D4.length := by rw [k4.1]; kernel_rfl
  have nN : (Tryd.prog.info? 24).map (·.size) = some N.length := by rw [eN.out, List.length_map, lA]; kernel_rfl
  have LD : Hid (D1.length = 32 ∧ D2.length = 32 ∧ D3.length = 32 ∧ D4.length = 32) := ⟨k1.1, k2.1, k3.1, k4.1⟩
  have o1 := k1.2.1; have o2 := k2.2.1; have o3 := k3.2.1; have o4 := k4.2.1
  rw [← eN.out]
  have XY : Hid (Bys X) := hX
  obtain ⟨Y, eY⟩ : ∃ Y, Hid (Y = X.reverse) := ⟨_, rfl⟩
  rw [← eY.out] at BW P2 I2 Q2 J2 S2
  obtain ⟨m, em⟩ : ∃ m, Hid (m = X.length) := ⟨_, rfl⟩
  have ly : Hid (Y.length = m) := by rw [eY.out, List.length_reverse, em.out]; exact rfl
  have ml : (m : Int) ≤ 140737488351232 := by rw [em.out]; omega
  rw [← em.out] at LE BW P1 I1 P2 I2 Q1 J1 Q2 J2 S1 S2 ⊢
  clear hl hnc lA hA hk hr ht ha hX hz hp hY lY pt EE k1 k2 k3 k4 e1 e2 e3 e4
  go_enter Tryd.func3, Tryd.ntmps3
  refine wp_seq_k fun K0 h0 => ?_
  have H0 : Hid _ := h0
  clear h0
  go_wp2
  refine H0.out _ _ ?_
  clear H0
  refine wp_world (fun W => Below w.heap.size w W ∧ W.rangeAt w.heap.size 0 N ∧ w.heap.size < W.heap.size) ⟨(Below.refl _ _).alloc (Nat.le_refl _) _, rangeBox, by simp⟩ ?_
  rintro w0 ⟨B, R2, lt0⟩
  have LT : Hid (w.heap.size < w0.heap.size) := lt0
  clear lt0
  obtain ⟨bx, ebx⟩ : ∃ b, b = w.heap.size := ⟨_, rfl⟩
  have BXE : Hid (bx = w.heap.size) := ebx
  rw [← ebx] at R2 LT ⊢
  clear ebx
  refine wp_seq_k fun K1 h1 => ?_
  have H1 : Hid _ := h1
  clear h1
  go_wp2_with fail
  with_reducible refine (LE.out _ B).mono ?_
  rintro e1 w1 ⟨rfl, RL, hb1⟩
  have SL : Hid (bx < w0.heap.size) := LT.out
  have SZ := hb1.size
  replace B := B.trans (hb1.mono B.size)
  replace R2 := range_sameM R2 (hb1.block _ LT.out)
  replace LT : Hid (bx < w1.heap.size) := by have := LT.out; show bx < _; omega
  clear SZ
  clear hb1
  clear LE
  obtain ⟨gl, egl⟩ : ∃ g, g = w0.heap.size := ⟨_, rfl⟩
  rw [← egl] at RL SL ⊢
  clear egl
  have OG : Hid (w.heap.size ≤ bx ∧ bx < gl) := ⟨by rw [BXE.out]; exact Nat.le_refl _, SL.out⟩
  clear SL
  go_wp2
  refine H1.out _ _ ?_
  clear H1
  refine wp_seq_k fun K2 h2 => ?_
  have H2 : Hid _ := h2
  clear h2
  go_wp2_with fail
  with_reducible refine (P1.out _ _ B RL).mono ?_
  rintro e1 w2 ⟨rfl, hb1⟩
  have SZ := hb1.size
  replace B := B.trans (hb1.mono B.size)
  replace R2 := range_sameM R2 (hb1.block _ LT.out)
  replace RL := RL.keep hb1
  replace LT : Hid (bx < w2.heap.size) := by have := LT.out; show bx < _; omega
  clear SZ
  clear hb1
  go_wp2_with (refine wpList_store_mid rfl 27 _ _ rfl w2.heap.size 0 D1.toArray rfl rfl (there_new rfl (by rw [z1]; rfl)) (by rw [z1]; kernel_rfl) o1 ?_; refine wpList_worldA (fun V => Below w2.heap.size w2 V ∧ Bx V w2.heap.size D1) ⟨below_newM, Bx.new LD.out.1⟩ ?_; rintro w3 ⟨hb1, XA⟩)
  have SXA : Hid (gl < w2.heap.size) := RL.lt
  have SZ := hb1.size
  replace B := B.trans (hb1.mono B.size)
  replace R2 := range_sameM R2 (hb1.block _ LT.out)
  replace RL := RL.keep hb1
  replace LT : Hid (bx < w3.heap.size) := by have := LT.out; show bx < _; omega
  clear SZ
  clear hb1
  clear P1
  obtain ⟨ba, eba⟩ : ∃ g, g = w2.heap.size := ⟨_, rfl⟩
  rw [← eba] at XA SXA ⊢
  clear eba
  go_wp2
  refine H2.out _ _ ?_
  clear H2
  refine wp_seq_k fun K3 h3 => ?_
  have H3 : Hid _ := h3
  clear h3
  go_wp2_with (refine wpList_load_mid rfl 24 _ rfl bx 0 rfl N _ R2 Tryd.underlying24 rfl nN ?_)
  with_reducible refine (I1.out _ _ B RL).mono ?_
  rintro e1 w4 ⟨rfl, hb1⟩
  have SZ := hb1.size
  replace B := B.trans (hb1.mono B.size)
  replace R2 := range_sameM R2 (hb1.block _ LT.out)
  replace RL := RL.keep hb1
  replace XA := XA.keep hb1
  replace LT : Hid (bx < w4.heap.size) := by have := LT.out; show bx < _; omega
  clear SZ
  clear hb1
  go_wp2_with (refine wpList_store_mid rfl 27 _ _ rfl w4.heap.size 0 D2.toArray rfl rfl (there_new rfl (by rw [z2]; rfl)) (by rw [z2]; kernel_rfl) o2 ?_; refine wpList_worldA (fun V => Below w4.heap.size w4 V ∧ Bx V w4.heap.size D2) ⟨below_newM, Bx.new LD.out.2.1⟩ ?_; rintro w5 ⟨hb1, XB⟩)
  have SXB : Hid (gl < w4.heap.size ∧ ba < w4.heap.size) := ⟨RL.lt, XA.2.2⟩
  have SZ := hb1.size
  replace B := B.trans (hb1.mono B.size)
  replace R2 := range_sameM R2 (hb1.block _ LT.out)
  replace RL := RL.keep hb1
  replace XA := XA.keep hb1
  replace LT : Hid (bx < w5.heap.size) := by have := LT.out; show bx < _; omega
  clear SZ
  clear hb1
  clear I1
  obtain ⟨bc, ebc⟩ : ∃ g, g = w4.heap.size := ⟨_, rfl⟩
  rw [← ebc] at XB SXB ⊢
  clear ebc
  go_wp2
  refine H3.out _ _ ?_
  clear H3
  refine wp_seq_k fun K4 h4 => ?_
  have H4 : Hid _ := h4
  clear h4
  have ldA : ∀ w', (∃ p : Regrown, w' = grow (redrawn w5 p.d) p.os) → w'.rangeAt ba 0 D1 := by rintro w' ⟨p, rfl⟩; exact (XA.keep (below_regrown w5 p.d p.os)).1
  have ldB : ∀ w', (∃ p : Regrown, w' = grow (redrawn w5 p.d) p.os) → w'.rangeAt bc 0 D2 := by rintro w' ⟨p, rfl⟩; exact (XB.keep (below_regrown w5 p.d p.os)).1
  have ldN : ∀ w', (∃ p : Regrown, w' = grow (redrawn w5 p.d) p.os) → w'.rangeAt bx 0 N := by rintro w' ⟨p, rfl⟩; exact range_sameM R2 ((below_regrown w5 p.d p.os).block _ LT.out)
  have BB : Hid (∀ d os, Below w.heap.size w (grow (redrawn w5 d) os)) := fun d os => B.trans ((below_regrown w5 d os).mono B.size)
  have RR : Hid (∀ d os, Rw8 (grow (redrawn w5 d) os) gl (lentL X)) := fun d os => RL.keep (below_regrown w5 d os)
  go_wp2_with fail
  (try simp only [Act.put])
  refine wp_region_quiet_below (by kernel_rfl) (by kernel_rfl) ?_
  repeat
    first
      | go_big_quiet_skip
      | (go_big_quiet_want; refine quiet_load_midN 27 _ rfl ba 0 rfl D1 _ ldA Tryd.underlying27 rfl n1 ?_; simp only [Act.put, List.setIfInBounds_toArray, List.set_cons_succ, List.set_cons_zero]; go_big_quiet_on)
      | (go_big_quiet_want; refine quiet_load_midN 27 _ rfl bc 0 rfl D2 _ ldB Tryd.underlying27 rfl n2 ?_; simp only [Act.put, List.setIfInBounds_toArray, List.set_cons_succ, List.set_cons_zero]; go_big_quiet_on)
      | (go_big_quiet_want; refine quiet_load_midN 24 _ rfl bx 0 rfl N _ ldN Tryd.underlying24 rfl nN ?_; simp only [Act.put, List.setIfInBounds_toArray, List.set_cons_succ, List.set_cons_zero]; go_big_quiet_on)
      | (go_big_quiet_want; go_big_quiet_op; go_big_quiet_on)
      | (go_big_quiet_want
         go_big_quiet_op
         apply Exists.intro
         refine ⟨fun p => ?_, ?_⟩
         · (first | (go_at_call 7; with_reducible exact Calls.regrown_of (Q1.out _ (BB.out p.d p.os))) | (go_at_call 8; with_reducible exact Calls.regrown_of (J1.out _ (BB.out p.d p.os))) | (go_at_call 9; with_reducible exact Calls.regrown_of (S1.out _ _ (BB.out p.d p.os) (RR.out p.d p.os))))
         go_big_quiet_on)
  refine wpQuiet_nil ?_
  rintro w6 ⟨r, rfl⟩
  have hb1 := below_regrown w5 r.d r.os
  generalize grow (redrawn w5 r.d) r.os = w6 at *
  clear BB RR ldA ldB ldN Q1 J1 S1 ER ES
  have SZ := hb1.size
  replace B := B.trans (hb1.mono B.size)
  replace R2 := range_sameM R2 (hb1.block _ LT.out)
  replace RL := RL.keep hb1
  replace XA := XA.keep hb1
  replace XB := XB.keep hb1
  replace LT : Hid (bx < w6.heap.size) := by have := LT.out; show bx < _; omega
  clear SZ
  clear hb1
  go_wp2
  refine H4.out _ _ ?_
  clear H4
  refine wp_seq_k fun K5 h5 => ?_
  have H5 : Hid _ := h5
  clear h5
  go_wp2_with fail
  with_reducible refine (BW.out _ B).mono ?_
  rintro e1 w7 ⟨v16, rfl, O16, hb1⟩
  have s16 : Hid (gl < w6.heap.size ∧ ba < w6.heap.size ∧ bc < w6.heap.size) := ⟨RL.lt, XA.2.2, XB.2.2⟩
  have SZ := hb1.size
  replace B := B.trans (hb1.mono B.size)
  replace R2 := range_sameM R2 (hb1.block _ LT.out)
  replace RL := RL.keep hb1
  replace XA := XA.keep hb1
  replace XB := XB.keep hb1
  replace LT : Hid (bx < w7.heap.size) := by have := LT.out; show bx < _; omega
  clear SZ
  clear hb1
  clear BW
  obtain ⟨a', g', c', rfl, v1, v2, v3, v5, v6, h0⟩ := O16.lies
  have PY : PtC.ok w7 ⟨a', g', 0, c', Y⟩ := ⟨v2, v1, by rw [eY.out]; exact fun x hx => XY.out x (List.mem_reverse.1 hx), v3⟩
  have OY : Hid (Y ≠ [] → gl < g' ∧ ba < g' ∧ bc < g' ∧ bx < g') := fun hy => by
    have h := v5 g' (v6 hy)
    have := s16.out
    have := OG.out
    omega
  have H0 : Hid (a' = none → c' = 0) := h0
  rw [ly.out]
  clear v1 v2 v3 v5 v6 h0 O16 s16
  go_wp2
  refine H5.out _ _ ?_
  clear H5
  have RL' : Rw8 w7 gl (X ++ List.replicate 70 195) := RL
  refine wp_seq_k fun K6 h6 => ?_
  have H6 : Hid _ := h6
  clear h6
  go_wp2_with ((refine wpList_copy_over rfl _ _ rfl rfl rfl em.out ly.out.symm (by rw [ly.out, em.out]) RL' PY.1 PY.2.2.2 ?_); intro w8 r9 hg1)
  clear RL'
  have SZ := hg1.size
  replace B := B.grown hg1 B.size (fun k hk => by have := Option.some.inj hk; have := OG.out; omega)
  replace R2 := range_sameM R2 (hg1.block _ LT.out (fun e => by have := Option.some.inj e; have := OG.out; have := BXE.out; omega))
  replace XA := XA.grown hg1 (fun e => by have := Option.some.inj e; have := SXA.out; omega)
  replace XB := XB.grown hg1 (fun e => by have := Option.some.inj e; have := SXB.out; omega)
  replace PY := PY.grown hg1 (fun hy e => by have h7 : _ = g' := Option.some.inj e; have := OY.out hy; omega)
  replace LT : Hid (bx < w8.heap.size) := by have := LT.out; show bx < _; omega
  clear SZ
  have RL : Rw8 w8 gl (lentL Y) := r9
  clear r9 hg1
  go_wp2
  refine H6.out _ _ ?_
  clear H6
  refine wp_seq_k fun K7 h7 => ?_
  have H7 : Hid _ := h7
  clear h7
  go_wp2_with fail
  with_reducible refine (P2.out _ _ B RL).mono ?_
  rintro e1 w9 ⟨rfl, hb1⟩
  have SZ := hb1.size
  replace B := B.trans (hb1.mono B.size)
  replace R2 := range_sameM R2 (hb1.block _ LT.out)
  replace XA := XA.keep hb1
  replace XB := XB.keep hb1
  replace PY := PY.keep hb1
  replace RL := RL.keep hb1
  replace LT : Hid (bx < w9.heap.size) := by have := LT.out; show bx < _; omega
  clear SZ
  clear hb1
  have t7 : w9.there ba 0 D3.toArray.size := by rw [z3]; exact XA.2.1
  have X7 := XA.put (D := D3) LD.out.2.2.1
  go_wp2_with (refine wpList_store_mid rfl 27 _ _ rfl ba 0 D3.toArray rfl rfl t7 (by rw [z3]; kernel_rfl) o3 ?_; refine wpList_worldA (fun V => w9.grownBy V (some ba) ∧ Bx V ba D3) ⟨grown_setCellsM _ _ _, X7⟩ ?_; rintro w10 ⟨hg1, Z7⟩)
  clear X7 t7
  have SZ := hg1.size
  replace B := B.grown hg1 B.size (fun k hk => by have := Option.some.inj hk; have := OG.out; have := SXA.out; omega)
  replace R2 := range_sameM R2 (hg1.block _ LT.out (fun e => by have := Option.some.inj e; have := OG.out; have := SXA.out; omega))
  replace XB := XB.grown hg1 (fun e => by have := Option.some.inj e; have := SXB.out; omega)
  replace PY := PY.grown hg1 (fun hy e => by have h7 : _ = g' := Option.some.inj e; have := OY.out hy; omega)
  replace RL := RL.grown hg1 (fun e => by have := Option.some.inj e; have := SXA.out; omega)
  replace LT : Hid (bx < w10.heap.size) := by have := LT.out; show bx < _; omega
  clear SZ
  replace XA : Bx w10 ba D3 := Z7
  clear Z7 hg1 P2
  go_wp2
  refine H7.out _ _ ?_
  clear H7
  refine wp_seq_k fun K8 h8 => ?_
  have H8 : Hid _ := h8
  clear h8
  go_wp2_with (refine wpList_load_mid rfl 24 _ rfl bx 0 rfl N _ R2 Tryd.underlying24 rfl nN ?_)
  with_reducible refine (I2.out _ _ B RL).mono ?_
  rintro e1 w11 ⟨rfl, hb1⟩
  have SZ := hb1.size
  replace B := B.trans (hb1.mono B.size)
  replace R2 := range_sameM R2 (hb1.block _ LT.out)
  replace XB := XB.keep hb1
  replace PY := PY.keep hb1
  replace RL := RL.keep hb1
  replace XA := XA.keep hb1
  replace LT : Hid (bx < w11.heap.size) := by have := LT.out; show bx < _; omega
  clear SZ
  clear hb1
  have t8 : w11.there bc 0 D4.toArray.size := by rw [z4]; exact XB.2.1
  have X8 := XB.put (D := D4) LD.out.2.2.2
  go_wp2_with (refine wpList_store_mid rfl 27 _ _ rfl bc 0 D4.toArray rfl rfl t8 (by rw [z4]; kernel_rfl) o4 ?_; refine wpList_worldA (fun V => w11.grownBy V (some bc) ∧ Bx V bc D4) ⟨grown_setCellsM _ _ _, X8⟩ ?_; rintro w12 ⟨hg1, Z8⟩)
  clear X8 t8
  have SZ := hg1.size
  replace B := B.grown hg1 B.size (fun k hk => by have := Option.some.inj hk; have := OG.out; have := SXB.out; omega)
  replace R2 := range_sameM R2 (hg1.block _ LT.out (fun e => by have := Option.some.inj e; have := OG.out; have := SXB.out; omega))
  replace PY := PY.grown hg1 (fun hy e => by have h7 : _ = g' := Option.some.inj e; have := OY.out hy; omega)
  replace RL := RL.grown hg1 (fun e => by have := Option.some.inj e; have := SXB.out; omega)
  replace XA := XA.grown hg1 (fun e => by have := Option.some.inj e; have := SXB.out; omega)
  replace LT : Hid (bx < w12.heap.size) := by have := LT.out; show bx < _; omega
  clear SZ
  replace XB : Bx w12 bc D4 := Z8
  clear Z8 hg1 I2
  go_wp2
  refine H8.out _ _ ?_
  clear H8
  refine wp_seq_k fun K9 h9 => ?_
  have H9 : Hid _ := h9
  clear h9
  have ldA : ∀ w', (∃ p : Regrown, w' = grow (redrawn w12 p.d) p.os) → w'.rangeAt ba 0 D3 := by rintro w' ⟨p, rfl⟩; exact (XA.keep (below_regrown w12 p.d p.os)).1
  have ldB : ∀ w', (∃ p : Regrown, w' = grow (redrawn w12 p.d) p.os) → w'.rangeAt bc 0 D4 := by rintro w' ⟨p, rfl⟩; exact (XB.keep (below_regrown w12 p.d p.os)).1
  have ldN : ∀ w', (∃ p : Regrown, w' = grow (redrawn w12 p.d) p.os) → w'.rangeAt bx 0 N := by rintro w' ⟨p, rfl⟩; exact range_sameM R2 ((below_regrown w12 p.d p.os).block _ LT.out)
  have PP : Hid (∀ d os, PtC.ok (grow (redrawn w12 d) os) ⟨a', g', 0, c', Y⟩) := fun d os => PY.keep (below_regrown w12 d os)
  have BB : Hid (∀ d os, Below w.heap.size w (grow (redrawn w12 d) os)) := fun d os => B.trans ((below_regrown w12 d os).mono B.size)
  have RR : Hid (∀ d os, Rw8 (grow (redrawn w12 d) os) gl (lentL Y)) := fun d os => RL.keep (below_regrown w12 d os)
  go_wp2_with fail
  (try simp only [Act.put])
  refine wp_region_quiet_below (by kernel_rfl) (by kernel_rfl) ?_
  repeat
    first
      | go_big_quiet_skip
      | (go_big_quiet_want; refine quiet_load_midN 27 _ rfl ba 0 rfl D3 _ ldA Tryd.underlying27 rfl n3 ?_; simp only [Act.put, List.setIfInBounds_toArray, List.set_cons_succ, List.set_cons_zero]; go_big_quiet_on)
      | (go_big_quiet_want; refine quiet_load_midN 27 _ rfl bc 0 rfl D4 _ ldB Tryd.underlying27 rfl n4 ?_; simp only [Act.put, List.setIfInBounds_toArray, List.set_cons_succ, List.set_cons_zero]; go_big_quiet_on)
      | (go_big_quiet_want; refine quiet_load_midN 24 _ rfl bx 0 rfl N _ ldN Tryd.underlying24 rfl nN ?_; simp only [Act.put, List.setIfInBounds_toArray, List.set_cons_succ, List.set_cons_zero]; go_big_quiet_on)
      | (go_big_quiet_want; go_big_quiet_op; go_big_quiet_on)
      | (go_big_quiet_want
         go_big_quiet_op
         apply Exists.intro
         refine ⟨fun p => ?_, ?_⟩
         · (first | (go_at_call 7; with_reducible exact Calls.regrown_of (Q2.out _ a' g' c' (BB.out p.d p.os) H0.out (PP.out p.d p.os))) | (go_at_call 8; with_reducible exact Calls.regrown_of (J2.out _ a' g' c' (BB.out p.d p.os) H0.out (PP.out p.d p.os))) | (go_at_call 9; with_reducible exact Calls.regrown_of (S2.out _ _ a' g' c' (RR.out p.d p.os) (PP.out p.d p.os))))
         go_big_quiet_on)
  refine wpQuiet_nil ?_
  rintro w13 ⟨r, rfl⟩
  have hb1 := below_regrown w12 r.d r.os
  generalize grow (redrawn w12 r.d) r.os = w13 at *
  have BF := B.trans (hb1.mono B.size)
  refine H9.out _ _ ?_
  clear H9
  go_wp2
  simp [bodyPost, results, Tryd.results3, go_sem]
  rw [BXE.out]
  exact BF
end Go.Proofs.YtmhcgjkemlcgoaaDoor

import Derived.Test.YtkmdhencmppemaaNbL
import Derived.Test.YtkmdhencmppemaaNbI
/- Layer 11: NibbleOrder. -/
namespace Go.Proofs.Ytkmdhencmppemaa
open Go.RowKit Go.Sort

theorem Az.take {a : Option Addr} {b o : Nat} {X : List Int} (h : Az a b o X) (n : Nat) : Az a b o (X.take n) := by
  rcases h with e | e
  · exact .inl (by rw [e, List.take_nil])
  · exact .inr e
theorem bz_new (W : World) (x : Int) : Bz (W.alloc (.cells #[.int .u8 x] 5)) W.heap.size 0 [x] := fun i hi => by
  have e : i = 0 := by simpa using hi
  subst e
  rw [World.cell?_alloc_mark]; rfl
theorem wrap64_small2 {x : Int} (h1 : -1 ≤ x) (h2 : x ≤ 1) : wrap64 x = x := by unfold wrap64; omega
theorem cmp12 : cmpI [1] [2] = -1 := by decide
theorem sign7 {A B C : List Int} {x y z : Int} (hx : x = cmpI A B) (hy : y = cmpI B C) (hz : z = cmpI A C) :
    (x = -1 ∧ y ≤ 0 ∧ z ≤ 0) ∨ (x = -1 ∧ 0 < y) ∨ (x = 0 ∧ y < 0 ∧ z ≤ 0) ∨ (x = 0 ∧ y = 0 ∧ z = 0) ∨ (x = 0 ∧ 0 < y ∧ 0 ≤ z) ∨ (x = 1 ∧ 0 ≤ y ∧ 0 ≤ z) ∨ (x = 1 ∧ y < 0) := by
  have r1 := lex_rng A B
  have r2 := lex_rng B C
  have t1 := @lex_trans A B C
  have t2 := @lex_trans C B A
  rw [lex_neg C B, lex_neg B A, lex_neg C A] at t2
  rw [cmp_lex] at hx hy hz
  subst hx hy hz
  generalize lex A B = x at *
  generalize lex B C = y at *
  generalize lex A C = z at *
  omega
set_option maxRecDepth 100000 in
set_option maxHeartbeats 16000000 in
theorem order_any {a0 a1 a2 : Option Addr} {b0 o0 c0 b1 o1 c1 b2 o2 c2 : Nat} {A B C : List Int} (w0 : A.length ≤ 140737488351232) (w1 : B.length ≤ 140737488351232) (w2 : C.length ≤ 140737488351232) (l0 : A.length ≤ c0) (l1 : B.length ≤ c1) (B0 : Bys A) (B1 : Bys B) (z0 : Az a0 b0 o0 A) (z1 : Az a1 b1 o1 B) (z2 : Az a2 b2 o2 C) (w : World) (y0 : Bz w b0 o0 A) (y1 : Bz w b1 o1 B) (y2 : Bz w b2 o2 C) :
    Calls Try.prog 3 #[.slice a0 A.length c0, .slice a1 B.length c1, .slice a2 C.length c2] w fun e w' => e = .returned (.bool true) ∧ Below w.heap.size w w' := by
  have HA : Hid (A.length ≤ 140737488351232 ∧ B.length ≤ 140737488351232 ∧ C.length ≤ 140737488351232 ∧ Bys A ∧ Bys B ∧ Az a0 b0 o0 A ∧ Az a1 b1 o1 B ∧ Az a2 b2 o2 C ∧ A.length ≤ c0 ∧ B.length ≤ c1) := ⟨w0, w1, w2, B0, B1, z0, z1, z2, l0, l1⟩
  have KL : Hid (∀ W, Below w.heap.size w W → Bz W b0 o0 A ∧ Bz W b1 o1 B ∧ Bz W b2 o2 C) := fun W h => ⟨y0.keep h, y1.keep h, y2.keep h⟩
  have BB : Below w.heap.size w w := Below.refl _ _
  have hab := fun (W : World) (h : Below w.heap.size w W) => Compare_any (c := c0) (c' := c1) (by omega) (by omega) z0 z1 W (y0.keep h) (y1.keep h)
  have hbc := fun (W : World) (h : Below w.heap.size w W) => Compare_any (c := c1) (c' := c2) (by omega) (by omega) z1 z2 W (y1.keep h) (y2.keep h)
  have hac := fun (W : World) (h : Below w.heap.size w W) => Compare_any (c := c0) (c' := c2) (by omega) (by omega) z0 z2 W (y0.keep h) (y2.keep h)
  have hba := fun (W : World) (h : Below w.heap.size w W) => Compare_any (c := c1) (c' := c0) (by omega) (by omega) z1 z0 W (y1.keep h) (y0.keep h)
  have hsm := fun (W : World) (h : Below w.heap.size w W) => same_any (c := c0) (c' := c1) (by omega) z0 z1 W (y0.keep h) (y1.keep h)
  have hco := fun (W : World) (h : Below w.heap.size w W) => Common_any (c := c0) (c' := c1) (by omega) (by omega) z0 z1 W (y0.keep h) (y1.keep h)
  have hoa := fun (W : World) (h : Below w.heap.size w W) => of_any (c := c0) B0 (by omega) z0 W (y0.keep h)
  have hob := fun (W : World) (h : Below w.heap.size w W) => of_any (c := c1) B1 (by omega) z1 W (y1.keep h)
  clear w0 w1 w2 l0 l1 B0 B1 z0 z1 z2 y0 y1 y2
  have ng : cmpI B A = - cmpI A B := by rw [cmp_lex, cmp_lex]; exact lex_neg B A
  have zr : cmpI A B = 0 ↔ A = B := by rw [cmp_lex]; exact lex_zero A B
  rw [ng] at hba
  obtain ⟨x, ex⟩ : ∃ x, x = cmpI A B := ⟨_, rfl⟩
  obtain ⟨y, ey⟩ : ∃ y, y = cmpI B C := ⟨_, rfl⟩
  obtain ⟨z, ez⟩ : ∃ z, z = cmpI A C := ⟨_, rfl⟩
  have sg := sign7 ex ey ez
  have xb : (x = 0) ↔ (A = B) := by rw [ex]; exact zr
  have SG : Hid (((x = -1 ∧ y ≤ 0 ∧ z ≤ 0) ∨ (x = -1 ∧ 0 < y) ∨ (x = 0 ∧ y < 0 ∧ z ≤ 0) ∨ (x = 0 ∧ y = 0 ∧ z = 0) ∨ (x = 0 ∧ 0 < y ∧ 0 ≤ z) ∨ (x = 1 ∧ 0 ≤ y ∧ 0 ≤ z) ∨ (x = 1 ∧ y < 0)) ∧ x = cmpI A B) := ⟨sg, ex⟩
  rw [← ex] at hab hba
  rw [← ey] at hbc
  rw [← ez] at hac
  have xr : -1 ≤ x ∧ x ≤ 1 := by omega
  obtain ⟨xr1, xr2⟩ := xr
  have hd : Hid (decide (A = B) = decide (x = 0)) := decide_eq_decide.2 xb.symm
  rw [hd.out] at hsm
  clear ex ey ez sg xb ng zr
  go_enter Try.func3, Try.ntmps3
  refine wp_seq_k fun K0 h0 => ?_
  have H0 : Hid _ := h0
  clear h0
  go_wp2
  refine H0.out _ _ ?_
  clear H0 K0
  refine wp_seq_k fun K1 h1 => ?_
  have H1 : Hid _ := h1
  clear h1
  go_wp2_with fail
  with_reducible refine (hab w BB).mono ?_
  rintro e w1 ⟨rfl, BN⟩
  replace BB := BB.trans (BN.mono BB.size)
  clear BN
  clear hab
  go_wp2
  refine H1.out _ _ ?_
  clear H1 K1
  refine wp_seq_k fun K2 h2 => ?_
  have H2 : Hid _ := h2
  clear h2
  go_wp2_with fail
  with_reducible refine (hbc w1 BB).mono ?_
  rintro e w2 ⟨rfl, BN⟩
  replace BB := BB.trans (BN.mono BB.size)
  clear BN
  clear hbc
  go_wp2
  refine H2.out _ _ ?_
  clear H2 K2
  refine wp_seq_k fun K3 h3 => ?_
  have H3 : Hid _ := h3
  clear h3
  go_wp2_with fail
  with_reducible refine (hac w2 BB).mono ?_
  rintro e w3 ⟨rfl, BN⟩
  replace BB := BB.trans (BN.mono BB.size)
  clear BN
  clear hac
  go_wp2
  refine H3.out _ _ ?_
  clear H3 K3
  refine wp_seq_k fun K4 h4 => ?_
  have H4 : Hid _ := h4
  clear h4
  go_wp2_with fail
  with_reducible refine (hba w3 BB).mono ?_
  rintro e w4 ⟨rfl, BN⟩
  replace BB := BB.trans (BN.mono BB.size)
  clear BN
  clear hba
  have nn : wrap64 x = x := wrap64_small2 xr1 xr2
  go_wp2_with fail
  with_reducible refine (hsm w4 BB).mono ?_
  rintro e w5 ⟨rfl, BN⟩
  replace BB := BB.trans (BN.mono BB.size)
  clear BN
  clear hsm
  go_wp2_with fail
  refine calls_world (fun W => Bz W w5.heap.size 0 [1] ∧ Bz W (w5.heap.size + 1) 0 [2] ∧ Below w.heap.size w W) ⟨(bz_new w5 1).keep ((Below.refl _ _).alloc (Nat.le_refl _) _), by have := bz_new (w5.alloc (.cells #[.int .u8 1] 5)) 2; simpa using this, (BB.alloc BB.size _).alloc (by have := BB.size; simp; omega) _⟩ ?_
  clear BB
  rintro W5 ⟨p1, p2, BB⟩
  have hc := Compare_any (c := 1) (c' := 1) (a := some ⟨w5.heap.size, 0, none⟩) (a' := some ⟨w5.heap.size + 1, 0, none⟩) (X := [1]) (Z := [2]) (by decide) (by decide) (.inr rfl) (.inr rfl) W5 p1 p2
  rw [cmp12, show ([1] : List Int).length = 1 from rfl, show ([2] : List Int).length = 1 from rfl] at hc
  with_reducible refine hc.mono ?_
  rintro e w6 ⟨rfl, BN⟩
  replace BB := BB.trans (BN.mono BB.size)
  clear BN hc p1 p2
  have d1 : decide (x < -1) = false := decide_eq_false (by omega)
  have d2 : decide (1 < x) = false := decide_eq_false (by omega)
  go_wp2
  refine H4.out _ _ ?_
  clear H4 K4
  clear d1 d2 nn
  refine wp_seq_k fun K6 h6 => ?_
  have H6 : Hid _ := h6
  clear h6
  have TL : ∀ (t12 t13 t14 t15 t16 t17 t18 t19 t20 t21 t22 t23 t24 t25 t26 t27 t28 t29 t30 t31 t32 t33 t34 t35 t36 t37 t38 t39 t40 t41 t42 t43 t44 t45 t46 t47 t48 t49 t50 t51 t52 t53 t54 t55 t56 t57 t58 t59 t60 t61 t62 t63 t64 t65 t66 t67 t68 t69 t70 : Value), K6 { tmps := #[.slice a0 A.length c0, .slice a1 B.length c1, .slice a2 C.length c2, undef, undef, undef, .bool false, .int .i64 x, .int .i64 y, .int .i64 z, undef, undef, t12, t13, t14, t15, t16, t17, t18, t19, t20, t21, t22, t23, t24, t25, t26, t27, t28, t29, t30, t31, t32, t33, t34, t35, t36, t37, t38, t39, t40, t41, t42, t43, t44, t45, t46, t47, t48, t49, t50, t51, t52, t53, t54, t55, t56, t57, t58, t59, t60, t61, t62, t63, t64, t65, t66, t67, t68, t69, t70, undef, undef, undef, undef, undef, undef, undef, undef, undef, undef, undef, undef, undef, undef, undef, undef, undef, undef, undef, undef, undef, undef, undef, undef, undef, undef, undef, undef, undef, undef, undef, undef, undef, undef, undef, undef, undef, undef, undef, undef, undef, undef, undef, undef, undef, undef, undef, undef, undef, undef, undef, undef, undef, undef, undef, undef, undef, undef, undef, undef, undef, undef, undef, undef, undef, undef, undef, undef, undef, undef, undef, undef, undef, undef, undef], defers := [] } w6 := by
    intro t12 t13 t14 t15 t16 t17 t18 t19 t20 t21 t22 t23 t24 t25 t26 t27 t28 t29 t30 t31 t32 t33 t34 t35 t36 t37 t38 t39 t40 t41 t42 t43 t44 t45 t46 t47 t48 t49 t50 t51 t52 t53 t54 t55 t56 t57 t58 t59 t60 t61 t62 t63 t64 t65 t66 t67 t68 t69 t70
    refine H6.out _ _ ?_
    clear H6 K6
    refine wp_seq_k fun K8 h8 => ?_
    have H8 : Hid _ := h8
    clear h8
    go_wp2_with fail
    with_reducible refine (hco w6 BB).mono ?_
    rintro e w7 ⟨rfl, BN⟩
    replace BB := BB.trans (BN.mono BB.size)
    clear BN
    clear hco
    obtain ⟨n, en⟩ : ∃ n, n = comN A B := ⟨_, rfl⟩
    rw [← en]
    have EN : Hid (n = comN A B) := en
    clear en
    go_wp2
    refine H8.out _ _ ?_
    clear H8 K8
    refine wp_seq_k fun K9 h9 => ?_
    have H9 : Hid _ := h9
    clear h9
    go_wp2_with fail
    with_reducible refine (hoa w7 BB).mono ?_
    rintro e w8 ⟨v8, rfl, p8, BN⟩
    replace BB := BB.trans (BN.mono BB.size)
    clear BN
    go_wp2_with fail
    with_reducible refine (hob w8 BB).mono ?_
    rintro e w9 ⟨v9, rfl, p9, BN⟩
    replace BB := BB.trans (BN.mono BB.size)
    replace p8 := p8.keep BN
    clear BN
    obtain ⟨a8, g8, k8, rfl, _, _, _, _, _, _⟩ := p8.lies
    obtain ⟨a9, g9, k9, rfl, _, _, _, _, _, _⟩ := p9.lies
    obtain ⟨gx, zx, yx⟩ := p8.at
    obtain ⟨gy, zy, yy⟩ := p9.at
    have hc := Common_any (c := k8) (c' := k9) (by rw [ofL_len]; have := HA.out.1; omega) (by rw [ofL_len]; have := HA.out.2.1; omega) zx zy w9 yx yy
    obtain ⟨m, em⟩ : ∃ m, m = comN (ofL A) (ofL B) := ⟨_, rfl⟩
    rw [← em] at hc
    have EM : Hid (m = comN (ofL A) (ofL B)) := em
    clear em
    go_wp2_with fail
    with_reducible refine hc.mono ?_
    rintro e w10 ⟨rfl, BN⟩
    replace BB := BB.trans (BN.mono BB.size)
    clear BN hc zx zy yx yy p8 p9
    have mn : Hid (m = 2 * n ∨ m = 2 * n + 1) := by
      show m = 2 * n ∨ m = 2 * n + 1
      rw [EM.out, EN.out]; exact com_of A B
    clear EM
    go_wp2
    refine H9.out _ _ ?_
    clear H9 K9
    refine wp_seq_k fun K10 h10 => ?_
    have H10 : Hid _ := h10
    clear h10
    have TL2 : ∀ (t12 t13 t14 t15 t16 t17 t18 t19 t20 t21 t22 t23 t24 t25 t26 t27 t28 t29 t30 t31 t32 t33 t34 t35 t36 t37 t38 t39 t40 t41 t42 t43 t44 t45 t46 t47 t48 t49 t50 t51 t52 t53 t54 t55 t56 t57 t58 t59 t60 t61 t62 t63 t64 t65 t66 t67 t68 t69 t70 t71 t72 t73 t74 t75 t76 t77 t78 t79 t80 t81 t82 t83 t84 t85 t86 t87 t88 t89 t90 t91 t92 t93 t94 t95 t96 t97 t98 t99 t100 t101 t102 t103 t104 t105 t106 t107 t108 t109 t110 t111 t112 t113 t114 t115 t116 t117 t118 t119 t120 t121 t122 t123 t124 t125 : Value) (W : World), Below w.heap.size w W → K10 { tmps := #[.slice a0 A.length c0, .slice a1 B.length c1, .slice a2 C.length c2, undef, undef, undef, .bool false, .int .i64 x, .int .i64 y, .int .i64 z, .int .i64 (n : Int), .int .i64 (m : Int), t12, t13, t14, t15, t16, t17, t18, t19, t20, t21, t22, t23, t24, t25, t26, t27, t28, t29, t30, t31, t32, t33, t34, t35, t36, t37, t38, t39, t40, t41, t42, t43, t44, t45, t46, t47, t48, t49, t50, t51, t52, t53, t54, t55, t56, t57, t58, t59, t60, t61, t62, t63, t64, t65, t66, t67, t68, t69, t70, t71, t72, t73, t74, t75, t76, t77, t78, t79, t80, t81, t82, t83, t84, t85, t86, t87, t88, t89, t90, t91, t92, t93, t94, t95, t96, t97, t98, t99, t100, t101, t102, t103, t104, t105, t106, t107, t108, t109, t110, t111, t112, t113, t114, t115, t116, t117, t118, t119, t120, t121, t122, t123, t124, t125, undef, undef, undef, undef, undef, undef, undef, undef, undef, undef, undef, undef, undef, undef, undef, undef, undef, undef, undef, undef], defers := [] } W := by
      intro t12 t13 t14 t15 t16 t17 t18 t19 t20 t21 t22 t23 t24 t25 t26 t27 t28 t29 t30 t31 t32 t33 t34 t35 t36 t37 t38 t39 t40 t41 t42 t43 t44 t45 t46 t47 t48 t49 t50 t51 t52 t53 t54 t55 t56 t57 t58 t59 t60 t61 t62 t63 t64 t65 t66 t67 t68 t69 t70 t71 t72 t73 t74 t75 t76 t77 t78 t79 t80 t81 t82 t83 t84 t85 t86 t87 t88 t89 t90 t91 t92 t93 t94 t95 t96 t97 t98 t99 t100 t101 t102 t103 t104 t105 t106 t107 t108 t109 t110 t111 t112 t113 t114 t115 t116 t117 t118 t119 t120 t121 t122 t123 t124 t125 W BW
      clear BB
      have BB := BW
      clear BW
      refine H10.out _ _ ?_
      clear H10 K10
      go_wp2_with fail
      with_reducible refine (hoa W BB).mono ?_
      rintro e w12 ⟨v12, rfl, p12, BN⟩
      replace BB := BB.trans (BN.mono BB.size)
      clear BN
      go_wp2_with fail
      with_reducible refine (hob w12 BB).mono ?_
      rintro e w13 ⟨v13, rfl, p13, BN⟩
      replace BB := BB.trans (BN.mono BB.size)
      replace p12 := p12.keep BN
      clear BN hoa hob
      obtain ⟨a8, g8, k8, rfl, _, _, _, _, _, _⟩ := p12.lies
      obtain ⟨a9, g9, k9, rfl, _, _, _, _, _, _⟩ := p13.lies
      obtain ⟨gx, zx, yx⟩ := p12.at
      obtain ⟨gy, zy, yy⟩ := p13.at
      have hc := Compare_any (c := k8) (c' := k9) (by rw [ofL_len]; have := HA.out.1; omega) (by rw [ofL_len]; have := HA.out.2.1; omega) zx zy w13 yx yy
      rw [cmp_lex, lex_of, ← cmp_lex, ← SG.out.2] at hc
      go_wp2_with fail
      with_reducible refine hc.mono ?_
      rintro e w14 ⟨rfl, BN⟩
      replace BB := BB.trans (BN.mono BB.size)
      clear BN hc zx zy yx yy p12 p13
      have HB : Hid (Below w.heap.size w w14) := BB
      have nb : (n : Int) ≤ 140737488351232 := by have := com_le A B; rw [← EN.out] at this; have := HA.out.1; omega
      have mn2 := mn.out
      clear mn BB
      rcases mn2 with rfl | rfl
      · go_wp2
        simp [bodyPost, results, Try.results3, go_sem]
        exact HB.out
      · have ne : ((2 * (n : Int) + 1) == 2 * (n : Int)) = false := beq_eq_false_iff_ne.2 (by omega)
        go_wp2
        simp [bodyPost, results, Try.results3, go_sem]
        exact HB.out
    have LE : n ≤ A.length ∧ n ≤ B.length := by rw [EN.out]; exact com_le A B
    have tk : A.take n = B.take n := by rw [EN.out]; exact com_take A B
    have lA : (A.take n).length = n := by rw [List.length_take]; omega
    have lB : (B.take n).length = n := by rw [List.length_take]; omega
    have HS : Hid (∀ d os, Calls Try.prog 5 #[.slice a0 n c0, .slice a1 n c1] (grow (redrawn w10 d) os) fun e w' => e = .returned (.bool true) ∧ Below (grow (redrawn w10 d) os).heap.size (grow (redrawn w10 d) os) w') := fun d os => by
      have h := same_any (a := a0) (a' := a1) (c := c0) (c' := c1) (X := A.take n) (Z := B.take n) (by rw [lA]; have := HA.out.1; omega) (HA.out.2.2.2.2.2.1.take n) (HA.out.2.2.2.2.2.2.1.take n) (grow (redrawn w10 d) os) ((KL.out w10 BB).1.take.keep (below_regrown w10 d os)) ((KL.out w10 BB).2.1.take.keep (below_regrown w10 d os))
      rw [lA, lB, decide_eq_true tk] at h
      exact h
    have u1 : (n : Int) ≤ (A.length : Int) := by omega
    have u2 : (n : Int) ≤ (B.length : Int) := by omega
    have u3 : (n : Int) ≤ (c0 : Int) := by have := HA.out.2.2.2.2.2.2.2.2.1; omega
    have u4 : (n : Int) ≤ (c1 : Int) := by have := HA.out.2.2.2.2.2.2.2.2.2; omega
    have d0 : decide ((n : Int) < 0) = false := decide_eq_false (by omega)
    have d1 : decide (A.length < n) = false := decide_eq_false (by omega)
    have d2 : decide (B.length < n) = false := decide_eq_false (by omega)
    have d3 : decide ((A.length : Int) < (n : Int)) = false := decide_eq_false (by omega)
    have d4 : decide ((B.length : Int) < (n : Int)) = false := decide_eq_false (by omega)
    have three : (n = A.length) ∨ (n < A.length ∧ n = B.length) ∨ (n < A.length ∧ n < B.length) := by omega
    have TL3 : Hid _ := TL2
    have HB : Hid (Below w.heap.size w w10) := BB
    clear TL2 BB H10 tk lA lB LE hoa hob SG mn xr1 xr2
    rcases three with f1 | ⟨f1, f2⟩ | ⟨f1, f2⟩
    · have j1 : decide ((n : Int) < (A.length : Int)) = false := decide_eq_false (by omega)
      have j1' : decide (n < A.length) = false := decide_eq_false (by omega)
      clear f1
      go_wp2_with fail
      refine wp_region_quiet_below (by kernel_rfl) (by kernel_rfl) ?_
      repeat
        first
          | go_big_quiet_skip
          | (go_big_quiet_want; go_big_quiet_op; go_big_quiet_on)
          | (go_big_quiet_want
             go_big_quiet_op
             apply Exists.intro
             refine ⟨fun p => ?_, ?_⟩
             · (go_at_call 5; with_reducible exact Calls.regrown_of (HS.out p.d p.os))
             go_big_quiet_on)
      refine wpQuiet_nil ?_
      rintro w11 ⟨p, rfl⟩
      have hb := below_regrown w10 p.d p.os
      generalize grow (redrawn w10 p.d) p.os = w11 at *
      have H1 : Hid (Below w.heap.size w w11) := HB.out.trans (hb.mono HB.out.size)
      clear hb
      go_wp2
      exact TL3.out _ _ _ _ _ _ _ _ _ _ _ _ _ _ _ _ _ _ _ _ _ _ _ _ _ _ _ _ _ _ _ _ _ _ _ _ _ _ _ _ _ _ _ _ _ _ _ _ _ _ _ _ _ _ _ _ _ _ _ _ _ _ _ _ _ _ _ _ _ _ _ _ _ _ _ _ _ _ _ _ _ _ _ _ _ _ _ _ _ _ _ _ _ _ _ _ _ _ _ _ _ _ _ _ _ _ _ _ _ _ _ _ _ _ w11 H1.out
    · have j1 : (n : Int) < (A.length : Int) := by omega
      have j2 : decide ((n : Int) < (B.length : Int)) = false := decide_eq_false (by omega)
      have j2' : decide (n < B.length) = false := decide_eq_false (by omega)
      have j1' : decide (n < A.length) = true := decide_eq_true f1
      clear f1 f2
      go_wp2_with fail
      refine wp_region_quiet_below (by kernel_rfl) (by kernel_rfl) ?_
      repeat
        first
          | go_big_quiet_skip
          | (go_big_quiet_want; go_big_quiet_op; go_big_quiet_on)
          | (go_big_quiet_want
             go_big_quiet_op
             apply Exists.intro
             refine ⟨fun p => ?_, ?_⟩
             · (go_at_call 5; with_reducible exact Calls.regrown_of (HS.out p.d p.os))
             go_big_quiet_on)
      refine wpQuiet_nil ?_
      rintro w11 ⟨p, rfl⟩
      have hb := below_regrown w10 p.d p.os
      generalize grow (redrawn w10 p.d) p.os = w11 at *
      have H1 : Hid (Below w.heap.size w w11) := HB.out.trans (hb.mono HB.out.size)
      clear hb
      go_wp2
      exact TL3.out _ _ _ _ _ _ _ _ _ _ _ _ _ _ _ _ _ _ _ _ _ _ _ _ _ _ _ _ _ _ _ _ _ _ _ _ _ _ _ _ _ _ _ _ _ _ _ _ _ _ _ _ _ _ _ _ _ _ _ _ _ _ _ _ _ _ _ _ _ _ _ _ _ _ _ _ _ _ _ _ _ _ _ _ _ _ _ _ _ _ _ _ _ _ _ _ _ _ _ _ _ _ _ _ _ _ _ _ _ _ _ _ _ _ w11 H1.out
    · have j1 : (n : Int) < (A.length : Int) := by omega
      have j2 : (n : Int) < (B.length : Int) := by omega
      have j1' : decide (n < A.length) = true := decide_eq_true f1
      have j2' : decide (n < B.length) = true := decide_eq_true f2
      have q1 := (KL.out w10 HB.out).1 n f1
      have q2 := (KL.out w10 HB.out).2.1 n f2
      obtain rfl := HA.out.2.2.2.2.2.1.cons (by omega)
      obtain rfl := HA.out.2.2.2.2.2.2.1.cons (by omega)
      have ne : (A.getD n 0 == B.getD n 0) = false := beq_eq_false_iff_ne.2 (by have h := com_ne (X := A) (Z := B); rw [← EN.out] at h; exact h f1 f2)
      generalize A.getD n 0 = xa at q1 ne
      generalize B.getD n 0 = xb at q2 ne
      have gG := fun d os => cell_regrown q1 d os
      have gX := fun d os => cell_regrown q2 d os
      have NE : Hid ((xa == xb) = false) := ne
      clear f1 f2 ne
      go_wp2_with fail
      refine wp_region_quiet_below (by kernel_rfl) (by kernel_rfl) ?_
      repeat
        first
          | go_big_quiet_skip
          | (go_big_quiet_want; go_big_quiet_op; go_big_quiet_on)
          | (go_big_quiet_want
             go_big_quiet_op
             apply Exists.intro
             refine ⟨fun p => ?_, ?_⟩
             · (go_at_call 5; with_reducible exact Calls.regrown_of (HS.out p.d p.os))
             go_big_quiet_on)
      refine wpQuiet_nil ?_
      rintro w11 ⟨p, rfl⟩
      have hb := below_regrown w10 p.d p.os
      generalize grow (redrawn w10 p.d) p.os = w11 at *
      have H1 : Hid (Below w.heap.size w w11) := HB.out.trans (hb.mono HB.out.size)
      clear hb
      rw [NE.out]
      go_wp2
      exact TL3.out _ _ _ _ _ _ _ _ _ _ _ _ _ _ _ _ _ _ _ _ _ _ _ _ _ _ _ _ _ _ _ _ _ _ _ _ _ _ _ _ _ _ _ _ _ _ _ _ _ _ _ _ _ _ _ _ _ _ _ _ _ _ _ _ _ _ _ _ _ _ _ _ _ _ _ _ _ _ _ _ _ _ _ _ _ _ _ _ _ _ _ _ _ _ _ _ _ _ _ _ _ _ _ _ _ _ _ _ _ _ _ _ _ _ w11 H1.out

  have sg := SG.out.1
  have HB : Hid (Below w.heap.size w w6) := BB
  clear BB H6 SG xr1 xr2
  rcases sg with ⟨rfl, s1, s2⟩ | ⟨rfl, s1⟩ | ⟨rfl, s1, s2⟩ | ⟨rfl, rfl, rfl⟩ | ⟨rfl, s1, s2⟩ | ⟨rfl, s1, s2⟩ | ⟨rfl, s1⟩
  all_goals go_wp2
  all_goals exact TL _ _ _ _ _ _ _ _ _ _ _ _ _ _ _ _ _ _ _ _ _ _ _ _ _ _ _ _ _ _ _ _ _ _ _ _ _ _ _ _ _ _ _ _ _ _ _ _ _ _ _ _ _ _ _ _ _ _ _
end Go.Proofs.Ytkmdhencmppemaa

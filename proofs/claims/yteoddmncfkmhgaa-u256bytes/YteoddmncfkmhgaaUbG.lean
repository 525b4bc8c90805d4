import Derived.Test.YteoddmncfkmhgaaUbF
/- U256Bytes: the law from roomy on. -/
namespace Go.Proofs.Yteoddmncfkmhgaa
open Go.RowKit Go.Sort

theorem Byts.of {X : List Int} (h : Bys X) : Byts X := fun i => h.at i
set_option maxRecDepth 100000 in
set_option maxHeartbeats 16000000 in
theorem ub_tail2 {a : Option Addr} {bb ob c m : Nat} {X : List Int} (hm : X.length = m) (hm2 : m ≤ 140737488351232) (hX : Byts X) (hZ : Az a bb ob X) (w W : World) (hB : Below w.heap.size w W) (KL : ∀ W, Below w.heap.size w W → Bz W bb ob X) (t0 t2 t3 t5 t6 t7 t8 t9 t10 t11 t12 t13 t14 t15 t16 t17 t18 t19 t20 t21 t22 t23 t24 t25 t26 t27 t28 t29 t30 t31 t32 t33 t34 t35 t36 t37 t38 t39 t40 t41 t42 t43 t44 t45 t46 t47 t48 t49 t50 t51 t52 t53 t54 t55 t56 t57 t58 t59 t60 t61 t62 t63 t64 t65 t66 t67 t68 t69 t70 t71 t72 t73 t74 t75 t76 t77 t78 t79 t80 t81 t82 t83 t84 t85 t86 t87 t88 t89 t90 t91 t92 t93 t94 t95 t96 t97 t98 t99 t100 t101 t102 t103 t104 t105 t106 t107 t108 t109 t110 t111 t112 t113 t114 t115 t116 t117 t118 t119 t120 t121 t122 t123 t124 t125 t126 t127 t128 t129 t130 t131 t132 t133 t134 t135 t136 t137 t138 t139 t140 t141 t142 t143 t144 t145 t146 t147 t148 t149 t150 t151 t152 t153 t154 t155 t156 t157 t158 t159 t160 t161 : Value) :
    WpFrom Try.prog Try.f3 9 (bodyPost Try.prog Try.f3 fun e w' => e = .returned (.bool true) ∧ Below w.heap.size w w') { tmps := #[t0, .slice a m c, t2, t3, .bool false, t5, t6, t7, t8, t9, t10, t11, t12, t13, t14, t15, t16, t17, t18, t19, t20, t21, t22, t23, t24, t25, t26, t27, t28, t29, t30, t31, t32, t33, t34, t35, t36, t37, t38, t39, t40, t41, t42, t43, t44, t45, t46, t47, t48, t49, t50, t51, t52, t53, t54, t55, t56, t57, t58, t59, t60, t61, t62, t63, t64, t65, t66, t67, t68, t69, t70, t71, t72, t73, t74, t75, t76, t77, t78, t79, t80, t81, t82, t83, t84, t85, t86, t87, t88, t89, t90, t91, t92, t93, t94, t95, t96, t97, t98, t99, t100, t101, t102, t103, t104, t105, t106, t107, t108, t109, t110, t111, t112, t113, t114, t115, t116, t117, t118, t119, t120, t121, t122, t123, t124, t125, t126, t127, t128, t129, t130, t131, t132, t133, t134, t135, t136, t137, t138, t139, t140, t141, t142, t143, t144, t145, t146, t147, t148, t149, t150, t151, t152, t153, t154, t155, t156, t157, t158, t159, t160, t161], defers := [] } W := by
  refine WpFrom.intro rfl ?_
  have HA : Hid (X.length = m ∧ m ≤ 140737488351232 ∧ Byts X ∧ Az a bb ob X ∧ ∀ W, Below w.heap.size w W → Bz W bb ob X) := ⟨hm, hm2, hX, hZ, KL⟩
  have m8 : (m : Int) ≤ 140737488351232 := by omega
  have BB := hB
  have LR : Hid ((X ++ List.replicate 9 165).length = m + 9) := by show _ = _; rw [List.length_append, hm]; simp
  clear hm hm2 hX hZ KL hB
  refine wp_seq_k fun K9 h9 => ?_
  have H9 : Hid _ := h9
  clear h9
  have hc := roomy_any (cb := c) HA.out.2.2.2.1 (by rw [HA.out.1]; have := HA.out.2.1; omega) W (HA.out.2.2.2.2 W BB)
  rw [HA.out.1] at hc
  go_wp2_with fail
  with_reducible refine hc.mono ?_
  rintro e w1 ⟨g, rfl, gw, rG, BN⟩
  have G0 : Hid (w.heap.size ≤ g) := Nat.le_trans BB.size gw
  replace BB := BB.trans (BN.mono BB.size)
  have G1 : Hid (g < w1.heap.size) := rG.1.lt (by rw [LR.out]; omega)
  clear hc BN gw
  go_wp2
  refine H9.out _ _ ?_
  clear H9
  refine wp_seq_k fun K10 h10 => ?_
  have H10 : Hid _ := h10
  clear h10
  have hc := get_all (c := m + 9) HA.out.2.2.1 w1 rG.front
  rw [HA.out.1] at hc
  go_wp2_with fail
  with_reducible refine hc.mono ?_
  rintro e w2 ⟨rfl, BN⟩
  replace BB := BB.trans (BN.mono BB.size)
  replace rG := rG.keep (by rw [LR.out]; omega) BN
  have G2 : Hid (g < w2.heap.size) := Nat.lt_of_lt_of_le G1.out BN.size
  clear hc BN G1
  generalize hgv : gv X = N at *
  have HV : Hid (gv X = N) := hgv
  clear hgv
  go_wp2
  refine H10.out _ _ ?_
  clear H10
  refine wp_world (fun W => Below w.heap.size w W ∧ Bts W g (X ++ List.replicate 9 165) ∧ Var W w2.heap.size N) ⟨BB.alloc BB.size _, rG.alloc (by rw [LR.out]; omega) _, Var.new rfl⟩ ?_
  have B2 : Hid (w.heap.size ≤ w2.heap.size ∧ g ≠ w2.heap.size) := ⟨BB.size, by have := G2.out; omega⟩
  clear BB rG
  generalize w2.heap.size = b11 at *
  rintro W2 ⟨BB, rG, v1⟩
  refine wp_seq_k fun K11 h11 => ?_
  have H11 : Hid _ := h11
  clear h11
  have hc := rget_all (c := c) HA.out.2.2.1 HA.out.2.2.2.1 W2 (HA.out.2.2.2.2 W2 BB)
  rw [HA.out.1, HV.out] at hc
  go_wp2_with fail
  with_reducible refine hc.mono ?_
  rintro e w3 ⟨rfl, BN⟩
  replace BB := BB.trans (BN.mono BB.size)
  replace rG := rG.keep (by rw [LR.out]; omega) BN
  replace v1 := v1.keep BN
  have G3 : Hid (g < w3.heap.size ∧ b11 < w3.heap.size) := ⟨rG.1.lt (by rw [LR.out]; omega), v1.1.row.lt (by simp)⟩
  clear hc BN
  go_wp2
  refine H11.out _ _ ?_
  clear H11
  refine wp_world (fun W => Below w.heap.size w W ∧ Bts W g (X ++ List.replicate 9 165) ∧ Var W b11 N ∧ Var W w3.heap.size N) ⟨BB.alloc BB.size _, rG.alloc (by rw [LR.out]; omega) _, v1.alloc _, Var.new rfl⟩ ?_
  have NN : Hid (g ≠ b11 ∧ g ≠ w3.heap.size ∧ b11 ≠ w3.heap.size ∧ w.heap.size ≤ g ∧ w.heap.size ≤ b11 ∧ w.heap.size ≤ w3.heap.size) := ⟨B2.out.2, by have := G3.out; omega, by have := G3.out; omega, G0.out, B2.out.1, BB.size⟩
  clear BB rG v1 G3 B2 G2 G0
  generalize w3.heap.size = b13 at *
  rintro W3 ⟨BB, rG, v1, v3⟩
  have S3 : Hid (Below w.heap.size w W3 ∧ Bts W3 g (X ++ List.replicate 9 165) ∧ Var W3 b11 N ∧ Var W3 b13 N) := ⟨BB, rG, v1, v3⟩
  clear BB rG v1 v3
  refine wp_seq_k fun K12 h12 => ?_
  have H12 : Hid _ := h12
  clear h12
  obtain ⟨x0, x1, x2, x3⟩ := S3.out.2.2.1.1
  obtain ⟨y0, y1, y2, y3⟩ := S3.out.2.2.2.1
  have hn := unum_any (ge X)
  have ey : ∀ w, (Op.equalIn 10000 24 (.agg #[.int .u64 (l0 N), .int .u64 (l1 N), .int .u64 (l2 N), .int .u64 (l3 N)]) (.agg #[.int .u64 (l0 N), .int .u64 (l1 N), .int .u64 (l2 N), .int .u64 (l3 N)])).run Try.prog w = .ok true w := fun w => eq_same (l0 N) (l1 N) (l2 N) (l3 N) w
  have hs := usame_any (c := m + 9) (c' := c) (X := X) (Z := X) (by rw [HA.out.1]; have := HA.out.2.1; omega) (.inr rfl) HA.out.2.2.2.1 W3 S3.out.2.1.front (HA.out.2.2.2.2 W3 S3.out.1)
  rw [HA.out.1, decide_eq_true rfl] at hs
  go_wp2_with (first | ((with_reducible refine (hn _).mono ?_); rintro e9 w9 ⟨rfl, hw9⟩; (rw [hw9]); (clear hw9 w9)) | ((with_reducible refine hs.mono ?_); rintro e9 w3b ⟨rfl, BN⟩))
  have S3b : Hid (Below w.heap.size w w3b ∧ Bts w3b g (X ++ List.replicate 9 165) ∧ Var w3b b11 N ∧ Var w3b b13 N) := ⟨S3.out.1.trans (BN.mono S3.out.1.size), S3.out.2.1.keep (by rw [LR.out]; omega) BN, S3.out.2.2.1.keep BN, S3.out.2.2.2.keep BN⟩
  clear S3 hs BN x0 x1 x2 x3 y0 y1 y2 y3
  (try go_wp2)
  refine H12.out _ _ ?_
  clear H12
  clear hn ey
  refine wp_seq_k fun K13 h13 => ?_
  have H13 : Hid _ := h13
  clear h13
  have hc := strict_all (c := m + 9) HA.out.2.2.1 w3b S3b.out.2.1.front
  rw [HA.out.1] at hc
  go_wp2_with fail
  with_reducible refine hc.mono ?_
  rintro e w4 ⟨rfl, BN⟩
  have S4 : Hid (Below w.heap.size w w4 ∧ Bts w4 g (X ++ List.replicate 9 165) ∧ Var w4 b11 N ∧ Var w4 b13 N) := ⟨S3b.out.1.trans (BN.mono S3b.out.1.size), S3b.out.2.1.keep (by rw [LR.out]; omega) BN, S3b.out.2.2.1.keep BN, S3b.out.2.2.2.keep BN⟩
  clear hc BN S3b
  generalize hsv : sv X = M at *
  have HS : Hid (sv X = M) := hsv
  clear hsv
  obtain ⟨x0, x1, x2, x3⟩ := S4.out.2.2.1.1
  obtain ⟨y0, y1, y2, y3⟩ := S4.out.2.2.1.2.all4
  go_wp2
  refine H13.out _ _ ?_
  clear H13
  refine wp_world (fun W => Below w.heap.size w W ∧ Bts W g (X ++ List.replicate 9 165) ∧ Var W b11 M ∧ Var W b13 N) ⟨below_set4 S4.out.1 NN.out.2.2.2.2.1 _ _ _ _, S4.out.2.1.other4 NN.out.1.symm _ _ _ _, S4.out.2.2.1.sets M, S4.out.2.2.2.set4 NN.out.2.2.1 _ _ _ _⟩ ?_
  clear S4 x0 x1 x2 x3 y0 y1 y2 y3
  rintro W4 ⟨BB, rG, v1, v3⟩
  refine wp_seq_k fun K14 h14 => ?_
  have H14 : Hid _ := h14
  clear h14
  have hc := rstrict_all (c := c) HA.out.2.2.1 HA.out.2.2.2.1 W4 (HA.out.2.2.2.2 W4 BB)
  rw [HA.out.1, HS.out] at hc
  go_wp2_with fail
  with_reducible refine hc.mono ?_
  rintro e w5 ⟨rfl, BN⟩
  have S4 : Hid (Below w.heap.size w w5 ∧ Bts w5 g (X ++ List.replicate 9 165) ∧ Var w5 b11 M ∧ Var w5 b13 N) := ⟨BB.trans (BN.mono BB.size), rG.keep (by rw [LR.out]; omega) BN, v1.keep BN, v3.keep BN⟩
  clear hc BN BB rG v1 v3
  obtain ⟨x0, x1, x2, x3⟩ := S4.out.2.2.2.1
  obtain ⟨y0, y1, y2, y3⟩ := S4.out.2.2.2.2.all4
  go_wp2
  refine H14.out _ _ ?_
  clear H14
  refine wp_world (fun W => Below w.heap.size w W ∧ Bts W g (X ++ List.replicate 9 165) ∧ Var W b11 M ∧ Var W b13 M) ⟨below_set4 S4.out.1 NN.out.2.2.2.2.2 _ _ _ _, S4.out.2.1.other4 NN.out.2.1.symm _ _ _ _, S4.out.2.2.1.set4 NN.out.2.2.1.symm _ _ _ _, S4.out.2.2.2.sets M⟩ ?_
  clear S4 x0 x1 x2 x3 y0 y1 y2 y3
  rintro W5 ⟨BB, rG, v1, v3⟩
  have S3 : Hid (Below w.heap.size w W5 ∧ Bts W5 g (X ++ List.replicate 9 165) ∧ Var W5 b11 M ∧ Var W5 b13 M) := ⟨BB, rG, v1, v3⟩
  clear BB rG v1 v3
  refine wp_seq_k fun K15 h15 => ?_
  have H15 : Hid _ := h15
  clear h15
  obtain ⟨x0, x1, x2, x3⟩ := S3.out.2.2.1.1
  obtain ⟨y0, y1, y2, y3⟩ := S3.out.2.2.2.1
  have hn := unum_any (se X)
  have ey : ∀ w, (Op.equalIn 10000 24 (.agg #[.int .u64 (l0 M), .int .u64 (l1 M), .int .u64 (l2 M), .int .u64 (l3 M)]) (.agg #[.int .u64 (l0 M), .int .u64 (l1 M), .int .u64 (l2 M), .int .u64 (l3 M)])).run Try.prog w = .ok true w := fun w => eq_same (l0 M) (l1 M) (l2 M) (l3 M) w
  have hs := usame_any (c := m + 9) (c' := c) (X := X) (Z := X) (by rw [HA.out.1]; have := HA.out.2.1; omega) (.inr rfl) HA.out.2.2.2.1 W5 S3.out.2.1.front (HA.out.2.2.2.2 W5 S3.out.1)
  rw [HA.out.1, decide_eq_true rfl] at hs
  go_wp2_with (first | ((with_reducible refine (hn _).mono ?_); rintro e9 w9 ⟨rfl, hw9⟩; (rw [hw9]); (clear hw9 w9)) | ((with_reducible refine hs.mono ?_); rintro e9 w5b ⟨rfl, BN⟩))
  have S3b : Hid (Below w.heap.size w w5b ∧ Bts w5b g (X ++ List.replicate 9 165) ∧ Var w5b b11 M ∧ Var w5b b13 M) := ⟨S3.out.1.trans (BN.mono S3.out.1.size), S3.out.2.1.keep (by rw [LR.out]; omega) BN, S3.out.2.2.1.keep BN, S3.out.2.2.2.keep BN⟩
  clear S3 hs BN x0 x1 x2 x3 y0 y1 y2 y3
  have hp := spared_yes (n := m) (bb := g) (ob := 0) (cb := m + 9) (by have := HA.out.2.1; omega) (Nat.le_refl _) w5b (fun j h1 h2 => by
    have h := S3b.out.2.1.bz j (by rw [LR.out]; omega)
    rw [h, List.getD, List.getElem?_append_right (by rw [HA.out.1]; exact h1), List.getElem?_replicate, if_pos (by rw [HA.out.1]; omega)]
    rfl)
  go_wp2_with (first | ((with_reducible refine hp.mono ?_); rintro e9 w6 ⟨rfl, BN⟩))
  have S6 : Hid (Below w.heap.size w w6 ∧ Bts w6 g (X ++ List.replicate 9 165) ∧ Var w6 b11 M ∧ Var w6 b13 M) := ⟨S3b.out.1.trans (BN.mono S3b.out.1.size), S3b.out.2.1.keep (by rw [LR.out]; omega) BN, S3b.out.2.2.1.keep BN, S3b.out.2.2.2.keep BN⟩
  clear S3b hp BN
  (try go_wp2)
  refine H15.out _ _ ?_
  clear H15
  exact (ub_tail3 HA.out.1 (by have := HA.out.2.1; omega) HA.out.2.2.1 NN.out.1 NN.out.2.1 NN.out.2.2.1 w w6 NN.out.2.2.2.1 NN.out.2.2.2.2.1 NN.out.2.2.2.2.2 S6.out.1 S6.out.2.1 S6.out.2.2.1 S6.out.2.2.2 _ _ _ _ _ _ _ _ _ _ _ _ _ _ _ _ _ _ _ _ _ _ _ _ _ _ _ _ _ _ _ _ _ _ _ _ _ _ _ _ _ _ _ _ _ _ _ _ _ _ _ _ _ _ _ _ _ _ _ _ _ _ _ _ _ _ _ _ _ _ _ _ _ _ _ _ _ _ _ _ _ _ _ _ _ _ _ _ _ _ _ _ _ _ _ _ _ _ _ _ _ _ _ _ _ _ _ _ _ _ _ _ _ _ _ _ _ _ _ _ _ _ _ _ _ _ _ _ _ _ _ _ _ _ _ _ _ _ _ _ _ _ _ _ _ _ _ _ _ _ _ _ _ _ _ _ _ _).out rfl
end Go.Proofs.Yteoddmncfkmhgaa

import Derived.Test.YteoddmncfkmhgaaUbE
import Derived.Test.YteoddmncfkmhgaaCut
import Derived.Test.YteoddmncfkmhgaaVars
import Derived.Test.YteoddmncfkmhgaaAndOr
/- U256Bytes: the law from the last loop on. -/
namespace Go.Proofs.Yteoddmncfkmhgaa
open Go.RowKit Go.Sort

theorem xor255 {x : Int} (h0 : 0 ≤ x) (h1 : x < 256) : bits .xor .u8 x 255 = 255 - x := by
  have h : ∀ n : Fin 256, bits .xor .u8 (n.val : Int) 255 = 255 - (n.val : Int) := by decide +kernel
  obtain ⟨n, rfl⟩ := Int.eq_ofNat_of_zero_le h0
  exact h ⟨n, by omega⟩
theorem Byts.set {X : List Int} (h : Byts X) (i : Nat) {v : Int} (h0 : 0 ≤ v) (h1 : v < 256) : Byts (X.set i v) := fun j => by
  by_cases e : j = i
  · subst e
    by_cases hj : j < X.length
    · rw [setB_eq hj]; exact ⟨h0, h1⟩
    · rw [List.set_eq_of_length_le (by omega)]; exact h j
  · rw [setB_ne e]; exact h j
theorem Bts.front {W : World} {b : Nat} {l r : List Int} (h : Bts W b (l ++ r)) : Bz W b 0 l := h.bz.front
theorem Var.setB {W : World} {b b' i : Nat} {n : Int} (h : Var W b n) (ne : b' ≠ b) (v : Value) : Var (W.setCell ⟨b', i, none⟩ v) b n :=
  ⟨by
    obtain ⟨q0, q1, q2, q3⟩ := h.1
    refine ⟨?_, ?_, ?_, ?_⟩ <;> rw [World.cell?_setCell_far _ _ _ _ ne] <;> assumption, h.2.set _ _⟩
theorem Bts.other4 {W : World} {b b' : Nat} {l : List Int} (h : Bts W b l) (ne : b' ≠ b) (v0 v1 v2 v3 : Value) : Bts ((((W.setCell ⟨b', 0, none⟩ v0).setCell ⟨b', 1, none⟩ v1).setCell ⟨b', 2, none⟩ v2).setCell ⟨b', 3, none⟩ v3) b l :=
  (((h.other ne v0).other ne v1).other ne v2).other ne v3
set_option maxRecDepth 100000 in
set_option maxHeartbeats 16000000 in
theorem ub_tail3 {g b11 b13 m : Nat} {X : List Int} {n11 n13 : Int} (hm : X.length = m) (hm2 : m ≤ 140737488355328) (hX : Byts X) (n1 : g ≠ b11) (n2 : g ≠ b13) (n3 : b11 ≠ b13) (w W : World) (q1 : w.heap.size ≤ g) (q2 : w.heap.size ≤ b11) (q3 : w.heap.size ≤ b13)
    (hB : Below w.heap.size w W) (hG : Bts W g (X ++ List.replicate 9 165)) (v1 : Var W b11 n11) (v3 : Var W b13 n13) (t0 t1 t2 t3 t5 t6 t7 t8 t9 t12 t14 t15 t16 t17 t18 t19 t20 t21 t22 t23 t24 t25 t26 t27 t28 t29 t30 t31 t32 t33 t34 t35 t36 t37 t38 t39 t40 t41 t42 t43 t44 t45 t46 t47 t48 t49 t50 t51 t52 t53 t54 t55 t56 t57 t58 t59 t60 t61 t62 t63 t64 t65 t66 t67 t68 t69 t70 t71 t72 t73 t74 t75 t76 t77 t78 t79 t80 t81 t82 t83 t84 t85 t86 t87 t88 t89 t90 t91 t92 t93 t94 t95 t96 t97 t98 t99 t100 t101 t102 t103 t104 t105 t106 t107 t108 t109 t110 t111 t112 t113 t114 t115 t116 t117 t118 t119 t120 t121 t122 t123 t124 t125 t126 t127 t128 t129 t130 t131 t132 t133 t134 t135 t136 t137 t138 t139 t140 t141 t142 t143 t144 t145 t146 t147 t148 t149 t150 t151 t152 t153 t154 t155 t156 t157 t158 t159 t160 t161 : Value) :
    WpFrom Try.prog Try.f3 16 (bodyPost Try.prog Try.f3 fun e w' => e = .returned (.bool true) ∧ Below w.heap.size w w') { tmps := #[t0, t1, t2, t3, .bool false, t5, t6, t7, t8, t9, .slice (some ⟨g, 0, none⟩) m (m + 9), .pointer (some ⟨b11, 0, none⟩), t12, .pointer (some ⟨b13, 0, none⟩), t14, t15, t16, t17, t18, t19, t20, t21, t22, t23, t24, t25, t26, t27, t28, t29, t30, t31, t32, t33, t34, t35, t36, t37, t38, t39, t40, t41, t42, t43, t44, t45, t46, t47, t48, t49, t50, t51, t52, t53, t54, t55, t56, t57, t58, t59, t60, t61, t62, t63, t64, t65, t66, t67, t68, t69, t70, t71, t72, t73, t74, t75, t76, t77, t78, t79, t80, t81, t82, t83, t84, t85, t86, t87, t88, t89, t90, t91, t92, t93, t94, t95, t96, t97, t98, t99, t100, t101, t102, t103, t104, t105, t106, t107, t108, t109, t110, t111, t112, t113, t114, t115, t116, t117, t118, t119, t120, t121, t122, t123, t124, t125, t126, t127, t128, t129, t130, t131, t132, t133, t134, t135, t136, t137, t138, t139, t140, t141, t142, t143, t144, t145, t146, t147, t148, t149, t150, t151, t152, t153, t154, t155, t156, t157, t158, t159, t160, t161], defers := [] } W := by
  refine WpFrom.intro rfl ?_
  have NN : Hid (g ≠ b11 ∧ g ≠ b13 ∧ b11 ≠ b13 ∧ w.heap.size ≤ g ∧ w.heap.size ≤ b11 ∧ w.heap.size ≤ b13) := ⟨n1, n2, n3, q1, q2, q3⟩
  have S0 : Hid (X.length = m ∧ Byts X ∧ Bts W g (X ++ List.replicate 9 165) ∧ Var W b11 n11 ∧ Var W b13 n13 ∧ Below w.heap.size w W) := ⟨hm, hX, hG, v1, v3, hB⟩
  have m8 : (m : Int) ≤ 140737488355328 := by omega
  clear hm hX hG v1 v3 hB n1 n2 n3 q1 q2 q3 hm2
  refine wp_seq_k fun K1 h1 => ?_
  have H1 : Hid _ := h1
  clear h1
  go_wp2_with fail
  go_loopg [15] m (fun k iv wr => ∃ (i : Nat) (Y : List Int), k = m - i ∧ i ≤ m ∧ iv = .int .i64 i ∧ Y.length = m ∧ Byts Y ∧ Bts wr g (Y ++ List.replicate 9 165) ∧ Var wr b11 n11 ∧ Var wr b13 n13 ∧ Below w.heap.size w wr)
  case atStart => exact ⟨0, X, rfl, Nat.zero_le _, rfl, S0.out⟩
  case round =>
    clear S0
    obtain ⟨i, Y, hk, hi, rfl, r1, r2, r3, r4, r5, r6⟩ := hrel
    have HK : Hid (gk = m - i) := hk
    have SR : Hid (Y.length = m ∧ Byts Y ∧ Bts wr g (Y ++ List.replicate 9 165) ∧ Var wr b11 n11 ∧ Var wr b13 n13 ∧ Below w.heap.size w wr) := ⟨r1, r2, r3, r4, r5, r6⟩
    clear hk r1 r2 r3 r4 r5 r6
    by_cases h8 : i = m
    · subst h8
      clear HK
      go_wp2
      refine H1.out _ _ ?_
      clear H1
      have hn := unum_any (ge Y)
      have hc := get_all (c := i + 9) SR.out.2.1 wr SR.out.2.2.1.front
      rw [SR.out.1] at hc
      go_wp2_with fail
      with_reducible refine hc.mono ?_
      rintro e w1 ⟨rfl, BN⟩
      have S1 : Hid (Bts w1 g (Y ++ List.replicate 9 165) ∧ Var w1 b11 n11 ∧ Var w1 b13 n13 ∧ Below w.heap.size w w1) := ⟨SR.out.2.2.1.keep (by simp) BN, SR.out.2.2.2.1.keep BN, SR.out.2.2.2.2.1.keep BN, SR.out.2.2.2.2.2.trans (BN.mono SR.out.2.2.2.2.2.size)⟩
      clear hc BN
      have HY : Hid (Y.length = i ∧ Byts Y) := ⟨SR.out.1, SR.out.2.1⟩
      clear SR
      obtain ⟨x0, x1, x2, x3⟩ := S1.out.2.1.1
      obtain ⟨y0, y1, y2, y3⟩ := S1.out.2.1.2.all4
      generalize hgv : gv Y = G at *
      have HG : Hid (gv Y = G) := hgv
      clear hgv
      go_wp2_with fail
      refine calls_world (fun W => Bts W g (Y ++ List.replicate 9 165) ∧ Var W b11 G ∧ Var W b13 n13 ∧ Below w.heap.size w W) ⟨S1.out.1.other4 NN.out.1.symm _ _ _ _, S1.out.2.1.sets G, S1.out.2.2.1.set4 NN.out.2.2.1 _ _ _ _, below_set4 S1.out.2.2.2 NN.out.2.2.2.2.1 _ _ _ _⟩ ?_
      clear S1 x0 x1 x2 x3 y0 y1 y2 y3
      rintro W2 ⟨g2, v2, u2, B2⟩
      have hc := rget_all (c := i + 9) HY.out.2 (.inr rfl) W2 g2.front
      rw [HY.out.1, HG.out] at hc
      with_reducible refine hc.mono ?_
      rintro e w2 ⟨rfl, BN⟩
      have S2 : Hid (Bts w2 g (Y ++ List.replicate 9 165) ∧ Var w2 b11 G ∧ Var w2 b13 n13 ∧ Below w.heap.size w w2) := ⟨g2.keep (by simp) BN, v2.keep BN, u2.keep BN, B2.trans (BN.mono B2.size)⟩
      clear hc BN g2 v2 u2 B2
      obtain ⟨x0, x1, x2, x3⟩ := S2.out.2.2.1.1
      obtain ⟨y0, y1, y2, y3⟩ := S2.out.2.2.1.2.all4
      rename_i K8 k8 K9 k9
      have H8 : Hid _ := k8
      clear k8
      go_wp2
      refine H8.out _ _ ?_
      refine wp_world (fun W => Bts W g (Y ++ List.replicate 9 165) ∧ Var W b11 G ∧ Var W b13 G ∧ Below w.heap.size w W) ⟨S2.out.1.other4 NN.out.2.1.symm _ _ _ _, S2.out.2.1.set4 NN.out.2.2.1.symm _ _ _ _, S2.out.2.2.1.sets G, below_set4 S2.out.2.2.2 NN.out.2.2.2.2.2 _ _ _ _⟩ ?_
      clear S2 x0 x1 x2 x3 y0 y1 y2 y3 H8
      rintro W3 ⟨g3, ⟨⟨x0, x1, x2, x3⟩, _⟩, ⟨⟨y0, y1, y2, y3⟩, _⟩, B3⟩
      have hs := spared_yes (n := i) (bb := g) (ob := 0) (cb := i + 9) (by omega) (Nat.le_refl _) W3 (fun j h1 h2 => by
        have h := g3.bz j (by rw [List.length_append, HY.out.1]; simp; omega)
        rw [h, List.getD, List.getElem?_append_right (by rw [HY.out.1]; exact h1), List.getElem?_replicate, if_pos (by rw [HY.out.1]; omega)]
        rfl)
      have B4 : Hid (Below w.heap.size w W3) := B3
      have ey : ∀ w, (Op.equalIn 10000 24 (.agg #[.int .u64 (l0 G), .int .u64 (l1 G), .int .u64 (l2 G), .int .u64 (l3 G)]) (.agg #[.int .u64 (l0 G), .int .u64 (l1 G), .int .u64 (l2 G), .int .u64 (l3 G)])).run Try.prog w = .ok true w := fun w => eq_same (l0 G) (l1 G) (l2 G) (l3 G) w
      clear g3 B3 HY HG
      go_wp2_with (first | ((with_reducible refine (hn _).mono ?_); rintro e9 w9 ⟨rfl, hw9⟩; (rw [hw9]); (clear hw9 w9)) | ((with_reducible refine hs.mono ?_); rintro e9 w9 ⟨rfl, BN⟩))
      have B5 : Hid (Below w.heap.size w w9) := B4.out.trans (BN.mono B4.out.size)
      clear BN hs
      (try go_wp2)
      go_ret
      exact ⟨rfl, B5.out⟩
    · have hlt : i < m := by omega
      have hlt' : (i : Int) < (m : Int) := by omega
      have cl : (Y ++ List.replicate 9 165).length = m + 9 := by rw [List.length_append, SR.out.1]; simp
      have g1 := SR.out.2.2.1.1 i (by rw [cl]; omega)
      have f1 := SR.out.2.2.1.2 i (by rw [cl]; omega)
      have eg : (Y ++ List.replicate 9 165).getD i 0 = Y.getD i 0 := by rw [List.getD, List.getElem?_append_left (by rw [SR.out.1]; exact hlt), List.getD]
      rw [eg] at g1
      obtain ⟨y0, y1⟩ := SR.out.2.1 i
      have xx := xor255 y0 y1
      have NX : Hid (∃ Z : List Int, Z.length = m ∧ Byts Z ∧ Bts (wr.setCell ⟨g, i, none⟩ (.int .u8 (255 - Y.getD i 0))) g (Z ++ List.replicate 9 165) ∧ Var (wr.setCell ⟨g, i, none⟩ (.int .u8 (255 - Y.getD i 0))) b11 n11 ∧ Var (wr.setCell ⟨g, i, none⟩ (.int .u8 (255 - Y.getD i 0))) b13 n13 ∧ Below w.heap.size w (wr.setCell ⟨g, i, none⟩ (.int .u8 (255 - Y.getD i 0)))) := by
        refine ⟨Y.set i (255 - Y.getD i 0), by rw [List.length_set]; exact SR.out.1, SR.out.2.1.set i (by omega) (by omega), ?_, SR.out.2.2.2.1.setB NN.out.1 _, SR.out.2.2.2.2.1.setB NN.out.2.1 _, SR.out.2.2.2.2.2.setCell NN.out.2.2.2.1 _⟩
        have h := SR.out.2.2.1.set i (by rw [cl]; omega) (255 - Y.getD i 0)
        rw [List.set_append_left _ _ (by rw [SR.out.1]; exact hlt)] at h
        exact h
      generalize Y.getD i 0 = x at *
      clear SR h8 eg cl y0 y1
      go_wp2
      go_roundg (m - (i + 1))
      case measure => have := HK.out; omega
      case rel =>
        obtain ⟨Z, hZ⟩ := NX.out
        exact ⟨i + 1, Z, rfl, by omega, by go_num, hZ⟩
end Go.Proofs.Yteoddmncfkmhgaa

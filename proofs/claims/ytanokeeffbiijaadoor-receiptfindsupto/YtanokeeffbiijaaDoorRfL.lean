import Derived.Test.YtanokeeffbiijaaDoorRfK
/- ReceiptFinds: the lists that were told, written over. -/
namespace Go.Proofs.YtanokeeffbiijaaDoor.tq
open Go.RowKit Go.Sort
set_option maxRecDepth 100000 in
set_option maxHeartbeats 16000000 in
theorem finds9 {w W3 W : World} {G gA cA n nA m H lb bk ok c ca ck : Nat} {a aa ak : Option Addr} {sa ta : Nat → Option Addr} {sn sc tc : Nat → Nat} {B1 B2 B3 k : Nat} {v1 v2 v3 : Value} {Lf : List Int} (hn : n < 100000000) (hm : m < 100000000) (hk : 0 < m → ak = some ⟨bk, ok, none⟩) (FT : Hid (∀ V, Below W3.heap.size W3 V → FiT w V G gA cA n nA m H lb bk ok a aa ak c ca sa ta sn sc tc)) (hl : Lf.length = k) (hkn : k ≤ n) (gB : W3.heap.size ≤ B1) (hB1 : B1 ≤ W.heap.size) (o1 : OwN B1 W v1 Lf) (o2 : OwN B2 W v2 Lf) (o3 : OwN B3 W v3 Lf) (d2 : v2.ownBlock = none ∨ v2.ownBlock ≠ v1.ownBlock) (d3 : v3.ownBlock = none ∨ v3.ownBlock ≠ v1.ownBlock) (B : Below W3.heap.size W3 W) {t3 t4 t5 t6 t10 t14 t15 t16 t17 t18 t19 t20 t21 t22 t23 t24 t25 t26 t27 t28 t29 t30 t31 t32 t33 t34 t35 t36 t37 t38 t39 t40 t41 t42 t43 t44 t45 t46 t47 t48 t49 t50 t51 t52 t53 t54 t55 t56 t57 t58 t59 t60 t61 t62 t63 t64 t65 t66 t67 t68 t69 t70 t71 t72 t73 t74 t75 t76 t77 t78 t79 t80 t81 t82 t83 t84 t85 t86 t87 t88 t89 t90 t91 t92 t93 t94 t95 t96 t97 t98 t99 t100 t101 t102 t103 t104 t105 t106 t107 t108 t109 t110 t111 t112 t113 t114 t115 t116 t117 t118 t119 t120 t121 t122 t123 t124 t125 t126 t127 t128 t129 t130 t131 t132 t133 t134 t135 t136 t137 t138 t139 t140 t141 t142 t143 t144 t145 t146 t147 t148 t149 t150 t151 t152 t153 t154 t155 t156 t157 t158 t159 t160 t161 t162 t163 t164 t165 t166 t167 t168 t169 t170 t171 t172 t173 : Value} :
    WpFrom Tryd.prog Tryd.f3 9 (bodyPost Tryd.prog Tryd.f3 fun e w' => e = .returned (.bool true) ∧ Below w.heap.size w w') { tmps := #[.slice a n c, .slice aa nA ca, .slice ak m ck, t3, t4, t5, t6, .slice (some ⟨G, 0, none⟩) n (n + 1), .slice (some ⟨gA, 0, none⟩) nA cA, .slice (some ⟨H, 0, none⟩) (m + 1) (m + 1), t10, v1, v2, v3, t14, t15, t16, t17, t18, t19, t20, t21, t22, t23, t24, t25, t26, t27, t28, t29, t30, t31, t32, t33, t34, t35, t36, t37, t38, t39, t40, t41, t42, t43, t44, t45, t46, t47, t48, t49, t50, t51, t52, t53, t54, t55, t56, t57, t58, t59, t60, t61, t62, t63, t64, t65, t66, t67, t68, t69, t70, t71, t72, t73, t74, t75, t76, t77, t78, t79, t80, t81, t82, t83, t84, t85, t86, t87, t88, t89, t90, t91, t92, t93, t94, t95, t96, t97, t98, t99, t100, t101, t102, t103, t104, t105, t106, t107, t108, t109, t110, t111, t112, t113, t114, t115, t116, t117, t118, t119, t120, t121, t122, t123, t124, t125, t126, t127, t128, t129, t130, t131, t132, t133, t134, t135, t136, t137, t138, t139, t140, t141, t142, t143, t144, t145, t146, t147, t148, t149, t150, t151, t152, t153, t154, t155, t156, t157, t158, t159, t160, t161, t162, t163, t164, t165, t166, t167, t168, t169, t170, t171, t172, t173], defers := [] } W := by
  have n1 : (n : Int) < 100000000 := by omega
  have k1 : (k : Int) < 100000000 := by omega
  have HM : Hid (Lf.length = k ∧ k ≤ n ∧ W3.heap.size ≤ B1) := ⟨hl, hkn, gB⟩
  have HN : Hid (n < 100000000 ∧ m < 100000000 ∧ (0 < m → ak = some ⟨bk, ok, none⟩)) := ⟨hn, hm, hk⟩
  obtain ⟨a1, c1, e1⟩ := o1.form
  obtain ⟨a2, c2, e2⟩ := o2.form
  obtain ⟨a3, c3, e3⟩ := o3.form
  rw [hl] at e1 e2 e3
  subst e1 e2 e3
  have HD : Hid (((Value.slice a2 k c2).ownBlock = none ∨ (Value.slice a2 k c2).ownBlock ≠ (Value.slice a1 k c1).ownBlock) ∧ ((Value.slice a3 k c3).ownBlock = none ∨ (Value.slice a3 k c3).ownBlock ≠ (Value.slice a1 k c1).ownBlock)) := ⟨d2, d3⟩
  have HW : Hid (OwN B1 W (.slice a1 k c1) Lf ∧ OwN B2 W (.slice a2 k c2) Lf ∧ OwN B3 W (.slice a3 k c3) Lf ∧ Below W3.heap.size W3 W ∧ B1 ≤ W.heap.size) := ⟨o1, o2, o3, B, hB1⟩
  clear hl o1 o2 o3 d2 d3 B gB hB1 hn hm hk hkn
  refine WpFrom.intro rfl ?_
  refine wp_seq_k fun K0 h0 => ?_
  have H0 : Hid _ := h0
  clear h0
  go_wp2
  refine H0.out _ _ ?_
  clear H0 K0
  refine wp_seq_k fun K1 h1 => ?_
  have H1 : Hid _ := h1
  clear h1
  go_wp2_with fail
  go_loopg [14] k (fun kk iv wr => ∃ i : Nat, kk = k - i ∧ i ≤ k ∧ iv = .int .i64 i ∧ OwN B1 wr (.slice a1 k c1) (List.replicate i (-1) ++ Lf.drop i) ∧ OwN B2 wr (.slice a2 k c2) Lf ∧ OwN B3 wr (.slice a3 k c3) Lf ∧ Below W3.heap.size W3 wr ∧ B1 ≤ wr.heap.size)
  case atStart => exact ⟨0, rfl, Nat.zero_le _, rfl, HW.out⟩
  case round =>
    clear HW W
    obtain ⟨i, hk, hi, rfl, q1, q2, q3, B, hB⟩ := hrel
    have HK : Hid (gk = k - i) := hk
    have HO : Hid (OwN B1 wr (.slice a1 k c1) (List.replicate i (-1) ++ Lf.drop i) ∧ OwN B2 wr (.slice a2 k c2) Lf ∧ OwN B3 wr (.slice a3 k c3) Lf ∧ Below W3.heap.size W3 wr ∧ B1 ≤ wr.heap.size) := ⟨q1, q2, q3, B, hB⟩
    clear hk q1 q2 q3 B hB
    by_cases h8 : i = k
    · subst h8
      have e1 : decide ((i : Int) < (i : Int)) = false := by simp
      have o9 : OwN B1 wr (.slice a1 i c1) (List.replicate i (-1)) := by
        have h := HO.out.1
        rwa [List.drop_of_length_le (by rw [HM.out.1]; exact Nat.le_refl _), List.append_nil] at h
      have HO9 : Hid (OwN B1 wr (.slice a1 i c1) (List.replicate i (-1))) := o9
      clear hi o9
      go_wp2
      refine H1.out _ _ ?_
      exact (finds11 HN.out.1 HN.out.2.1 HN.out.2.2 FT HM.out.1 HM.out.2.1 HM.out.2.2 HO.out.2.2.2.2 HO9.out HO.out.2.1 HO.out.2.2.1 HD.out.1 HD.out.2 HO.out.2.2.2.1).out rfl
    · have hlt : i < k := by omega
      have hlt' : (i : Int) < (k : Int) := by omega
      have hN : (List.replicate i (-1 : Int) ++ Lf.drop i).length = k := by rw [neg_len i Lf (by rw [HM.out.1]; exact hi), HM.out.1]
      obtain ⟨g1, rfl, l1a, l1b, l1c⟩ := HO.out.1.of hN.symm (by omega)
      obtain ⟨g2, rfl, l2a, l2b, l2c⟩ := HO.out.2.1.of HM.out.1.symm (by omega)
      obtain ⟨g3, rfl, l3a, l3b, l3c⟩ := HO.out.2.2.1.of HM.out.1.symm (by omega)
      have k1 : wr.cell? ⟨g1, i, none⟩ = some (.int .i64 (Lf.getD i 0)) := by
        have h := HO.out.1
        rw [show k = (List.replicate i (-1 : Int) ++ Lf.drop i).length from hN.symm] at h
        rw [h.cellAt i (by rw [hN]; omega), neg_at i Lf (by rw [HM.out.1]; exact hlt)]
      have k2 : wr.cell? ⟨g2, i, none⟩ = some (.int .i64 (Lf.getD i 0)) := by have h := HO.out.2.1; rw [← HM.out.1] at h; exact h.cell (by rw [HM.out.1]; exact hlt)
      have k3 : wr.cell? ⟨g3, i, none⟩ = some (.int .i64 (Lf.getD i 0)) := by have h := HO.out.2.2.1; rw [← HM.out.1] at h; exact h.cell (by rw [HM.out.1]; exact hlt)
      have L6 : Hid (W3.heap.size ≤ g1) := Nat.le_trans HM.out.2.2 l1a
      have B3' : Hid (∀ d os, Below wr.heap.size wr (grow (redrawn wr d) os)) := fun d os => below_regrown wr d os
      have g1c : ∀ d os, (grow (redrawn wr d) os).cell? ⟨g1, i, none⟩ = some (.int .i64 (Lf.getD i 0)) := fun d os => cell_keep (B3'.out d os) k1
      have g2c : ∀ d os, (grow (redrawn wr d) os).cell? ⟨g2, i, none⟩ = some (.int .i64 (Lf.getD i 0)) := fun d os => cell_keep (B3'.out d os) k2
      have g3c : ∀ d os, (grow (redrawn wr d) os).cell? ⟨g3, i, none⟩ = some (.int .i64 (Lf.getD i 0)) := fun d os => cell_keep (B3'.out d os) k3
      have HC : Hid (wr.cell? ⟨g1, i, none⟩ = some (.int .i64 (Lf.getD i 0))) := k1
      clear k1 k2 k3 l1a l1b l1c l2a l2b l2c l3a l3b l3c hi
      generalize Lf.getD i 0 = x at *
      go_wp2_with fail
      refine wp_region_quiet_below (by kernel_rfl) (by kernel_rfl) ?_
      repeat
        first
          | go_big_quiet_skip
          | (go_big_quiet_want; go_big_quiet_op; go_big_quiet_on)
      refine wpQuiet_nil ?_
      rintro w2 ⟨p, rfl⟩
      have hb : Hid (Below wr.heap.size wr (grow (redrawn wr p.d) p.os)) := B3'.out p.d p.os
      generalize grow (redrawn wr p.d) p.os = w2 at *
      clear g1c g2c g3c B3'
      have c1x := cell_keep hb.out HC.out
      have q1 : w2.ownsRow B1 3 1 (.slice (some ⟨g1, 0, none⟩) k c1) k (vN (List.replicate i (-1) ++ Lf.drop i)) := by have h := HO.out.1.keep hb.out; unfold OwN at h; rwa [hN] at h
      have fz := q1.frozenAt i
      have ST := q1.stored i (.int .i64 (-1))
      have HN2 : Hid (OwN B1 (w2.setCell ⟨g1, i, none⟩ (.int .i64 (-1))) (.slice (some ⟨g1, 0, none⟩) k c1) (List.replicate (i + 1) (-1) ++ Lf.drop (i + 1)) ∧ OwN B2 (w2.setCell ⟨g1, i, none⟩ (.int .i64 (-1))) (.slice (some ⟨g2, 0, none⟩) k c2) Lf ∧ OwN B3 (w2.setCell ⟨g1, i, none⟩ (.int .i64 (-1))) (.slice (some ⟨g3, 0, none⟩) k c3) Lf ∧ Below W3.heap.size W3 (w2.setCell ⟨g1, i, none⟩ (.int .i64 (-1))) ∧ B1 ≤ (w2.setCell ⟨g1, i, none⟩ (.int .i64 (-1))).heap.size) := by
        refine ⟨?_, World.ownsRow.kept (HO.out.2.1.keep hb.out) ST.2 HD.out.1, World.ownsRow.kept (HO.out.2.2.1.keep hb.out) ST.2 HD.out.2, (HO.out.2.2.2.1.trans (hb.out.mono HO.out.2.2.2.1.size)).setCell L6.out _, ?_⟩
        · have h := ST.1
          rw [vN_set, neg_set i Lf (by rw [HM.out.1]; exact hlt)] at h
          show World.ownsRow _ _ _ _ _ _ _
          rw [neg_len (i + 1) Lf (by rw [HM.out.1]; omega), HM.out.1]
          exact h
        · rw [World.size_setCell]; exact Nat.le_trans HO.out.2.2.2.2 hb.out.size
      clear ST hN q1
      go_wp2
      go_roundg (k - (i + 1))
      case measure => have := HK.out; omega
      case rel => exact ⟨i + 1, rfl, by omega, by go_num, HN2.out⟩
end Go.Proofs.YtanokeeffbiijaaDoor.tq

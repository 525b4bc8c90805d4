import Derived.Test.YtmcpljgojdoniaaDoorRcI
/- ReceiptGas: the lists that were told. -/
namespace Go.Proofs.YtmcpljgojdoniaaDoor.tq
open Go.RowKit Go.Sort
theorem OwG.of {B : Nat} {W : World} {a : Option Addr} {m c : Nat} {L : List Int} (h : OwG B W (.slice a m c) L) (hm : m = L.length) (hn : 0 < m) : ∃ g, a = some ⟨g, 0, none⟩ ∧ B ≤ g ∧ g < W.heap.size ∧ m ≤ c := by
  subst hm
  obtain ⟨g, cap, e, h1, h2, h3⟩ := h.lies hn
  injection e with e1 e2 e3
  subst e1 e3
  exact ⟨g, rfl, h2, h3, h1⟩
set_option maxRecDepth 100000 in
set_option maxHeartbeats 16000000 in
theorem gas10 {w W3 W : World} {G B1 B2 B3 : Nat} {a : Option Addr} {b o c n m : Nat} {rs us : List Rc} {v1 v2 v3 : Value} {L : List Int} (hl : rs.length = n) (hn : n < 100000000) (SR : Hid (∀ i, i < n → ∀ W, Below W3.heap.size W3 W → Calls Tryd.prog 10 #[.agg (rcC (us.getD i zRc)).toArray, .agg (rcC (rs.getD i zRc)).toArray] W fun e w' => e = .returned (.bool true) ∧ Below W.heap.size W w')) (SL : Hid (∀ i, i < n → ∀ W, Below W3.heap.size W3 W → Calls Tryd.prog 11 #[.agg (rcC (us.getD i zRc)).toArray, .agg (rcC (rs.getD i zRc)).toArray] W fun e w' => e = .returned (.bool true) ∧ Below W.heap.size W w')) (FF : Hid (∀ V, Below W3.heap.size W3 V → GsF w V G a b o c n rs us)) (LU : Hid (∀ i, i < n → (Tryd.prog.info? 30).map (·.size) = some (rcC (us.getD i zRc)).length ∧ (Tryd.prog.info? 30).map (·.size) = some (rcC (rs.getD i zRc)).length)) (hm : L.length = m) (hmn : m ≤ n) (gB : W3.heap.size ≤ B1) (hB1 : B1 ≤ W.heap.size) (o1 : OwG B1 W v1 (List.replicate m 9)) (o2 : OwG B2 W v2 L) (o3 : OwG B3 W v3 L) (d2 : v2.ownBlock = none ∨ v2.ownBlock ≠ v1.ownBlock) (d3 : v3.ownBlock = none ∨ v3.ownBlock ≠ v1.ownBlock) (B : Below W3.heap.size W3 W) {t1 t2 t4 t6 t8 t10 t11 t12 t13 t14 t15 t16 t17 t18 t19 t20 t21 t22 t23 t24 t25 t26 t27 t28 t29 t30 t31 t32 t33 t34 t35 t36 t37 t38 t39 t40 t41 t42 t43 t44 t45 t46 t47 t48 t49 t50 t51 t52 t53 t54 t55 t56 t57 t58 t59 t60 t61 t62 t63 t64 t65 t66 t67 t68 t69 t70 t71 t72 t73 t74 t75 t76 t77 t78 t79 t80 t81 t82 t83 t84 t85 t86 t87 t88 t89 t90 t91 t92 t93 t94 t95 t96 t97 t98 t99 t100 t101 t102 t103 t104 t105 t106 t107 t108 t109 t110 t111 t112 t113 t114 t115 t116 t117 t118 t119 t120 t121 t122 t123 t124 t125 t126 t127 t128 t129 t130 t131 t132 t133 t134 t135 t136 t137 t138 t139 t140 t141 t142 t143 t144 t145 t146 t147 t148 t149 t150 t151 t152 t153 t154 t155 t156 t157 t158 t159 t160 t161 t162 t163 t164 t165 t166 t167 t168 t169 t170 t171 t172 t173 t174 t175 t176 t177 t178 t179 t180 : Value} :
    WpFrom Tryd.prog Tryd.f3 10 (bodyPost Tryd.prog Tryd.f3 fun e w' => e = .returned (.bool true) ∧ Below w.heap.size w w') { tmps := #[.slice a n c, t1, t2, .slice (some ⟨G, 0, none⟩) (n + 1) (n + 1), t4, v1, t6, v2, t8, v3, t10, t11, t12, t13, t14, t15, t16, t17, t18, t19, t20, t21, t22, t23, t24, t25, t26, t27, t28, t29, t30, t31, t32, t33, t34, t35, t36, t37, t38, t39, t40, t41, t42, t43, t44, t45, t46, t47, t48, t49, t50, t51, t52, t53, t54, t55, t56, t57, t58, t59, t60, t61, t62, t63, t64, t65, t66, t67, t68, t69, t70, t71, t72, t73, t74, t75, t76, t77, t78, t79, t80, t81, t82, t83, t84, t85, t86, t87, t88, t89, t90, t91, t92, t93, t94, t95, t96, t97, t98, t99, t100, t101, t102, t103, t104, t105, t106, t107, t108, t109, t110, t111, t112, t113, t114, t115, t116, t117, t118, t119, t120, t121, t122, t123, t124, t125, t126, t127, t128, t129, t130, t131, t132, t133, t134, t135, t136, t137, t138, t139, t140, t141, t142, t143, t144, t145, t146, t147, t148, t149, t150, t151, t152, t153, t154, t155, t156, t157, t158, t159, t160, t161, t162, t163, t164, t165, t166, t167, t168, t169, t170, t171, t172, t173, t174, t175, t176, t177, t178, t179, t180], defers := [] } W := by
  have n1 : (n : Int) < 100000000 := by omega
  have m1 : (m : Int) < 100000000 := by omega
  have HM : Hid (L.length = m ∧ m < 100000000) := ⟨hm, by omega⟩
  have HN : Hid (rs.length = n ∧ n < 100000000) := ⟨hl, hn⟩
  obtain ⟨a1, c1, e1⟩ := o1.form
  obtain ⟨a2, c2, e2⟩ := o2.form
  obtain ⟨a3, c3, e3⟩ := o3.form
  rw [List.length_replicate] at e1
  rw [hm] at e2 e3
  subst e1 e2 e3
  have HO : Hid (OwG B1 W (.slice a1 m c1) (List.replicate m 9) ∧ Below W3.heap.size W3 W ∧ W3.heap.size ≤ B1 ∧ B1 ≤ W.heap.size) := ⟨o1, B, gB, hB1⟩
  have H23 : Hid (OwG B2 W (.slice a2 m c2) L ∧ OwG B3 W (.slice a3 m c3) L ∧ ((Value.slice a2 m c2).ownBlock = none ∨ (Value.slice a2 m c2).ownBlock ≠ (Value.slice a1 m c1).ownBlock) ∧ ((Value.slice a3 m c3).ownBlock = none ∨ (Value.slice a3 m c3).ownBlock ≠ (Value.slice a1 m c1).ownBlock)) := ⟨o2, o3, d2, d3⟩
  have LT : Hid (∀ k, (Value.slice a1 m c1).ownBlock = some k → B1 ≤ k ∧ k < W.heap.size) := fun k hk => o1.lt k hk
  clear hm o1 o2 o3 d2 d3 B gB hB1 hl hn
  refine WpFrom.intro rfl ?_
  refine wp_seq_k fun K0 h0 => ?_
  have H0 : Hid _ := h0
  clear h0
  go_wp2_with (at_builtin; (refine wpList_append_rw (B := B1) (n := m) (v := .slice a1 m c1) (xs := v6 (List.replicate m 9)) (g := W.heap.size) (p := 0) (m := 3) (news := v6 [8, 8, 8]) 1 8 32 25 Tryd.underlying32 rI_6 (by decide) rfl _ _ rfl rfl rfl (by have h := HO.out.1.alloc (.cells #[.int .u64 8, .int .u64 8, .int .u64 8] 25); rw [List.length_replicate] at h; exact h) rfl (.inr rfl) (fun e => by cases e) new_range (v6_one _) (by have := HM.out.2; unfold maxLen; omega) (by have := HM.out.2; omega) (by have := HO.out.2.2.2; rw [World.size_alloc]; omega) ?_); (intro v' W4 o4 g4 p4))
  have o4b : OwG B1 W4 v' (List.replicate m 9 ++ [8, 8, 8]) := by
    show W4.ownsRow _ _ _ _ _ _
    rw [v6_app, List.length_append, List.length_replicate]
    exact o4
  have B4 : Below W3.heap.size W3 W4 := (HO.out.2.1.alloc HO.out.2.1.size _).grown g4 (by have := HO.out.2.1.size; rw [World.size_alloc]; omega) (fun k hk => Nat.le_trans HO.out.2.2.1 (LT.out k hk).1)
  have q2 : OwG B2 W4 (.slice a2 m c2) L := World.ownsRow.kept (World.ownsRow.alloc H23.out.1 _) g4 H23.out.2.2.1
  have q3 : OwG B3 W4 (.slice a3 m c3) L := World.ownsRow.kept (World.ownsRow.alloc H23.out.2.1 _) g4 H23.out.2.2.2
  obtain ⟨a4, c4, e4⟩ := o4b.form
  rw [List.length_append, List.length_replicate, show ([8, 8, 8] : List Int).length = 3 from rfl] at e4
  subst e4
  have HQ : Hid (OwG B1 W4 (.slice a4 (m + 3) c4) (List.replicate m 9 ++ [8, 8, 8]) ∧ OwG B2 W4 (.slice a2 m c2) L ∧ OwG B3 W4 (.slice a3 m c3) L ∧ Below W3.heap.size W3 W4) := ⟨o4b, q2, q3, B4⟩
  clear o4 g4 p4 o4b B4 q2 q3 HO H23 LT
  refine H0.out _ _ ?_
  clear H0 K0
  refine wp_seq_k fun K1 h1 => ?_
  have H1 : Hid _ := h1
  clear h1
  go_wp2_with fail
  go_loopg [14] m (fun k iv wr => ∃ i : Nat, k = m - i ∧ i ≤ m ∧ iv = .int .i64 i ∧ Below W4.heap.size W4 wr)
  case atStart => exact ⟨0, rfl, Nat.zero_le _, rfl, Below.refl _ _⟩
  case round =>
    obtain ⟨i, hk, hi, rfl, B⟩ := hrel
    have HK : Hid (gk = m - i) := hk
    have HB : Hid (Below W4.heap.size W4 wr) := B
    clear hk B
    by_cases h8 : i = m
    · subst h8
      have e1 : decide ((i : Int) < (i : Int)) = false := by simp
      clear hi
      go_wp2
      refine H1.out _ _ ?_
      exact (gas12 HN.out.1 HN.out.2 SR SL FF LU (HQ.out.2.2.2.trans (HB.out.mono HQ.out.2.2.2.size))).out rfl
    · have hlt : i < m := by omega
      have hlt' : (i : Int) < (m : Int) := by omega
      have hlt3 : (i : Int) < (m : Int) + 3 := by omega
      obtain ⟨g2, rfl, l2a, l2b, l2c⟩ := HQ.out.2.1.of HM.out.1.symm (by omega)
      obtain ⟨g3, rfl, l3a, l3b, l3c⟩ := HQ.out.2.2.1.of HM.out.1.symm (by omega)
      obtain ⟨g4, rfl, l4a, l4b, l4c⟩ := HQ.out.1.of (by simp) (by omega)
      have k2 : W4.cell? ⟨g2, i, none⟩ = some (.int .u64 (L.getD i 0)) := by have h := HQ.out.2.1; rw [← HM.out.1] at h; exact h.cell (by rw [HM.out.1]; exact hlt)
      have k3 : W4.cell? ⟨g3, i, none⟩ = some (.int .u64 (L.getD i 0)) := by have h := HQ.out.2.2.1; rw [← HM.out.1] at h; exact h.cell (by rw [HM.out.1]; exact hlt)
      have k4 : W4.cell? ⟨g4, i, none⟩ = some (.int .u64 9) := by
        have h := HQ.out.1
        rw [show m + 3 = (List.replicate m (9 : Int) ++ [8, 8, 8]).length by simp] at h
        have := h.cell (i := i) (by simp; omega)
        rw [this]
        simp [List.getD, List.getElem?_append_left, hlt]
      have B3 : Hid (∀ d os, Below W4.heap.size W4 (grow (redrawn wr d) os)) := fun d os => HB.out.trans ((below_regrown wr d os).mono HB.out.size)
      have g2c : ∀ d os, (grow (redrawn wr d) os).cell? ⟨g2, i, none⟩ = some (.int .u64 (L.getD i 0)) := fun d os => cell_keep (B3.out d os) k2
      have g3c : ∀ d os, (grow (redrawn wr d) os).cell? ⟨g3, i, none⟩ = some (.int .u64 (L.getD i 0)) := fun d os => cell_keep (B3.out d os) k3
      have g4c : ∀ d os, (grow (redrawn wr d) os).cell? ⟨g4, i, none⟩ = some (.int .u64 9) := fun d os => cell_keep (B3.out d os) k4
      clear k2 k3 k4 l2a l2b l2c l3a l3b l3c l4a l4b l4c hi
      generalize L.getD i 0 = x at *
      go_wp2_with fail
      refine wp_region_quiet_below (by kernel_rfl) (by kernel_rfl) ?_
      repeat
        first
          | go_big_quiet_skip
          | (go_big_quiet_want; go_big_quiet_op; go_big_quiet_on)
      refine wpQuiet_nil ?_
      rintro w2 ⟨p, rfl⟩
      have hb : Hid (Below W4.heap.size W4 (grow (redrawn wr p.d) p.os)) := B3.out p.d p.os
      generalize grow (redrawn wr p.d) p.os = w2 at *
      clear g2c g3c g4c B3
      go_wp2
      go_roundg (m - (i + 1))
      case measure => have := HK.out; omega
      case rel => exact ⟨i + 1, rfl, by omega, by go_num, hb.out⟩
end Go.Proofs.YtmcpljgojdoniaaDoor.tq

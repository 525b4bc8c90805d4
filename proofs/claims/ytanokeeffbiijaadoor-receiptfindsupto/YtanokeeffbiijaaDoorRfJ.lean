import Derived.Test.YtanokeeffbiijaaDoorRfI
import Derived.Test.YtanokeeffbiijaaDoorRfE
/- ReceiptFinds: its last statements. -/
namespace Go.Proofs.YtanokeeffbiijaaDoor.tq
open Go.RowKit Go.Sort
/-- What the law made, as it stays. -/
structure FiT (w V : World) (G gA cA n nA m H lb bk ok : Nat) (a aa ak : Option Addr) (c ca : Nat) (sa ta : Nat → Option Addr) (sn sc tc : Nat → Nat) : Prop where
  B : Below w.heap.size w V
  row : ∀ i, i < m → V.cell? ⟨H, i, none⟩ = some (.slice (sa i) (sn i) (sc i)) ∧ V.cell? ⟨bk, ok + i, none⟩ = some (.slice (ta i) (sn i) (tc i)) ∧ Calls Tryd.prog 10 #[.slice (sa i) (sn i) (sc i), .slice (ta i) (sn i) (tc i)] V fun e w' => e = .returned (.bool true) ∧ Below V.heap.size V w'
  last : V.cell? ⟨H, m, none⟩ = some (.slice (some ⟨lb, 0, none⟩) 1 1) ∧ V.rangeAt lb 0 (hC mC3)
  logs : Calls Tryd.prog 11 #[.slice (some ⟨G, 0, none⟩) n (n + 1), .slice a n c] V fun e w' => e = .returned (.bool true) ∧ Below V.heap.size V w'
  ads : Calls Tryd.prog 12 #[.slice (some ⟨gA, 0, none⟩) nA cA, .slice aa nA ca] V fun e w' => e = .returned (.bool true) ∧ Below V.heap.size V w'
set_option maxRecDepth 100000 in
set_option maxHeartbeats 16000000 in
theorem finds13 {w W3 W : World} {G gA cA n nA m H lb bk ok c ca ck : Nat} {a aa ak : Option Addr} {sa ta : Nat → Option Addr} {sn sc tc : Nat → Nat} (hn : n < 100000000) (hm : m < 100000000) (hk : 0 < m → ak = some ⟨bk, ok, none⟩) (FT : Hid (∀ V, Below W3.heap.size W3 V → FiT w V G gA cA n nA m H lb bk ok a aa ak c ca sa ta sn sc tc)) (B : Below W3.heap.size W3 W) {t3 t4 t5 t6 t10 t11 t12 t13 t14 t15 t16 t17 t18 t19 t20 t21 t22 t23 t24 t25 t26 t27 t28 t29 t30 t31 t32 t33 t34 t35 t36 t37 t38 t39 t40 t41 t42 t43 t44 t45 t46 t47 t48 t49 t50 t51 t52 t53 t54 t55 t56 t57 t58 t59 t60 t61 t62 t63 t64 t65 t66 t67 t68 t69 t70 t71 t72 t73 t74 t75 t76 t77 t78 t79 t80 t81 t82 t83 t84 t85 t86 t87 t88 t89 t90 t91 t92 t93 t94 t95 t96 t97 t98 t99 t100 t101 t102 t103 t104 t105 t106 t107 t108 t109 t110 t111 t112 t113 t114 t115 t116 t117 t118 t119 t120 t121 t122 t123 t124 t125 t126 t127 t128 t129 t130 t131 t132 t133 t134 t135 t136 t137 t138 t139 t140 t141 t142 t143 t144 t145 t146 t147 t148 t149 t150 t151 t152 t153 t154 t155 t156 t157 t158 t159 t160 t161 t162 t163 t164 t165 t166 t167 t168 t169 t170 t171 t172 t173 : Value} :
    WpFrom Tryd.prog Tryd.f3 13 (bodyPost Tryd.prog Tryd.f3 fun e w' => e = .returned (.bool true) ∧ Below w.heap.size w w') { tmps := #[.slice a n c, .slice aa nA ca, .slice ak m ck, t3, t4, t5, t6, .slice (some ⟨G, 0, none⟩) n (n + 1), .slice (some ⟨gA, 0, none⟩) nA cA, .slice (some ⟨H, 0, none⟩) (m + 1) (m + 1), t10, t11, t12, t13, t14, t15, t16, t17, t18, t19, t20, t21, t22, t23, t24, t25, t26, t27, t28, t29, t30, t31, t32, t33, t34, t35, t36, t37, t38, t39, t40, t41, t42, t43, t44, t45, t46, t47, t48, t49, t50, t51, t52, t53, t54, t55, t56, t57, t58, t59, t60, t61, t62, t63, t64, t65, t66, t67, t68, t69, t70, t71, t72, t73, t74, t75, t76, t77, t78, t79, t80, t81, t82, t83, t84, t85, t86, t87, t88, t89, t90, t91, t92, t93, t94, t95, t96, t97, t98, t99, t100, t101, t102, t103, t104, t105, t106, t107, t108, t109, t110, t111, t112, t113, t114, t115, t116, t117, t118, t119, t120, t121, t122, t123, t124, t125, t126, t127, t128, t129, t130, t131, t132, t133, t134, t135, t136, t137, t138, t139, t140, t141, t142, t143, t144, t145, t146, t147, t148, t149, t150, t151, t152, t153, t154, t155, t156, t157, t158, t159, t160, t161, t162, t163, t164, t165, t166, t167, t168, t169, t170, t171, t172, t173], defers := [] } W := by
  have n1 : (n : Int) < 100000000 := by omega
  have m1 : (m : Int) < 100000000 := by omega
  have HK0 : Hid (0 < m → ak = some ⟨bk, ok, none⟩) := hk
  have LM : Hid ((Tryd.prog.info? 30).map (·.size) = some (hC mC3).length) := size_hs
  have EH : Hid (∀ w, (Op.equalIn 10000 30 (.agg (hC mC3).toArray) (.agg #[.int .u8 195, .int .u8 0, .int .u8 0, .int .u8 0, .int .u8 0, .int .u8 0, .int .u8 0, .int .u8 0, .int .u8 0, .int .u8 0, .int .u8 0, .int .u8 0, .int .u8 0, .int .u8 0, .int .u8 0, .int .u8 0, .int .u8 0, .int .u8 0, .int .u8 0, .int .u8 0, .int .u8 0, .int .u8 0, .int .u8 0, .int .u8 0, .int .u8 0, .int .u8 0, .int .u8 0, .int .u8 0, .int .u8 0, .int .u8 0, .int .u8 0, .int .u8 0])).run Tryd.prog w = .ok true w) := eq_mC3
  have FL : Hid (∀ V, Below W3.heap.size W3 V → V.rangeAt lb 0 (hC mC3)) := fun V BV => (FT.out V BV).last.2
  obtain ⟨cH, hcH⟩ : ∃ cH, cH = hC mC3 := ⟨_, rfl⟩
  rw [← hcH] at LM EH FL
  clear hn hm hk hcH
  refine WpFrom.intro rfl ?_
  refine wp_seq_k fun K0 h0 => ?_
  have H0 : Hid _ := h0
  clear h0
  go_wp2_with fail
  go_loopg [17] m (fun k iv wr => ∃ i : Nat, k = m - i ∧ i ≤ m ∧ iv = .int .i64 i ∧ Below W3.heap.size W3 wr)
  case atStart => exact ⟨0, rfl, Nat.zero_le _, rfl, B⟩
  case round =>
    clear B W
    obtain ⟨i, hk, hi, rfl, B⟩ := hrel
    have HK : Hid (gk = m - i) := hk
    have HB : Hid (Below W3.heap.size W3 wr) := B
    clear hk B
    by_cases h8 : i = m
    · subst h8
      have e1 : decide ((i : Int) < (i : Int)) = false := by simp
      have m9 : (i : Int) < (i : Int) + 1 := by omega
      clear hi
      go_wp2
      refine H0.out _ _ ?_
      clear H0
      have cl := (FT.out _ HB.out).last.1
      have EQ := EH.out
      have lh := LM.out
      go_wp2_with first
        | (go_at_call 11; refine (FT.out _ HB.out).logs.mono ?_; rintro e W5 ⟨rfl, B5⟩; have BB : Hid (Below W3.heap.size W3 W5) := HB.out.trans (B5.mono HB.out.size); clear B5)
        | (go_at_call 12; refine (FT.out _ BB.out).ads.mono ?_; rintro e W6 ⟨rfl, B6⟩; have B9 : Hid (Below W3.heap.size W3 W6) := BB.out.trans (B6.mono BB.out.size); clear B6; have r9 := FL.out _ B9.out)
        | (refine wpList_load_midT (by rfl) 30 _ rfl lb 0 rfl cH _ r9 Tryd.underlying30 rfl lh ?_)
      simp [bodyPost, results, Tryd.results3, go_sem]
      exact (FT.out _ B9.out).B
    · have hlt : i < m := by omega
      have hlt' : (i : Int) < (m : Int) := by omega
      have hlt3 : (i : Int) < (m : Int) + 1 := by omega
      obtain rfl := HK0.out (by omega)
      have B3 : Hid (∀ d os, Below W3.heap.size W3 (grow (redrawn wr d) os)) := fun d os => HB.out.trans ((below_regrown wr d os).mono HB.out.size)
      have g1 := fun d os => ((FT.out _ (B3.out d os)).row i hlt).1
      have g2 := fun d os => ((FT.out _ (B3.out d os)).row i hlt).2.1
      have sk : Hid (∀ d os, Calls Tryd.prog 10 #[.slice (sa i) (sn i) (sc i), .slice (ta i) (sn i) (tc i)] (grow (redrawn wr d) os) fun e w' => e = .returned (.bool true) ∧ Below (grow (redrawn wr d) os).heap.size (grow (redrawn wr d) os) w') := fun d os => ((FT.out _ (B3.out d os)).row i hlt).2.2
      clear hi h8
      generalize sa i = a1 at *
      generalize ta i = a2 at *
      generalize sn i = k1 at *
      generalize sc i = k2 at *
      generalize tc i = k3 at *
      go_wp2_with fail
      refine wp_region_quiet_below (by kernel_rfl) (by kernel_rfl) ?_
      repeat
        first
          | go_big_quiet_skip
          | (go_big_quiet_want; go_big_quiet_op; go_big_quiet_on)
          | (go_big_quiet_want
             go_big_quiet_op
             apply Exists.intro
             refine ⟨fun p => ?_, ?_⟩
             · (go_at_call 10; with_reducible exact Calls.regrown_of (sk.out _ _))
             go_big_quiet_on)
      refine wpQuiet_nil ?_
      rintro w2 ⟨p, rfl⟩
      have hb : Hid (Below W3.heap.size W3 (grow (redrawn wr p.d) p.os)) := B3.out p.d p.os
      generalize grow (redrawn wr p.d) p.os = w2 at *
      clear g1 g2 sk B3
      go_wp2
      go_roundg (m - (i + 1))
      case measure => have := HK.out; omega
      case rel => exact ⟨i + 1, rfl, by omega, by go_num, hb.out⟩
end Go.Proofs.YtanokeeffbiijaaDoor.tq

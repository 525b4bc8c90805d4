import Derived.Test.YtmcpljgojdoniaaDoorRcJ
/- ReceiptGas: the sum. -/
namespace Go.Proofs.YtmcpljgojdoniaaDoor.tq
open Go.RowKit Go.Sort
theorem v6_set {L : List Int} {i : Nat} {x : Int} : (v6 L).set i (.int .u64 x) = v6 (L.set i x) := by unfold v6; rw [List.map_set]
set_option maxRecDepth 100000 in
set_option maxHeartbeats 16000000 in
theorem gas8 {w W3 W : World} {G B1 B2 B3 : Nat} {a : Option Addr} {b o c n m : Nat} {rs us : List Rc} {v1 v2 v3 : Value} {L U : List Int} (hl : rs.length = n) (hn : n < 100000000) (SR : Hid (∀ i, i < n → ∀ W, Below W3.heap.size W3 W → Calls Tryd.prog 10 #[.agg (rcC (us.getD i zRc)).toArray, .agg (rcC (rs.getD i zRc)).toArray] W fun e w' => e = .returned (.bool true) ∧ Below W.heap.size W w')) (SL : Hid (∀ i, i < n → ∀ W, Below W3.heap.size W3 W → Calls Tryd.prog 11 #[.agg (rcC (us.getD i zRc)).toArray, .agg (rcC (rs.getD i zRc)).toArray] W fun e w' => e = .returned (.bool true) ∧ Below W.heap.size W w')) (FF : Hid (∀ V, Below W3.heap.size W3 V → GsF w V G a b o c n rs us)) (LU : Hid (∀ i, i < n → (Tryd.prog.info? 30).map (·.size) = some (rcC (us.getD i zRc)).length ∧ (Tryd.prog.info? 30).map (·.size) = some (rcC (rs.getD i zRc)).length)) (hm : L.length = m) (hmn : m ≤ n) (hU : U = usd rs) (hP : ∀ i, i < m → L.getD i 0 = U.getD i 0 - prevU U i) (gB : W3.heap.size ≤ B1) (hB1 : B1 ≤ W.heap.size) (o1 : OwG B1 W v1 L) (o2 : OwG B2 W v2 L) (o3 : OwG B3 W v3 L) (d2 : v2.ownBlock = none ∨ v2.ownBlock ≠ v1.ownBlock) (d3 : v3.ownBlock = none ∨ v3.ownBlock ≠ v1.ownBlock) (B : Below W3.heap.size W3 W) {t1 t2 t4 t6 t8 t10 t11 t12 t13 t14 t15 t16 t17 t18 t19 t20 t21 t22 t23 t24 t25 t26 t27 t28 t29 t30 t31 t32 t33 t34 t35 t36 t37 t38 t39 t40 t41 t42 t43 t44 t45 t46 t47 t48 t49 t50 t51 t52 t53 t54 t55 t56 t57 t58 t59 t60 t61 t62 t63 t64 t65 t66 t67 t68 t69 t70 t71 t72 t73 t74 t75 t76 t77 t78 t79 t80 t81 t82 t83 t84 t85 t86 t87 t88 t89 t90 t91 t92 t93 t94 t95 t96 t97 t98 t99 t100 t101 t102 t103 t104 t105 t106 t107 t108 t109 t110 t111 t112 t113 t114 t115 t116 t117 t118 t119 t120 t121 t122 t123 t124 t125 t126 t127 t128 t129 t130 t131 t132 t133 t134 t135 t136 t137 t138 t139 t140 t141 t142 t143 t144 t145 t146 t147 t148 t149 t150 t151 t152 t153 t154 t155 t156 t157 t158 t159 t160 t161 t162 t163 t164 t165 t166 t167 t168 t169 t170 t171 t172 t173 t174 t175 t176 t177 t178 t179 t180 : Value} :
    WpFrom Tryd.prog Tryd.f3 8 (bodyPost Tryd.prog Tryd.f3 fun e w' => e = .returned (.bool true) ∧ Below w.heap.size w w') { tmps := #[.slice a n c, t1, t2, .slice (some ⟨G, 0, none⟩) (n + 1) (n + 1), t4, v1, t6, v2, t8, v3, t10, t11, t12, t13, t14, t15, t16, t17, t18, t19, t20, t21, t22, t23, t24, t25, t26, t27, t28, t29, t30, t31, t32, t33, t34, t35, t36, t37, t38, t39, t40, t41, t42, t43, t44, t45, t46, t47, t48, t49, t50, t51, t52, t53, t54, t55, t56, t57, t58, t59, t60, t61, t62, t63, t64, t65, t66, t67, t68, t69, t70, t71, t72, t73, t74, t75, t76, t77, t78, t79, t80, t81, t82, t83, t84, t85, t86, t87, t88, t89, t90, t91, t92, t93, t94, t95, t96, t97, t98, t99, t100, t101, t102, t103, t104, t105, t106, t107, t108, t109, t110, t111, t112, t113, t114, t115, t116, t117, t118, t119, t120, t121, t122, t123, t124, t125, t126, t127, t128, t129, t130, t131, t132, t133, t134, t135, t136, t137, t138, t139, t140, t141, t142, t143, t144, t145, t146, t147, t148, t149, t150, t151, t152, t153, t154, t155, t156, t157, t158, t159, t160, t161, t162, t163, t164, t165, t166, t167, t168, t169, t170, t171, t172, t173, t174, t175, t176, t177, t178, t179, t180], defers := [] } W := by
  have n1 : (n : Int) < 100000000 := by omega
  have m1 : (m : Int) < 100000000 := by omega
  have HM : Hid (L.length = m ∧ m ≤ n ∧ W3.heap.size ≤ B1) := ⟨hm, hmn, gB⟩
  have HN : Hid (rs.length = n ∧ n < 100000000) := ⟨hl, hn⟩
  have HP : Hid (∀ i, i < m → L.getD i 0 = U.getD i 0 - prevU U i) := hP
  have CU : Hid (∀ i, i < m → ∀ V, Below W3.heap.size W3 V → V.cell? ⟨b, o + i * 293 + 35, none⟩ = some (.int .u64 (U.getD i 0)) ∧ Word (U.getD i 0) ∧ a = some ⟨b, o, none⟩) := fun i hi V BV => by
    have h := (FF.out V BV).hr
    have h2 := h.us.2.2 i (by rw [usd, List.length_map]; omega)
    rw [hU]
    exact ⟨h2.2, h2.1, h.cons (by omega)⟩
  obtain ⟨a1, c1, e1⟩ := o1.form
  obtain ⟨a2, c2, e2⟩ := o2.form
  obtain ⟨a3, c3, e3⟩ := o3.form
  rw [hm] at e1 e2 e3
  subst e1 e2 e3
  have HD : Hid (((Value.slice a2 m c2).ownBlock = none ∨ (Value.slice a2 m c2).ownBlock ≠ (Value.slice a1 m c1).ownBlock) ∧ ((Value.slice a3 m c3).ownBlock = none ∨ (Value.slice a3 m c3).ownBlock ≠ (Value.slice a1 m c1).ownBlock)) := ⟨d2, d3⟩
  have HW : Hid (OwG B1 W (.slice a1 m c1) L ∧ OwG B2 W (.slice a2 m c2) L ∧ OwG B3 W (.slice a3 m c3) L ∧ Below W3.heap.size W3 W ∧ B1 ≤ W.heap.size) := ⟨o1, o2, o3, B, hB1⟩
  clear hm o1 o2 o3 d2 d3 B gB hB1 hl hn hmn hU hP
  refine WpFrom.intro rfl ?_
  refine wp_seq_k fun K0 h0 => ?_
  have H0 : Hid _ := h0
  clear h0
  go_wp2
  refine H0.out _ _ ?_
  clear H0 K0
  refine wp_seq_k fun K1 h1 => ?_
  have H1 : Hid _ := h1
  clear h1
  go_wp2_with fail
  go_loopg [11, 12] m (fun k sv iv wr => ∃ i : Nat, k = m - i ∧ i ≤ m ∧ iv = .int .i64 i ∧ sv = .int .u64 (prevU U i) ∧ OwG B1 wr (.slice a1 m c1) (List.replicate i 9 ++ L.drop i) ∧ OwG B2 wr (.slice a2 m c2) L ∧ OwG B3 wr (.slice a3 m c3) L ∧ Below W3.heap.size W3 wr ∧ B1 ≤ wr.heap.size)
  case atStart => exact ⟨0, rfl, Nat.zero_le _, rfl, rfl, HW.out⟩
  case round =>
    clear HW W
    obtain ⟨i, hk, hi, rfl, rfl, q1, q2, q3, B, hB⟩ := hrel
    have HK : Hid (gk = m - i) := hk
    have HO : Hid (OwG B1 wr (.slice a1 m c1) (List.replicate i 9 ++ L.drop i) ∧ OwG B2 wr (.slice a2 m c2) L ∧ OwG B3 wr (.slice a3 m c3) L ∧ Below W3.heap.size W3 wr ∧ B1 ≤ wr.heap.size) := ⟨q1, q2, q3, B, hB⟩
    clear hk q1 q2 q3 B hB
    by_cases h8 : i = m
    · subst h8
      have e1 : decide ((i : Int) < (i : Int)) = false := by simp
      have o9 : OwG B1 wr (.slice a1 i c1) (List.replicate i 9) := by
        have h := HO.out.1
        rwa [List.drop_of_length_le (by rw [HM.out.1]; exact Nat.le_refl _), List.append_nil] at h
      have HO9 : Hid (OwG B1 wr (.slice a1 i c1) (List.replicate i 9)) := o9
      clear hi o9
      go_wp2
      refine H1.out _ _ ?_
      exact (gas10 HN.out.1 HN.out.2 SR SL FF LU HM.out.1 HM.out.2.1 HM.out.2.2 HO.out.2.2.2.2 HO9.out HO.out.2.1 HO.out.2.2.1 HD.out.1 HD.out.2 HO.out.2.2.2.1).out rfl
    · have hlt : i < m := by omega
      have hlt' : (i : Int) < (m : Int) := by omega
      have hN : (List.replicate i (9 : Int) ++ L.drop i).length = m := by rw [nine_len i L (by rw [HM.out.1]; exact hi), HM.out.1]
      obtain ⟨g1, rfl, l1a, l1b, l1c⟩ := HO.out.1.of hN.symm (by omega)
      obtain ⟨g2, rfl, l2a, l2b, l2c⟩ := HO.out.2.1.of HM.out.1.symm (by omega)
      obtain ⟨g3, rfl, l3a, l3b, l3c⟩ := HO.out.2.2.1.of HM.out.1.symm (by omega)
      obtain ⟨cu, wu, rfl⟩ := CU.out i hlt wr HO.out.2.2.2.1
      have k1 : wr.cell? ⟨g1, i, none⟩ = some (.int .u64 (L.getD i 0)) := by
        have h := HO.out.1
        rw [show m = (List.replicate i (9 : Int) ++ L.drop i).length from hN.symm] at h
        rw [h.cellAt i (by rw [hN]; omega), nine_at i L (by rw [HM.out.1]; exact hlt)]
      have k2 : wr.cell? ⟨g2, i, none⟩ = some (.int .u64 (L.getD i 0)) := by have h := HO.out.2.1; rw [← HM.out.1] at h; exact h.cell (by rw [HM.out.1]; exact hlt)
      have k3 : wr.cell? ⟨g3, i, none⟩ = some (.int .u64 (L.getD i 0)) := by have h := HO.out.2.2.1; rw [← HM.out.1] at h; exact h.cell (by rw [HM.out.1]; exact hlt)
      have hltn : (i : Int) < (n : Int) := by have := HM.out.2.1; omega
      have px : L.getD i 0 = U.getD i 0 - prevU U i := HP.out i hlt
      have NX : Hid (prevU U (i + 1) = U.getD i 0) := rfl
      have L6 : Hid (W3.heap.size ≤ g1) := Nat.le_trans HM.out.2.2 l1a
      have B3' : Hid (∀ d os, Below wr.heap.size wr (grow (redrawn wr d) os)) := fun d os => below_regrown wr d os
      have g1c : ∀ d os, (grow (redrawn wr d) os).cell? ⟨g1, i, none⟩ = some (.int .u64 (L.getD i 0)) := fun d os => cell_keep (B3'.out d os) k1
      have g2c : ∀ d os, (grow (redrawn wr d) os).cell? ⟨g2, i, none⟩ = some (.int .u64 (L.getD i 0)) := fun d os => cell_keep (B3'.out d os) k2
      have g3c : ∀ d os, (grow (redrawn wr d) os).cell? ⟨g3, i, none⟩ = some (.int .u64 (L.getD i 0)) := fun d os => cell_keep (B3'.out d os) k3
      have HC : Hid (wr.cell? ⟨g1, i, none⟩ = some (.int .u64 (L.getD i 0)) ∧ wr.cell? ⟨b, o + i * 293 + 35, none⟩ = some (.int .u64 (U.getD i 0))) := ⟨k1, cu⟩
      have su : IntKind.u64.wrap (prevU U i + L.getD i 0) = U.getD i 0 := by rw [IntKind.wrap_u64, px]; have := wu.1; have := wu.2; omega
      clear k1 k2 k3 cu px wu l1a l1b l1c l2a l2b l2c l3a l3b l3c hi
      generalize L.getD i 0 = x at *
      generalize U.getD i 0 = u at *
      generalize prevU U i = pv at *
      go_wp2_with fail
      refine wp_region_quiet_below (by kernel_rfl) (by kernel_rfl) ?_
      repeat
        first
          | go_big_quiet_skip
          | (go_big_quiet_want; go_big_quiet_op; go_big_quiet_on)
      refine wpQuiet_nil ?_
      rintro w2 ⟨p, rfl⟩
      have hb : Hid (Below wr.heap.size wr (grow (redrawn wr p.d) p.os)) := B3'.out p.d p.os
      generalize grow (redrawn wr p.d) p.os = w2 at *
      clear g1c g2c g3c B3'
      have c1x := cell_keep hb.out HC.out.1
      have cux := cell_keep hb.out HC.out.2
      have q1 : w2.ownsRow B1 25 1 (.slice (some ⟨g1, 0, none⟩) m c1) m (v6 (List.replicate i 9 ++ L.drop i)) := by have h := HO.out.1.keep hb.out; unfold OwG at h; rwa [hN] at h
      have fz := q1.frozenAt i
      have ST := q1.stored i (.int .u64 9)
      have HN2 : Hid (OwG B1 (w2.setCell ⟨g1, i, none⟩ (.int .u64 9)) (.slice (some ⟨g1, 0, none⟩) m c1) (List.replicate (i + 1) 9 ++ L.drop (i + 1)) ∧ OwG B2 (w2.setCell ⟨g1, i, none⟩ (.int .u64 9)) (.slice (some ⟨g2, 0, none⟩) m c2) L ∧ OwG B3 (w2.setCell ⟨g1, i, none⟩ (.int .u64 9)) (.slice (some ⟨g3, 0, none⟩) m c3) L ∧ Below W3.heap.size W3 (w2.setCell ⟨g1, i, none⟩ (.int .u64 9)) ∧ B1 ≤ (w2.setCell ⟨g1, i, none⟩ (.int .u64 9)).heap.size) := by
        refine ⟨?_, World.ownsRow.kept (HO.out.2.1.keep hb.out) ST.2 HD.out.1, World.ownsRow.kept (HO.out.2.2.1.keep hb.out) ST.2 HD.out.2, (HO.out.2.2.2.1.trans (hb.out.mono HO.out.2.2.2.1.size)).setCell L6.out _, ?_⟩
        · have h := ST.1
          rw [v6_set, nine_set i L (by rw [HM.out.1]; exact hlt)] at h
          show World.ownsRow _ _ _ _ _ _ _
          rw [nine_len (i + 1) L (by rw [HM.out.1]; omega), HM.out.1]
          exact h
        · rw [World.size_setCell]; exact Nat.le_trans HO.out.2.2.2.2 hb.out.size
      clear ST hN q1
      go_wp2
      go_roundg (m - (i + 1))
      case measure => have := HK.out; omega
      case rel => exact ⟨i + 1, rfl, by omega, by go_num, (by rw [NX.out]), HN2.out⟩
end Go.Proofs.YtmcpljgojdoniaaDoor.tq

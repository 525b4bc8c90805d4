import Derived.Test.YtidchaaahgnabaaDoorHyD
/- Layer 8: the law HexaOne, from the digest on. -/
namespace Go.Proofs.YtidchaaahgnabaaDoor
open Go.RowKit Go.Sort
set_option maxRecDepth 100000 in
set_option maxHeartbeats 8000000 in
theorem hone_y {s tt : ByteArray} (hs : s.size < 140737488355328) (ht : tt = ⟨(lowT s.data.toList).toArray⟩) (w W : World) (hB : Below w.heap.size w W) (tb1 : Tab W 4 turnsN) (tb2 : Lns W 2 marksN) (t1 t2 t3 t4 t6 t7 t8 t9 t10 t11 t12 t13 t14 t15 t16 t17 t18 t19 t20 t21 t22 t23 t24 t25 t26 t27 t28 t29 t30 t31 t32 t33 t34 t35 t36 t37 t38 t39 t40 t41 t42 t43 t44 t45 t46 t47 t48 t49 t50 t51 t52 t53 t54 t55 t56 t57 t58 t59 t60 t61 t62 t63 t64 t65 t66 t67 t68 t69 t70 t71 t72 t73 t74 t75 t76 t77 t78 t79 t80 t81 t82 t83 t84 t85 t86 t87 t88 t89 t90 t91 t92 t93 t94 t95 t96 t97 t98 t99 t100 t101 t102 t103 t104 t105 t106 t107 t108 t109 t110 t111 t112 t113 t114 t115 t116 : Value) :
    WpFrom Tryd.prog Tryd.f6 11 (bodyPost Tryd.prog Tryd.f6 fun e w' => e = .returned (.bool true) ∧ Below w.heap.size w w') { tmps := #[.string s, t1, t2, t3, t4, .string tt, t6, t7, t8, t9, t10, t11, t12, t13, t14, t15, t16, t17, t18, t19, t20, t21, t22, t23, t24, t25, t26, t27, t28, t29, t30, t31, t32, t33, t34, t35, t36, t37, t38, t39, t40, t41, t42, t43, t44, t45, t46, t47, t48, t49, t50, t51, t52, t53, t54, t55, t56, t57, t58, t59, t60, t61, t62, t63, t64, t65, t66, t67, t68, t69, t70, t71, t72, t73, t74, t75, t76, t77, t78, t79, t80, t81, t82, t83, t84, t85, t86, t87, t88, t89, t90, t91, t92, t93, t94, t95, t96, t97, t98, t99, t100, t101, t102, t103, t104, t105, t106, t107, t108, t109, t110, t111, t112, t113, t114, t115, t116], defers := [] } W := by
  refine WpFrom.intro rfl ?_
  have HB : Hid (Below w.heap.size w W ∧ Tab W 4 turnsN ∧ Lns W 2 marksN) := ⟨hB, tb1, tb2⟩
  have HS : Hid (s.size < 140737488355328 ∧ tt = ⟨(lowT s.data.toList).toArray⟩) := ⟨hs, ht⟩
  have PA := ph_any hs W
  have HT : Hid (phE s = 0 → ∀ W', Calls Tryd.prog 22 #[.agg ((phX s).map (Value.int .u8)).toArray] W' fun e w' => e = .returned (.string tt) ∧ Below W'.heap.size W' w') := fun e0 W' => by
    have := hhash_any (phX_len s) (phX_low s) W'
    rw [one_hash e0, ← ht] at this
    exact this
  have NU : Hid (∀ v w, Calls Tryd.prog 11 #[.int .i64 v] w fun e w' => e = .returned (.int .i64 v) ∧ Below w.heap.size w w') := fun v w => hnum_any v w
  have L20 := phX_len s
  obtain ⟨M, eN⟩ : ∃ M, Hid (M = (phX s).map (Value.int .u8)) := ⟨_, rfl⟩
  have M20 : Hid (32 = M.length) := by rw [eN.out, List.length_map, L20]; exact rfl
  have lN : (Tryd.prog.info? 36).map (·.size) = some M.length := by rw [← M20.out]; kernel_rfl
  have oN : M.toArray.all (·.oneCell') = true := by rw [eN.out]; exact one_u8 _
  rw [← eN.out] at PA HT
  by_cases e0 : phE s = 0
  · have HT2 : Hid (∀ W', Calls Tryd.prog 22 #[.agg M.toArray] W' fun e w' => e = .returned (.string tt) ∧ Below W'.heap.size W' w') := HT.out e0
    rw [e0] at PA
    clear e0 HT hB tb1 tb2 L20 ht hs
    refine wp_seq_k fun K11 h11 => ?_
    have H11 : Hid _ := h11
    clear h11
    go_wp2_with fail
    with_reducible refine PA.mono ?_
    rintro e1 w1 ⟨rfl, b1⟩
    have B1 : Hid (Below W.heap.size W w1) := b1
    clear b1 PA
    go_wp2_with (refine wpList_put_new rfl 36 _ _ rfl M rfl rfl M20.out lN oN ?_; intro w3 hb3 RX; simp only [Act.put])
    have B3 : Hid (Below W.heap.size W w3) := B1.out.trans (hb3.mono B1.out.size)
    clear hb3 B1
    generalize w1.heap.size = bx at *
    refine H11.out _ _ ?_
    clear H11
    refine wp_seq_k fun K12 h12 => ?_
    have H12 : Hid _ := h12
    clear h12
    go_wp2_with fail
    with_reducible refine (NU.out _ _).mono ?_
    rintro e1 w4 ⟨rfl, hb4⟩
    replace RX := range_keepH RX hb4
    have B4 : Hid (Below W.heap.size W w4) := B3.out.trans (hb4.mono B3.out.size)
    clear hb4 B3
    go_wp2_with ((with_reducible refine wpList_load_wantH (ty := 36) bx 0 M _ RX Tryd.underlying36 ?_ lN ?_ ?_ ?_); rfl; rfl; rfl; simp only [Act.put, List.setIfInBounds_toArray, List.set_cons_succ, List.set_cons_zero])
    with_reducible refine (HT2.out _).mono ?_
    rintro e1 w5 ⟨rfl, hb5⟩
    have BL : Hid (Below W.heap.size W w5) := B4.out.trans (hb5.mono B4.out.size)
    clear hb5
    go_wp2
    refine H12.out _ _ ?_
    clear H12
    exact (hone_z HS.out.1 HS.out.2 w w5 (HB.out.1.trans (BL.out.mono HB.out.1.size)) (HB.out.2.1.keep BL.out) (HB.out.2.2.keep BL.out) _ _ _ _ _ _ _ _ _ _ _ _ _ _ _ _ _ _ _ _ _ _ _ _ _ _ _ _ _ _ _ _ _ _ _ _ _ _ _ _ _ _ _ _ _ _ _ _ _ _ _ _ _ _ _ _ _ _ _ _ _ _ _ _ _ _ _ _ _ _ _ _ _ _ _ _ _ _ _ _ _ _ _ _ _ _ _ _ _ _ _ _ _ _ _ _ _ _ _ _ _ _ _ _ _ _ _ _ _ _ _ _ _ _ _).out rfl
  · have q1 : (phE s != 0) = true := by simpa using e0
    have q2 : (phE s == 0) = false := by simpa using e0
    generalize phE s = E at *
    clear e0 HT hB tb1 tb2 L20 ht hs
    refine wp_seq_k fun K11 h11 => ?_
    have H11 : Hid _ := h11
    clear h11
    go_wp2_with fail
    with_reducible refine PA.mono ?_
    rintro e1 w1 ⟨rfl, b1⟩
    have B1 : Hid (Below W.heap.size W w1) := b1
    clear b1 PA
    go_wp2_with (refine wpList_put_new rfl 36 _ _ rfl M rfl rfl M20.out lN oN ?_; intro w3 hb3 RX; simp only [Act.put])
    have B3 : Hid (Below W.heap.size W w3) := B1.out.trans (hb3.mono B1.out.size)
    clear hb3 B1
    refine H11.out _ _ ?_
    clear H11
    refine wp_seq_k fun K12 h12 => ?_
    have H12 : Hid _ := h12
    clear h12
    go_wp2_with fail
    with_reducible refine (NU.out _ _).mono ?_
    rintro e1 w4 ⟨rfl, hb4⟩
    have BL : Hid (Below W.heap.size W w4) := B3.out.trans (hb4.mono B3.out.size)
    clear hb4 B3
    go_wp2
    refine H12.out _ _ ?_
    clear H12
    exact (hone_z HS.out.1 HS.out.2 w w4 (HB.out.1.trans (BL.out.mono HB.out.1.size)) (HB.out.2.1.keep BL.out) (HB.out.2.2.keep BL.out) _ _ _ _ _ _ _ _ _ _ _ _ _ _ _ _ _ _ _ _ _ _ _ _ _ _ _ _ _ _ _ _ _ _ _ _ _ _ _ _ _ _ _ _ _ _ _ _ _ _ _ _ _ _ _ _ _ _ _ _ _ _ _ _ _ _ _ _ _ _ _ _ _ _ _ _ _ _ _ _ _ _ _ _ _ _ _ _ _ _ _ _ _ _ _ _ _ _ _ _ _ _ _ _ _ _ _ _ _ _ _ _ _ _ _).out rfl
set_option maxRecDepth 100000 in
set_option maxHeartbeats 8000000 in
theorem hone_x {s tt : ByteArray} (hs : s.size < 140737488355328) (ht : tt = ⟨(lowT s.data.toList).toArray⟩) (w W : World) (hB : Below w.heap.size w W) (tb1 : Tab W 4 turnsN) (tb2 : Lns W 2 marksN) {bv : Nat} {n : Int} (hn : n = pqN 64 s) (hv : Qd W bv [l0 n, l1 n, l2 n, l3 n]) (t1 t2 t4 t6 t7 t8 t9 t10 t11 t12 t13 t14 t15 t16 t17 t18 t19 t20 t21 t22 t23 t24 t25 t26 t27 t28 t29 t30 t31 t32 t33 t34 t35 t36 t37 t38 t39 t40 t41 t42 t43 t44 t45 t46 t47 t48 t49 t50 t51 t52 t53 t54 t55 t56 t57 t58 t59 t60 t61 t62 t63 t64 t65 t66 t67 t68 t69 t70 t71 t72 t73 t74 t75 t76 t77 t78 t79 t80 t81 t82 t83 t84 t85 t86 t87 t88 t89 t90 t91 t92 t93 t94 t95 t96 t97 t98 t99 t100 t101 t102 t103 t104 t105 t106 t107 t108 t109 t110 t111 t112 t113 t114 t115 t116 : Value) :
    WpFrom Tryd.prog Tryd.f6 9 (bodyPost Tryd.prog Tryd.f6 fun e w' => e = .returned (.bool true) ∧ Below w.heap.size w w') { tmps := #[.string s, t1, t2, .pointer (some ⟨bv, 0, none⟩), t4, .string tt, t6, t7, t8, t9, t10, t11, t12, t13, t14, t15, t16, t17, t18, t19, t20, t21, t22, t23, t24, t25, t26, t27, t28, t29, t30, t31, t32, t33, t34, t35, t36, t37, t38, t39, t40, t41, t42, t43, t44, t45, t46, t47, t48, t49, t50, t51, t52, t53, t54, t55, t56, t57, t58, t59, t60, t61, t62, t63, t64, t65, t66, t67, t68, t69, t70, t71, t72, t73, t74, t75, t76, t77, t78, t79, t80, t81, t82, t83, t84, t85, t86, t87, t88, t89, t90, t91, t92, t93, t94, t95, t96, t97, t98, t99, t100, t101, t102, t103, t104, t105, t106, t107, t108, t109, t110, t111, t112, t113, t114, t115, t116], defers := [] } W := by
  refine WpFrom.intro rfl ?_
  have HB : Hid (Below w.heap.size w W ∧ Tab W 4 turnsN ∧ Lns W 2 marksN) := ⟨hB, tb1, tb2⟩
  have HS : Hid (s.size < 140737488355328 ∧ tt = ⟨(lowT s.data.toList).toArray⟩) := ⟨hs, ht⟩
  have PA := puint_all hs W
  obtain ⟨n0, n1⟩ := pqN_num (m := 16) (by decide) s
  have uw : Word (pqN 16 s) := ⟨n0.1, by rw [show (18446744073709551616 : Int) = 16 ^ 16 by decide]; exact n1⟩
  have UT : Hid (pqE 16 s = 0 → ∀ W', Calls Tryd.prog 19 #[.int .u64 (pqN 16 s)] W' fun e w' => e = .returned (.string tt) ∧ Below W'.heap.size W' w') := fun e0 W' => by
    have := huint_any uw W'
    rw [one_quan e0, ← ht] at this
    exact this
  have NU : Hid (∀ v w, Calls Tryd.prog 11 #[.int .i64 v] w fun e w' => e = .returned (.int .i64 v) ∧ Below w.heap.size w w') := fun v w => hnum_any v w
  by_cases e0 : pqE 16 s = 0
  · have UT2 : Hid (∀ W', Calls Tryd.prog 19 #[.int .u64 (pqN 16 s)] W' fun e w' => e = .returned (.string tt) ∧ Below W'.heap.size W' w') := UT.out e0
    rw [e0] at PA
    obtain ⟨z0, z1, z2, z3⟩ := l0_small uw.1 uw.2
    rw [hn, (one_uint e0).2, z0, z1, z2, z3] at hv
    generalize pqN 16 s = u at *
    have EQ := eqH u 0 0 0 u 0 0 0
    simp only [beq_self_eq_true, Bool.and_self] at EQ
    clear e0 UT hB tb1 tb2 ht hs n0 n1 uw z0 z1 z2 z3 hn
    refine wp_seq_k fun K11 h11 => ?_
    have H11 : Hid _ := h11
    clear h11
    go_wp2_with fail
    with_reducible refine PA.mono ?_
    rintro e1 w1 ⟨rfl, b1⟩
    have B1 : Hid (Below W.heap.size W w1) := b1
    replace hv := hv.keep b1
    clear b1 PA
    go_wp2
    refine H11.out _ _ ?_
    clear H11
    refine wp_seq_k fun K12 h12 => ?_
    have H12 : Hid _ := h12
    clear h12
    go_wp2_with fail
    with_reducible refine (NU.out _ _).mono ?_
    rintro e1 w4 ⟨rfl, hb4⟩
    replace hv := hv.keep hb4
    have B4 : Hid (Below W.heap.size W w4) := B1.out.trans (hb4.mono B1.out.size)
    clear hb4 B1
    go_wp2_with fail
    with_reducible refine (UT2.out _).mono ?_
    rintro e1 w5 ⟨rfl, hb5⟩
    replace hv := hv.keep hb5
    have BL : Hid (Below W.heap.size W w5) := B4.out.trans (hb5.mono B4.out.size)
    clear hb5
    obtain ⟨c0, f0⟩ := hv 0 (by decide); obtain ⟨c1, f1⟩ := hv 1 (by decide); obtain ⟨c2, f2⟩ := hv 2 (by decide); obtain ⟨c3, f3⟩ := hv 3 (by decide)
    simp only [List.getD_cons_zero, List.getD_cons_succ] at c0 c1 c2 c3
    clear hv f0 f1 f2 f3
    go_wp2
    refine H12.out _ _ ?_
    clear H12
    exact (hone_y HS.out.1 HS.out.2 w w5 (HB.out.1.trans (BL.out.mono HB.out.1.size)) (HB.out.2.1.keep BL.out) (HB.out.2.2.keep BL.out) _ _ _ _ _ _ _ _ _ _ _ _ _ _ _ _ _ _ _ _ _ _ _ _ _ _ _ _ _ _ _ _ _ _ _ _ _ _ _ _ _ _ _ _ _ _ _ _ _ _ _ _ _ _ _ _ _ _ _ _ _ _ _ _ _ _ _ _ _ _ _ _ _ _ _ _ _ _ _ _ _ _ _ _ _ _ _ _ _ _ _ _ _ _ _ _ _ _ _ _ _ _ _ _ _ _ _ _ _ _ _ _ _ _ _).out rfl
  · have q1 : (pqE 16 s != 0) = true := by simpa using e0
    have q2 : (pqE 16 s == 0) = false := by simpa using e0
    generalize pqE 16 s = E at *
    generalize pqN 16 s = u at *
    clear e0 UT hB tb1 tb2 ht hs n0 n1 uw hv hn
    refine wp_seq_k fun K11 h11 => ?_
    have H11 : Hid _ := h11
    clear h11
    go_wp2_with fail
    with_reducible refine PA.mono ?_
    rintro e1 w1 ⟨rfl, b1⟩
    have B1 : Hid (Below W.heap.size W w1) := b1
    clear b1 PA
    go_wp2
    refine H11.out _ _ ?_
    clear H11
    refine wp_seq_k fun K12 h12 => ?_
    have H12 : Hid _ := h12
    clear h12
    go_wp2_with fail
    with_reducible refine (NU.out _ _).mono ?_
    rintro e1 w4 ⟨rfl, hb4⟩
    have BL : Hid (Below W.heap.size W w4) := B1.out.trans (hb4.mono B1.out.size)
    clear hb4 B1
    go_wp2
    refine H12.out _ _ ?_
    clear H12
    exact (hone_y HS.out.1 HS.out.2 w w4 (HB.out.1.trans (BL.out.mono HB.out.1.size)) (HB.out.2.1.keep BL.out) (HB.out.2.2.keep BL.out) _ _ _ _ _ _ _ _ _ _ _ _ _ _ _ _ _ _ _ _ _ _ _ _ _ _ _ _ _ _ _ _ _ _ _ _ _ _ _ _ _ _ _ _ _ _ _ _ _ _ _ _ _ _ _ _ _ _ _ _ _ _ _ _ _ _ _ _ _ _ _ _ _ _ _ _ _ _ _ _ _ _ _ _ _ _ _ _ _ _ _ _ _ _ _ _ _ _ _ _ _ _ _ _ _ _ _ _ _ _ _ _ _ _ _).out rfl
end Go.Proofs.YtidchaaahgnabaaDoor

import Derived.Test.YtidchaaahgnabaaDoorHyE
/- Layer 8: the law HexaOne, from its start on. -/
namespace Go.Proofs.YtidchaaahgnabaaDoor
open Go.RowKit Go.Sort
theorem Qd.put {W : World} {b : Nat} {x0 x1 x2 x3 y0 y1 y2 y3 : Int} (h : Qd W b [x0, x1, x2, x3]) : Qd ((((W.setCell ⟨b, 0, none⟩ (.int .u64 y0)).setCell ⟨b, 1, none⟩ (.int .u64 y1)).setCell ⟨b, 2, none⟩ (.int .u64 y2)).setCell ⟨b, 3, none⟩ (.int .u64 y3)) b [y0, y1, y2, y3] :=
  (((h.set (j := 0) (by decide) rfl).set (j := 1) (by decide) rfl).set (j := 2) (by decide) rfl).set (j := 3) (by decide) rfl
set_option maxRecDepth 100000 in
set_option maxHeartbeats 8000000 in
theorem hone_w {s tt : ByteArray} (hs : s.size < 140737488355328) (ht : tt = ⟨(lowT s.data.toList).toArray⟩) (w W : World) (hB : Below w.heap.size w W) (tb1 : Tab w 4 turnsN) (tb2 : Lns w 2 marksN) {bv : Nat} (obv : w.heap.size ≤ bv) {a b c d : Int} (hv : Qd W bv [a, b, c, d]) (t1 t2 t4 t6 t7 t8 t9 t10 t11 t12 t13 t14 t15 t16 t17 t18 t19 t20 t21 t22 t23 t24 t25 t26 t27 t28 t29 t30 t31 t32 t33 t34 t35 t36 t37 t38 t39 t40 t41 t42 t43 t44 t45 t46 t47 t48 t49 t50 t51 t52 t53 t54 t55 t56 t57 t58 t59 t60 t61 t62 t63 t64 t65 t66 t67 t68 t69 t70 t71 t72 t73 t74 t75 t76 t77 t78 t79 t80 t81 t82 t83 t84 t85 t86 t87 t88 t89 t90 t91 t92 t93 t94 t95 t96 t97 t98 t99 t100 t101 t102 t103 t104 t105 t106 t107 t108 t109 t110 t111 t112 t113 t114 t115 t116 : Value) :
    WpFrom Tryd.prog Tryd.f6 7 (bodyPost Tryd.prog Tryd.f6 fun e w' => e = .returned (.bool true) ∧ Below w.heap.size w w') { tmps := #[.string s, t1, t2, .pointer (some ⟨bv, 0, none⟩), t4, .string tt, t6, t7, t8, t9, t10, t11, t12, t13, t14, t15, t16, t17, t18, t19, t20, t21, t22, t23, t24, t25, t26, t27, t28, t29, t30, t31, t32, t33, t34, t35, t36, t37, t38, t39, t40, t41, t42, t43, t44, t45, t46, t47, t48, t49, t50, t51, t52, t53, t54, t55, t56, t57, t58, t59, t60, t61, t62, t63, t64, t65, t66, t67, t68, t69, t70, t71, t72, t73, t74, t75, t76, t77, t78, t79, t80, t81, t82, t83, t84, t85, t86, t87, t88, t89, t90, t91, t92, t93, t94, t95, t96, t97, t98, t99, t100, t101, t102, t103, t104, t105, t106, t107, t108, t109, t110, t111, t112, t113, t114, t115, t116], defers := [] } W := by
  refine WpFrom.intro rfl ?_
  have HB : Hid (Tab w 4 turnsN ∧ Lns w 2 marksN) := ⟨tb1, tb2⟩
  have HS : Hid (s.size < 140737488355328 ∧ tt = ⟨(lowT s.data.toList).toArray⟩) := ⟨hs, ht⟩
  have PA := pquan_all hs W
  obtain ⟨n0, _⟩ := pqN_num (m := 64) (by decide) s
  have UT : Hid (pqE 64 s = 0 → ∀ W', Calls Tryd.prog 17 #[.agg #[.int .u64 (l0 (pqN 64 s)), .int .u64 (l1 (pqN 64 s)), .int .u64 (l2 (pqN 64 s)), .int .u64 (l3 (pqN 64 s))]] W' fun e w' => e = .returned (.string tt) ∧ Below W'.heap.size W' w') := fun e0 W' => by
    have := quant_any n0 W'
    rw [one_quan e0, ← ht] at this
    exact this
  have NU : Hid (∀ v w, Calls Tryd.prog 11 #[.int .i64 v] w fun e w' => e = .returned (.int .i64 v) ∧ Below w.heap.size w w') := fun v w => hnum_any v w
  obtain ⟨L0, L1, L2, L3, LL⟩ : ∃ L0 L1 L2 L3, Hid ([L0, L1, L2, L3] = [l0 (pqN 64 s), l1 (pqN 64 s), l2 (pqN 64 s), l3 (pqN 64 s)]) := ⟨_, _, _, _, rfl⟩
  have LE : l0 (pqN 64 s) = L0 ∧ l1 (pqN 64 s) = L1 ∧ l2 (pqN 64 s) = L2 ∧ l3 (pqN 64 s) = L3 := by
    have := LL.out
    simp only [List.cons.injEq, and_true] at this
    exact ⟨this.1.symm, this.2.1.symm, this.2.2.1.symm, this.2.2.2.symm⟩
  rw [LE.1, LE.2.1, LE.2.2.1, LE.2.2.2] at PA UT
  by_cases e0 : pqE 64 s = 0
  · have UT2 : Hid (∀ W', Calls Tryd.prog 17 #[.agg #[.int .u64 L0, .int .u64 L1, .int .u64 L2, .int .u64 L3]] W' fun e w' => e = .returned (.string tt) ∧ Below W'.heap.size W' w') := UT.out e0
    rw [e0] at PA
    clear e0 UT tb1 tb2 ht hs n0 LE
    refine wp_seq_k fun K11 h11 => ?_
    have H11 : Hid _ := h11
    clear h11
    go_wp2_with fail
    with_reducible refine PA.mono ?_
    rintro e1 w1 ⟨rfl, b1⟩
    replace hv := hv.keep b1
    have B1 : Hid (Below w.heap.size w w1) := hB.trans (b1.mono hB.size)
    have HV : Hid (Qd w1 bv [a, b, c, d]) := hv
    obtain ⟨c0, f0⟩ := hv 0 (by decide); obtain ⟨c1, f1⟩ := hv 1 (by decide); obtain ⟨c2, f2⟩ := hv 2 (by decide); obtain ⟨c3, f3⟩ := hv 3 (by decide)
    simp only [List.getD_cons_zero, List.getD_cons_succ] at c0 c1 c2 c3
    clear b1 PA hv hB
    go_wp2
    refine H11.out _ _ ?_
    clear H11 c0 c1 c2 c3 f0 f1 f2 f3
    refine wp_world (fun W' => Below w.heap.size w W' ∧ Qd W' bv [L0, L1, L2, L3]) ⟨(((B1.out.setCell obv _).setCell obv _).setCell obv _).setCell obv _, HV.out.put⟩ ?_
    clear B1 HV w1
    rintro w1 ⟨B1, hv⟩
    refine wp_seq_k fun K12 h12 => ?_
    have H12 : Hid _ := h12
    clear h12
    go_wp2_with fail
    with_reducible refine (NU.out _ _).mono ?_
    rintro e1 w4 ⟨rfl, hb4⟩
    replace hv := hv.keep hb4
    have B4 : Hid (Below w.heap.size w w4) := B1.trans (hb4.mono B1.size)
    clear hb4 B1
    have HV : Hid (Qd w4 bv [L0, L1, L2, L3]) := hv
    obtain ⟨c0, f0⟩ := hv 0 (by decide); obtain ⟨c1, f1⟩ := hv 1 (by decide); obtain ⟨c2, f2⟩ := hv 2 (by decide); obtain ⟨c3, f3⟩ := hv 3 (by decide)
    simp only [List.getD_cons_zero, List.getD_cons_succ] at c0 c1 c2 c3
    clear hv f0 f1 f2 f3
    go_wp2_with fail
    with_reducible refine (UT2.out _).mono ?_
    rintro e1 w5 ⟨rfl, hb5⟩
    have hv := HV.out.keep hb5
    have BL : Hid (Below w.heap.size w w5) := B4.out.trans (hb5.mono B4.out.size)
    clear hb5 HV c0 c1 c2 c3
    go_wp2
    refine H12.out _ _ ?_
    clear H12
    exact (hone_x HS.out.1 HS.out.2 w w5 BL.out (HB.out.1.keep BL.out) (HB.out.2.keep BL.out) (n := pqN 64 s) rfl (by rw [← LL.out]; exact hv) _ _ _ _ _ _ _ _ _ _ _ _ _ _ _ _ _ _ _ _ _ _ _ _ _ _ _ _ _ _ _ _ _ _ _ _ _ _ _ _ _ _ _ _ _ _ _ _ _ _ _ _ _ _ _ _ _ _ _ _ _ _ _ _ _ _ _ _ _ _ _ _ _ _ _ _ _ _ _ _ _ _ _ _ _ _ _ _ _ _ _ _ _ _ _ _ _ _ _ _ _ _ _ _ _ _ _ _ _ _ _ _ _ _).out rfl
  · have q1 : (pqE 64 s != 0) = true := by simpa using e0
    have q2 : (pqE 64 s == 0) = false := by simpa using e0
    generalize pqE 64 s = E at *
    clear e0 UT tb1 tb2 ht hs n0 LE
    refine wp_seq_k fun K11 h11 => ?_
    have H11 : Hid _ := h11
    clear h11
    go_wp2_with fail
    with_reducible refine PA.mono ?_
    rintro e1 w1 ⟨rfl, b1⟩
    replace hv := hv.keep b1
    have B1 : Hid (Below w.heap.size w w1) := hB.trans (b1.mono hB.size)
    have HV : Hid (Qd w1 bv [a, b, c, d]) := hv
    obtain ⟨c0, f0⟩ := hv 0 (by decide); obtain ⟨c1, f1⟩ := hv 1 (by decide); obtain ⟨c2, f2⟩ := hv 2 (by decide); obtain ⟨c3, f3⟩ := hv 3 (by decide)
    simp only [List.getD_cons_zero, List.getD_cons_succ] at c0 c1 c2 c3
    clear b1 PA hv hB
    go_wp2
    refine H11.out _ _ ?_
    clear H11 c0 c1 c2 c3 f0 f1 f2 f3
    refine wp_world (fun W' => Below w.heap.size w W' ∧ Qd W' bv [L0, L1, L2, L3]) ⟨(((B1.out.setCell obv _).setCell obv _).setCell obv _).setCell obv _, HV.out.put⟩ ?_
    clear B1 HV w1
    rintro w1 ⟨B1, hv⟩
    refine wp_seq_k fun K12 h12 => ?_
    have H12 : Hid _ := h12
    clear h12
    go_wp2_with fail
    with_reducible refine (NU.out _ _).mono ?_
    rintro e1 w4 ⟨rfl, hb4⟩
    replace hv := hv.keep hb4
    have B4 : Hid (Below w.heap.size w w4) := B1.trans (hb4.mono B1.size)
    clear hb4 B1
    have BL : Hid (Below w.heap.size w w4) := B4.out
    clear B4
    go_wp2
    refine H12.out _ _ ?_
    clear H12
    exact (hone_x HS.out.1 HS.out.2 w w4 BL.out (HB.out.1.keep BL.out) (HB.out.2.keep BL.out) (n := pqN 64 s) rfl (by rw [← LL.out]; exact hv) _ _ _ _ _ _ _ _ _ _ _ _ _ _ _ _ _ _ _ _ _ _ _ _ _ _ _ _ _ _ _ _ _ _ _ _ _ _ _ _ _ _ _ _ _ _ _ _ _ _ _ _ _ _ _ _ _ _ _ _ _ _ _ _ _ _ _ _ _ _ _ _ _ _ _ _ _ _ _ _ _ _ _ _ _ _ _ _ _ _ _ _ _ _ _ _ _ _ _ _ _ _ _ _ _ _ _ _ _ _ _ _ _ _).out rfl
end Go.Proofs.YtidchaaahgnabaaDoor

import Derived.Test.YtidchaaahgnabaaDoorHyC
import Derived.Test.YtidchaaahgnabaaDoorCut
import Derived.Test.YtidchaaahgnabaaDoorHxT
/- Layer 8: the law HexaOne. -/
namespace Go.Proofs.YtidchaaahgnabaaDoor
open Go.RowKit Go.Sort
theorem lit_text (s : ByteArray) : s = ⟨s.data.toList.toArray⟩ := by cases s; simp
set_option maxRecDepth 100000 in
set_option maxHeartbeats 8000000 in
theorem hone_z {s tt : ByteArray} (hs : s.size < 140737488355328) (ht : tt = ⟨(lowT s.data.toList).toArray⟩) (w W : World) (hB : Below w.heap.size w W) (tb1 : Tab W 4 turnsN) (tb2 : Lns W 2 marksN) (t1 t2 t3 t4 t6 t7 t8 t9 t10 t11 t12 t13 t14 t15 t16 t17 t18 t19 t20 t21 t22 t23 t24 t25 t26 t27 t28 t29 t30 t31 t32 t33 t34 t35 t36 t37 t38 t39 t40 t41 t42 t43 t44 t45 t46 t47 t48 t49 t50 t51 t52 t53 t54 t55 t56 t57 t58 t59 t60 t61 t62 t63 t64 t65 t66 t67 t68 t69 t70 t71 t72 t73 t74 t75 t76 t77 t78 t79 t80 t81 t82 t83 t84 t85 t86 t87 t88 t89 t90 t91 t92 t93 t94 t95 t96 t97 t98 t99 t100 t101 t102 t103 t104 t105 t106 t107 t108 t109 t110 t111 t112 t113 t114 t115 t116 : Value) :
    WpFrom Tryd.prog Tryd.f6 13 (bodyPost Tryd.prog Tryd.f6 fun e w' => e = .returned (.bool true) ∧ Below w.heap.size w w') { tmps := #[.string s, t1, t2, t3, t4, .string tt, t6, t7, t8, t9, t10, t11, t12, t13, t14, t15, t16, t17, t18, t19, t20, t21, t22, t23, t24, t25, t26, t27, t28, t29, t30, t31, t32, t33, t34, t35, t36, t37, t38, t39, t40, t41, t42, t43, t44, t45, t46, t47, t48, t49, t50, t51, t52, t53, t54, t55, t56, t57, t58, t59, t60, t61, t62, t63, t64, t65, t66, t67, t68, t69, t70, t71, t72, t73, t74, t75, t76, t77, t78, t79, t80, t81, t82, t83, t84, t85, t86, t87, t88, t89, t90, t91, t92, t93, t94, t95, t96, t97, t98, t99, t100, t101, t102, t103, t104, t105, t106, t107, t108, t109, t110, t111, t112, t113, t114, t115, t116], defers := [] } W := by
  refine WpFrom.intro rfl ?_
  have PA := pa_any hs W tb1 tb2
  have CK : Hid (∀ W', Below W.heap.size W W' → Calls Tryd.prog 8 #[.agg ((paX s).map (Value.int .u8)).toArray] W' fun e w' => e = .returned (.string ⟨(ckS (paX s)).toArray⟩) ∧ Below W'.heap.size W' w') := fun W' BW => checksum_any (paX_len s) (paX_lowb s) W' (tb1.keep BW) (tb2.keep BW)
  have LO : Hid (paE s = 0 → ∀ W', Calls Tryd.prog 10 #[.string ⟨(ckS (paX s)).toArray⟩] W' fun e w' => e = .returned (.string tt) ∧ Below W'.heap.size W' w') := fun e0 W' => by
    have := lower_any (T := ckS (paX s)) (by rw [ckS_len]; decide) W'
    rw [one_addr e0, ← ht] at this
    exact this
  have NU : Hid (∀ v w, Calls Tryd.prog 11 #[.int .i64 v] w fun e w' => e = .returned (.int .i64 v) ∧ Below w.heap.size w w') := fun v w => hnum_any v w
  have L20 := paX_len s
  obtain ⟨M, eN⟩ : ∃ M, Hid (M = (paX s).map (Value.int .u8)) := ⟨_, rfl⟩
  have M20 : Hid (20 = M.length) := by rw [eN.out, List.length_map, L20]; exact rfl
  have lN : (Tryd.prog.info? 23).map (·.size) = some M.length := by rw [← M20.out]; kernel_rfl
  have oN : M.toArray.all (·.oneCell') = true := by rw [eN.out]; exact one_u8 _
  rw [← eN.out] at PA CK
  generalize (⟨(ckS (paX s)).toArray⟩ : ByteArray) = cs at *
  have HB : Hid (Below w.heap.size w W) := hB
  by_cases e0 : paE s = 0
  · have LO' := LO.out e0
    have LO2 : Hid (∀ W', Calls Tryd.prog 10 #[.string cs] W' fun e w' => e = .returned (.string tt) ∧ Below W'.heap.size W' w') := LO'
    rw [e0] at PA
    clear e0 LO LO' hB tb1 tb2 L20 ht hs
    go_wp2_with fail
    with_reducible refine PA.mono ?_
    rintro e1 w1 ⟨rfl, b1⟩
    have B1 : Hid (Below W.heap.size W w1) := b1
    clear b1 PA
    go_wp2_with (refine wpList_put_new rfl 23 _ _ rfl M rfl rfl M20.out lN oN ?_; intro w3 hb3 RX; simp only [Act.put])
    have B3 : Hid (Below W.heap.size W w3) := B1.out.trans (hb3.mono B1.out.size)
    clear hb3 B1
    generalize w1.heap.size = bx at *
    with_reducible refine (NU.out _ _).mono ?_
    rintro e1 w4 ⟨rfl, hb4⟩
    replace RX := range_keepH RX hb4
    have B4 : Hid (Below W.heap.size W w4) := B3.out.trans (hb4.mono B3.out.size)
    clear hb4 B3
    go_wp2_with ((with_reducible refine wpList_load_wantH (ty := 23) bx 0 M _ RX Tryd.underlying23 ?_ lN ?_ ?_ ?_); rfl; rfl; rfl; simp only [Act.put, List.setIfInBounds_toArray, List.set_cons_succ, List.set_cons_zero])
    with_reducible refine (CK.out _ B4.out).mono ?_
    rintro e1 w5 ⟨rfl, hb5⟩
    have B5 : Hid (Below W.heap.size W w5) := B4.out.trans (hb5.mono B4.out.size)
    clear hb5
    go_wp2_with fail
    with_reducible refine (LO2.out _).mono ?_
    rintro e1 w6 ⟨rfl, hb6⟩
    have B6 : Hid (Below W.heap.size W w6) := B5.out.trans (hb6.mono B5.out.size)
    clear hb6
    go_wp2
    simp [bodyPost, results, Tryd.results6, go_sem]
    exact HB.out.trans (B6.out.mono HB.out.size)
  · have q1 : (paE s != 0) = true := by simpa using e0
    have q2 : (paE s == 0) = false := by simpa using e0
    generalize paE s = E at *
    clear e0 LO hB tb1 tb2 L20 ht hs
    go_wp2_with fail
    with_reducible refine PA.mono ?_
    rintro e1 w1 ⟨rfl, b1⟩
    have B1 : Hid (Below W.heap.size W w1) := b1
    clear b1 PA
    go_wp2_with (refine wpList_put_new rfl 23 _ _ rfl M rfl rfl M20.out lN oN ?_; intro w3 hb3 RX; simp only [Act.put])
    with_reducible refine (NU.out _ _).mono ?_
    rintro e1 w4 ⟨rfl, hb4⟩
    have B4 : Hid (Below W.heap.size W w4) := (B1.out.trans (hb3.mono B1.out.size)).trans (hb4.mono (B1.out.trans (hb3.mono B1.out.size)).size)
    clear hb3 hb4
    go_wp2
    simp [bodyPost, results, Tryd.results6, go_sem]
    exact HB.out.trans (B4.out.mono HB.out.size)
end Go.Proofs.YtidchaaahgnabaaDoor

import Derived.Test.YtjlijohdobknoaaDoorFBatA
/- FieldBatch: from behind the first loop on. -/
namespace Go.Proofs.YtjlijohdobknoaaDoor
open Go.RowKit Go.Sort

theorem nms_lt {W : World} {a : Option Addr} {g o : Nat} {L : List Int} (hD : Mds W) (ha : At4 a g o L) (h : Nms W g o L) : ∃ g' o', At4 a g' o' L ∧ Nms W g' o' L ∧ g' < W.heap.size := by
  by_cases e : L = []
  · subst e
    exact ⟨0, 0, .inl rfl, fun i hi => absurd hi (Nat.not_lt_zero _), hD.lt⟩
  · have l : 0 < L.length := List.length_pos_iff.2 e
    exact ⟨g, o, ha, h, World.block_lt_of_cell? W _ (h 0 l).1⟩
set_option maxRecDepth 100000 in
set_option maxHeartbeats 16000000 in
theorem fbat_mid {k m c : Int} {n g o cap gw cw gt ct : Nat} {a aw at_ : Option Addr} {L : List Int} (hk : Kind k m c) (hp : Prm m) (hn : L.length = n) (h6 : n ≤ 65536) (hN : ∀ i, i < L.length → Num (L.getD i 0)) (hz : ∀ i, i < L.length → modN m (L.getD i 0) ≠ 0) (ha : At4 a g o L) (haw : At4 aw gw 0 (L.map (invN m))) (hat : At4 at_ gt 0 L.reverse) (w W : World) (hB : Below w.heap.size w W) (hD : Mds W) (hL : Nms W g o L) (hW : Nms W gw 0 (L.map (invN m))) (hT : Nms W gt 0 L.reverse) (t0 t2 t3 t4 t6 t7 t10 t11 t12 t13 t14 t15 t16 t17 t18 t19 t20 t21 t22 t23 t24 t25 t26 t27 t28 t29 t30 t31 t32 t33 t34 t35 t36 t37 t38 t39 t40 t41 t42 t43 t44 t45 t46 t47 t48 t49 t50 t51 t52 t53 t54 t55 t56 t57 t58 t59 t60 t61 t62 t63 t64 t65 t66 t67 t68 t69 t70 t71 t72 t73 t74 t75 t76 t77 t78 t79 t80 t81 t82 t83 t84 t85 t86 t87 t88 t89 t90 t91 t92 t93 t94 t95 t96 t97 t98 t99 t100 t101 t102 t103 t104 t105 t106 t107 t108 t109 t110 t111 t112 t113 t114 t115 t116 t117 t118 t119 t120 t121 t122 t123 t124 t125 t126 t127 t128 t129 t130 t131 t132 t133 t134 t135 t136 t137 t138 t139 t140 t141 t142 t143 t144 t145 t146 t147 t148 t149 t150 t151 t152 t153 t154 t155 t156 t157 t158 t159 t160 t161 t162 : Value) :
    WpFrom Tryd.prog Tryd.f3 5 (bodyPost Tryd.prog Tryd.f3 fun e w' => e = .returned (.bool true) ∧ Below w.heap.size w w') { tmps := #[t0, .slice a n cap, t2, t3, t4, .int .i64 k, t6, t7, .slice aw n cw, .slice at_ n ct, t10, t11, t12, t13, t14, t15, t16, t17, t18, t19, t20, t21, t22, t23, t24, t25, t26, t27, t28, t29, t30, t31, t32, t33, t34, t35, t36, t37, t38, t39, t40, t41, t42, t43, t44, t45, t46, t47, t48, t49, t50, t51, t52, t53, t54, t55, t56, t57, t58, t59, t60, t61, t62, t63, t64, t65, t66, t67, t68, t69, t70, t71, t72, t73, t74, t75, t76, t77, t78, t79, t80, t81, t82, t83, t84, t85, t86, t87, t88, t89, t90, t91, t92, t93, t94, t95, t96, t97, t98, t99, t100, t101, t102, t103, t104, t105, t106, t107, t108, t109, t110, t111, t112, t113, t114, t115, t116, t117, t118, t119, t120, t121, t122, t123, t124, t125, t126, t127, t128, t129, t130, t131, t132, t133, t134, t135, t136, t137, t138, t139, t140, t141, t142, t143, t144, t145, t146, t147, t148, t149, t150, t151, t152, t153, t154, t155, t156, t157, t158, t159, t160, t161, t162], defers := [] } W := by
  refine WpFrom.intro rfl ?_
  obtain ⟨g1, o1, a1, y1, l1⟩ := nms_lt hD ha hL
  have C1 := Inverses_some hk hp (cap := cap) (by omega) hN (pre_all hk.fit hp hz) a1 W hD y1 l1
  rw [hn] at C1
  have C1' : Hid (Calls Tryd.prog 5 #[.int .i64 k, .slice a n cap] W fun e w' => ∃ b, e = .returned (.tuple #[.slice (some ⟨b, 0, none⟩) n n, .int .i64 0]) ∧ W.heap.size ≤ b ∧ Own4 w' b (L.map (invN m)) ∧ Below W.heap.size W w') := C1
  have rN : ∀ i, i < L.reverse.length → Num (L.reverse.getD i 0) ∧ modN m (L.reverse.getD i 0) ≠ 0 := fun i hi => by
    rw [List.length_reverse] at hi
    rw [rev_at (q := L.length - 1 - i) (by omega)]
    exact ⟨hN _ (by omega), hz _ (by omega)⟩
  have CT : Hid (∀ W', Below W.heap.size W W' → Calls Tryd.prog 5 #[.int .i64 k, .slice at_ n ct] W' fun e w' => ∃ b, e = .returned (.tuple #[.slice (some ⟨b, 0, none⟩) n n, .int .i64 0]) ∧ W'.heap.size ≤ b ∧ Own4 w' b (L.map (invN m)).reverse ∧ Below W'.heap.size W' w') := fun W' hb => by
    obtain ⟨g2, o2, a2, y2, l2⟩ := nms_lt (hD.keep hb) hat (hT.keep hb)
    have C2 := Inverses_some hk hp (L := L.reverse) (cap := ct) (by rw [List.length_reverse]; omega) (fun i hi => (rN i hi).1) (pre_all hk.fit hp (fun i hi => (rN i hi).2)) a2 W' (hD.keep hb) y2 l2
    rw [List.length_reverse, hn, List.map_reverse] at C2
    exact C2
  have HN : Hid (L.length = n ∧ n ≤ 65536 ∧ Kind k m c ∧ Prm m ∧ At4 aw gw 0 (L.map (invN m))) := ⟨hn, h6, hk, hp, haw⟩
  have HS : Hid (Below w.heap.size w W ∧ Mds W ∧ Nms W gw 0 (L.map (invN m))) := ⟨hB, hD, hW⟩
  clear C1 hn h6 hk hp haw hN hz ha hat hB hD hL hW hT rN a1 y1 l1
  refine wp_seq_k fun K5 h5 => ?_
  have H5 : Hid _ := h5
  clear h5
  go_wp2_with fail
  refine C1'.out.mono ?_
  rintro e w1 ⟨b1, rfl, q1, o1, hb1⟩
  have O1 : Hid (Own4 w1 b1 (L.map (invN m)) ∧ Below W.heap.size W w1) := ⟨o1, hb1⟩
  clear o1 hb1 q1 C1'
  go_wp2
  refine H5.out _ _ ?_
  clear H5
  refine wp_seq_k fun K6 h6 => ?_
  have H6 : Hid _ := h6
  clear h6
  go_wp2_with fail
  refine (CT.out w1 O1.out.2).mono ?_
  rintro e w2 ⟨b2, rfl, q2, o2, hb2⟩
  have O2 : Hid (Own4 w2 b2 (L.map (invN m)).reverse ∧ Below w1.heap.size w1 w2) := ⟨o2, hb2⟩
  clear o2 hb2 q2 CT
  go_wp2
  refine H6.out _ _ ?_
  clear H6
  refine wp_seq_k fun K7 h7 => ?_
  have H7 : Hid _ := h7
  clear h7
  go_wp2_with fail
  have CS := fsame_yes (ca := n) (cb := cw) (L := L.map (invN m)) (by rw [List.length_map, HN.out.1]; have := HN.out.2.1; omega) (.inr rfl) HN.out.2.2.2.2 w2 (O1.out.1.1.keep O2.out.2) ((HS.out.2.2.keep O1.out.2).keep O2.out.2)
  rw [List.length_map, HN.out.1] at CS
  refine CS.mono ?_
  rintro e w3 ⟨rfl, hb3⟩
  have B3 : Hid (Below w2.heap.size w2 w3) := hb3
  clear CS hb3
  go_wp2
  refine H7.out _ _ ?_
  clear H7
  exact (fbat_tail HN.out.2.2.1 HN.out.2.2.2.1 (by rw [List.length_map, HN.out.1]) HN.out.2.1 HN.out.2.2.2.2 w w3 (((HS.out.1.trans (O1.out.2.mono HS.out.1.size)).trans (O2.out.2.mono (HS.out.1.trans (O1.out.2.mono HS.out.1.size)).size)).trans (B3.out.mono ((HS.out.1.trans (O1.out.2.mono HS.out.1.size)).trans (O2.out.2.mono (HS.out.1.trans (O1.out.2.mono HS.out.1.size)).size)).size)) (((HS.out.2.1.keep O1.out.2).keep O2.out.2).keep B3.out) (((HS.out.2.2.keep O1.out.2).keep O2.out.2).keep B3.out) (O2.out.1.1.keep B3.out) _ _ _ _ _ _ _ _ _ _ _ _ _ _ _ _ _ _ _ _ _ _ _ _ _ _ _ _ _ _ _ _ _ _ _ _ _ _ _ _ _ _ _ _ _ _ _ _ _ _ _ _ _ _ _ _ _ _ _ _ _ _ _ _ _ _ _ _ _ _ _ _ _ _ _ _ _ _ _ _ _ _ _ _ _ _ _ _ _ _ _ _ _ _ _ _ _ _ _ _ _ _ _ _ _ _ _ _ _ _ _ _ _ _ _ _ _ _ _ _ _ _ _ _ _ _ _ _ _ _ _ _ _ _ _ _ _ _ _ _ _ _ _ _ _ _ _ _ _ _ _ _ _ _ _ _ _ _ _ _).out rfl
end Go.Proofs.YtjlijohdobknoaaDoor

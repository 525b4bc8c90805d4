import Derived.Test.YtagcbcmbojggkaaDoorFInvsO
import Derived.Test.YtagcbcmbojggkaaDoorFInvsNot
import Derived.Test.YtagcbcmbojggkaaDoorCut
/- FieldInverses: the last question. -/
namespace Go.Proofs.YtagcbcmbojggkaaDoor
open Go.RowKit Go.Sort

theorem inum_eq (v : Int) (w : World) : Calls Tryd.prog 6 #[.int .i64 v] w fun e w' => e = .returned (.int .i64 v) ∧ w' = w := by
  go_enter Tryd.func6, Tryd.ntmps6
  go_wp2
  simp [bodyPost, results, Tryd.results6, go_sem]
theorem invR_len (k : Int) (L : List Int) : (invR k L).length ≤ 65536 := by
  rw [invR]
  split
  · rename_i h
    rw [List.length_map]
    rw [invE] at h
    split at h
    · split at h
      · cases h
      · omega
    · cases h
  · simp
theorem OwnU.place {B : Nat} {W : World} {v : Value} {L : List Int} (h : OwnU B W v L) : ∃ a g c, v = .slice a L.length c ∧ At4 a g 0 L ∧ Nms W g 0 L := by
  obtain ⟨a, g, c, e, h1, h2, _⟩ := h.lies
  exact ⟨a, g, c, e, h1, h2⟩
set_option maxRecDepth 100000 in
set_option maxHeartbeats 16000000 in
theorem fivs_z {k : Int} {n gf cf : Nat} {G : List Int} (hn : G.length = n) (hN : ∀ i, i < G.length → Num (G.getD i 0)) (w W : World) (hB : Below w.heap.size w W) (hD : Mds W) (hG : Nms W gf 0 G) (t1 t2 t3 t4 t5 t6 t8 t9 t10 t11 t12 t13 t14 t15 t16 t17 t18 t19 t20 t21 t22 t23 t24 t25 t26 t27 t28 t29 t30 t31 t32 t33 t34 t35 t36 t37 t38 t39 t40 t41 t42 t43 t44 t45 t46 t47 t48 t49 t50 t51 t52 t53 t54 t55 t56 t57 t58 t59 t60 t61 t62 t63 t64 t65 t66 t67 t68 t69 t70 t71 t72 t73 t74 t75 t76 t77 t78 t79 t80 t81 t82 t83 t84 t85 t86 t87 t88 t89 t90 t91 t92 t93 t94 t95 t96 t97 t98 t99 t100 t101 t102 t103 t104 t105 t106 t107 t108 t109 t110 t111 t112 t113 t114 t115 t116 t117 t118 t119 t120 t121 t122 t123 t124 t125 t126 t127 t128 t129 t130 t131 t132 t133 t134 t135 t136 t137 t138 t139 t140 t141 t142 t143 t144 t145 t146 t147 t148 t149 t150 t151 t152 t153 t154 t155 t156 t157 t158 t159 t160 t161 t162 t163 t164 t165 t166 t167 t168 t169 t170 t171 t172 t173 t174 t175 t176 t177 t178 t179 t180 : Value) :
    WpFrom Tryd.prog Tryd.f3 16 (bodyPost Tryd.prog Tryd.f3 fun e w' => e = .returned (.bool true) ∧ Below w.heap.size w w') { tmps := #[.int .i64 k, t1, t2, t3, t4, t5, t6, .slice (some ⟨gf, 0, none⟩) n cf, t8, t9, t10, t11, t12, t13, t14, t15, t16, t17, t18, t19, t20, t21, t22, t23, t24, t25, t26, t27, t28, t29, t30, t31, t32, t33, t34, t35, t36, t37, t38, t39, t40, t41, t42, t43, t44, t45, t46, t47, t48, t49, t50, t51, t52, t53, t54, t55, t56, t57, t58, t59, t60, t61, t62, t63, t64, t65, t66, t67, t68, t69, t70, t71, t72, t73, t74, t75, t76, t77, t78, t79, t80, t81, t82, t83, t84, t85, t86, t87, t88, t89, t90, t91, t92, t93, t94, t95, t96, t97, t98, t99, t100, t101, t102, t103, t104, t105, t106, t107, t108, t109, t110, t111, t112, t113, t114, t115, t116, t117, t118, t119, t120, t121, t122, t123, t124, t125, t126, t127, t128, t129, t130, t131, t132, t133, t134, t135, t136, t137, t138, t139, t140, t141, t142, t143, t144, t145, t146, t147, t148, t149, t150, t151, t152, t153, t154, t155, t156, t157, t158, t159, t160, t161, t162, t163, t164, t165, t166, t167, t168, t169, t170, t171, t172, t173, t174, t175, t176, t177, t178, t179, t180], defers := [] } W := by
  refine WpFrom.intro rfl ?_
  have C1 := invs_any (k := k) (cap := cf) hN (.inr rfl) W hD hG
  rw [hn] at C1
  have CR : Hid (∀ W', Below W.heap.size W W' → Calls Tryd.prog 5 #[.int .i64 k, .slice (some ⟨gf, 0, none⟩) n cf] W' fun e w' => ∃ v, e = .returned (.tuple #[v, .int .i64 (invE k G)]) ∧ OwnU W'.heap.size w' v (invR k G) ∧ Below W'.heap.size W' w') := fun W' hb => by
    have C := rinvs_any (k := k) (cap := cf) hN (.inr rfl) W' (hG.keep hb)
    rw [hn] at C
    exact C
  have HB : Hid (Below w.heap.size w W) := hB
  have hn0 := inum_eq (invE k G)
  have RL : Hid ((invR k G).length ≤ 65536) := invR_len k G
  clear hn hN hB hD hG
  generalize invE k G = E at *
  generalize invR k G = R at *
  refine wp_seq_k fun K5 h5 => ?_
  have H5 : Hid _ := h5
  clear h5
  go_wp2_with fail
  refine C1.mono ?_
  rintro e w1 ⟨v1, rfl, o1, b1⟩
  have O1 : Hid (OwnU W.heap.size w1 v1 R ∧ Below W.heap.size W w1) := ⟨o1, b1⟩
  clear o1 b1 C1
  go_wp2
  refine H5.out _ _ ?_
  clear H5
  refine wp_seq_k fun K6 h6 => ?_
  have H6 : Hid _ := h6
  clear h6
  go_wp2_with fail
  refine (CR.out w1 O1.out.2).mono ?_
  rintro e w2 ⟨v2, rfl, o2, b2⟩
  have O2 : Hid (OwnU w1.heap.size w2 v2 R ∧ Below w1.heap.size w1 w2) := ⟨o2, b2⟩
  clear o2 b2 CR
  go_wp2
  refine H6.out _ _ ?_
  clear H6
  obtain ⟨a1, g1, c1, rfl, z1, y1⟩ := (O1.out.1.keep O2.out.2).place
  obtain ⟨a2, g2, c2, rfl, z2, y2⟩ := O2.out.1.place
  have CS := fsame_yes (ca := c1) (cb := c2) (L := R) (by have := RL.out; omega) z1 z2 w2 y1 y2
  have B2 : Hid (Below w.heap.size w w2) := (HB.out.trans (O1.out.2.mono HB.out.size)).trans (O2.out.2.mono (HB.out.trans (O1.out.2.mono HB.out.size)).size)
  clear O1 O2 HB RL z1 y1 z2 y2
  go_wp2_with ((with_reducible refine (hn0 _).mono ?_); rintro e9 w9 ⟨rfl, hw9⟩; (rw [hw9]); (clear hw9 w9))
  refine CS.mono ?_
  rintro e w3 ⟨rfl, hb3⟩
  have B3 : Hid (Below w.heap.size w w3) := B2.out.trans (hb3.mono B2.out.size)
  clear CS hb3 B2
  go_wp2
  go_ret
  exact ⟨rfl, B3.out⟩
end Go.Proofs.YtagcbcmbojggkaaDoor

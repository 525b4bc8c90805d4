import Derived.Test.YtagcbcmbojggkaaDoorFIvZ
/- FieldInverses: behind the appends. -/
namespace Go.Proofs.YtagcbcmbojggkaaDoor
open Go.RowKit Go.Sort

theorem fsame_wide {L : List Int} (hl : L.length < 4398046511105) {a b : Option Addr} {g o ca h p cb : Nat} (ha : At4 a g o L) (hb : At4 b h p L) (w : World) (hA : Nms w g o L) (hB : Nms w h p L) :
    Calls Tryd.prog 7 #[.slice a L.length ca, .slice b L.length cb] w fun e w' => e = .returned (.bool true) ∧ Below w.heap.size w w' := by
  have ey : ∀ n w, (Op.equalIn 10000 25 (.agg #[.int .u64 (l0 n), .int .u64 (l1 n), .int .u64 (l2 n), .int .u64 (l3 n)]) (.agg #[.int .u64 (l0 n), .int .u64 (l1 n), .int .u64 (l2 n), .int .u64 (l3 n)])).run Tryd.prog w = .ok true w := fun n w => eq_yes w
  have HL : Hid (L.length < 4398046511105) := hl
  have HA : Hid (At4 a g o L ∧ At4 b h p L) := ⟨ha, hb⟩
  clear hl ha hb
  go_enter Tryd.func7, Tryd.ntmps7
  go_wp2_with fail
  go_loopg [5] L.length (fun k iv wr => ∃ i : Nat, k = L.length - i ∧ i ≤ L.length ∧ iv = .int .i64 (i : Int) ∧ Below w.heap.size w wr ∧ Nms wr g o L ∧ Nms wr h p L)
  case atStart => exact ⟨0, rfl, Nat.zero_le _, rfl, Below.refl _ _, hA, hB⟩
  case round =>
    clear hA hB
    obtain ⟨i, hk, hi, rfl, B, hA, hB⟩ := hrel
    have HK : Hid (gk = L.length - i ∧ i ≤ L.length) := ⟨hk, hi⟩
    clear hk hi
    by_cases hz : i = L.length
    · have hzl : ¬ i < L.length := by omega
      clear hz
      go_wp2
      simp [bodyPost, results, Tryd.results7, go_sem]
      exact B
    · have hlt : i < L.length := by have := HK.out.2; omega
      obtain rfl := HA.out.1.get hlt
      obtain rfl := HA.out.2.get hlt
      have gA := hA i hlt
      have gB := hB i hlt
      have hi6 : (i : Int) < 4398046511105 := by have := HL.out; omega
      generalize L.getD i 0 = xv at gA gB
      clear hz
      go_wp2
      go_region
      go_wp2
      go_roundg (L.length - (i + 1))
      case measure => have := HK.out.1; omega
      case rel => exact ⟨i + 1, rfl, hlt, by go_num, B.drew, hA, hB⟩
theorem num_set {G : List Int} (h : ∀ i, i < G.length → Num (G.getD i 0)) (j : Nat) {x : Int} (hx : Num x) : ∀ i, i < (G.set j x).length → Num ((G.set j x).getD i 0) := fun i hi => by
  rw [List.length_set] at hi
  by_cases e : j = i
  · subst e
    rw [show (G.set j x).getD j 0 = x by simp [List.getD, hi]]
    exact hx
  · rw [show (G.set j x).getD i 0 = G.getD i 0 by simp [List.getD, List.getElem?_set_ne e]]
    exact h i hi
theorem nms_take {W : World} {b n : Nat} {G : List Int} (h : Nms W b 0 G) : Nms W b 0 (G.take n) := fun i hi => by
  rw [List.length_take] at hi
  have e : (G.take n).getD i 0 = G.getD i 0 := by simp [List.getD, show i < n by omega]
  rw [e]
  exact h i (by omega)
theorem num_take {n : Nat} {G : List Int} (h : ∀ i, i < G.length → Num (G.getD i 0)) : ∀ i, i < (G.take n).length → Num ((G.take n).getD i 0) := fun i hi => by
  rw [List.length_take] at hi
  have e : (G.take n).getD i 0 = G.getD i 0 := by simp [List.getD, show i < n by omega]
  rw [e]
  exact h i (by omega)
set_option maxRecDepth 100000 in
set_option maxHeartbeats 16000000 in
theorem fivs_y {k : Int} {n m g o cap gf cf c1 g2 c2 g3 c3 cx : Nat} {a a1 a2 a3 ax : Option Addr} {L R FL : List Int} (hn : L.length = n) (hn4 : n ≤ 4398046511104) (hm : R.length = m) (hm6 : m ≤ 65536) (hfl : FL.length = n + 9) (hft : FL.take n = L) (hN : ∀ i, i < FL.length → Num (FL.getD i 0)) (ha : At4 a g o L) (h2 : At4 a2 g2 0 R) (h3 : At4 a3 g3 0 R) (w W : World) (hB : Below w.heap.size w W) (hD : Mds w) (hL : Nms W g o L) (hF : Own4 W gf FL) (hge : w.heap.size ≤ gf) (y2 : Nms W g2 0 R) (y3 : Nms W g3 0 R) (t2 t3 t4 t5 t6 t9 t11 t13 t14 t15 t17 t18 t19 t20 t21 t22 t23 t24 t25 t26 t27 t28 t29 t30 t31 t32 t33 t34 t35 t36 t37 t38 t39 t40 t41 t42 t43 t44 t45 t46 t47 t48 t49 t50 t51 t52 t53 t54 t55 t56 t57 t58 t59 t60 t61 t62 t63 t64 t65 t66 t67 t68 t69 t70 t71 t72 t73 t74 t75 t76 t77 t78 t79 t80 t81 t82 t83 t84 t85 t86 t87 t88 t89 t90 t91 t92 t93 t94 t95 t96 t97 t98 t99 t100 t101 t102 t103 t104 t105 t106 t107 t108 t109 t110 t111 t112 t113 t114 t115 t116 t117 t118 t119 t120 t121 t122 t123 t124 t125 t126 t127 t128 t129 t130 t131 t132 t133 t134 t135 t136 t137 t138 t139 t140 t141 t142 t143 t144 t145 t146 t147 t148 t149 t150 t151 t152 t153 t154 t155 t156 t157 t158 t159 t160 t161 t162 t163 t164 t165 t166 t167 t168 t169 t170 t171 t172 t173 t174 t175 t176 t177 t178 t179 t180 : Value) :
    WpFrom Tryd.prog Tryd.f3 14 (bodyPost Tryd.prog Tryd.f3 fun e w' => e = .returned (.bool true) ∧ Below w.heap.size w w') { tmps := #[.int .i64 k, .slice a n cap, t2, t3, t4, t5, t6, .slice (some ⟨gf, 0, none⟩) n cf, .slice a1 m c1, t9, .slice a2 m c2, t11, .slice a3 m c3, t13, t14, t15, .slice ax (m + 64) cx, t17, t18, t19, t20, t21, t22, t23, t24, t25, t26, t27, t28, t29, t30, t31, t32, t33, t34, t35, t36, t37, t38, t39, t40, t41, t42, t43, t44, t45, t46, t47, t48, t49, t50, t51, t52, t53, t54, t55, t56, t57, t58, t59, t60, t61, t62, t63, t64, t65, t66, t67, t68, t69, t70, t71, t72, t73, t74, t75, t76, t77, t78, t79, t80, t81, t82, t83, t84, t85, t86, t87, t88, t89, t90, t91, t92, t93, t94, t95, t96, t97, t98, t99, t100, t101, t102, t103, t104, t105, t106, t107, t108, t109, t110, t111, t112, t113, t114, t115, t116, t117, t118, t119, t120, t121, t122, t123, t124, t125, t126, t127, t128, t129, t130, t131, t132, t133, t134, t135, t136, t137, t138, t139, t140, t141, t142, t143, t144, t145, t146, t147, t148, t149, t150, t151, t152, t153, t154, t155, t156, t157, t158, t159, t160, t161, t162, t163, t164, t165, t166, t167, t168, t169, t170, t171, t172, t173, t174, t175, t176, t177, t178, t179, t180], defers := [] } W := by
  refine WpFrom.intro rfl ?_
  have CS := fsame_yes (ca := c2) (cb := c3) (L := R) (by omega) h2 h3 W y2 y3
  rw [hm] at CS
  have CT : Hid (∀ W', Below W.heap.size W W' → Calls Tryd.prog 7 #[.slice (some ⟨gf, 0, none⟩) n cf, .slice a n cap] W' fun e w' => e = .returned (.bool true) ∧ Below W'.heap.size W' w') := fun W' hb => by
    have y := nms_take (n := n) hF.1
    rw [hft] at y
    have C := fsame_wide (ca := cf) (cb := cap) (L := L) (by omega) (.inr rfl) ha W' (y.keep hb) (hL.keep hb)
    rw [hn] at C
    exact C
  have HS : Hid (Below w.heap.size w W ∧ Own4 W gf FL ∧ w.heap.size ≤ gf ∧ Mds w) := ⟨hB, hF, hge, hD⟩
  have HF : Hid (FL.length = n + 9 ∧ n ≤ 4398046511104 ∧ ∀ i, i < FL.length → Num (FL.getD i 0)) := ⟨hfl, hn4, hN⟩
  have m6 : (m : Int) ≤ 65536 := by omega
  have n4 : (n : Int) ≤ 4398046511104 := by omega
  have hw : (((m + 64 : Nat) : Int) != (m : Int) + 64) = false := by simp
  clear hn hn4 hm hm6 hfl hft hN ha h2 h3 hB hD hL hF hge y2 y3
  refine wp_seq_k fun K5 h5 => ?_
  have H5 : Hid _ := h5
  clear h5
  go_wp2_with fail
  refine CS.mono ?_
  rintro e w1 ⟨rfl, hb⟩
  have B1 : Hid (Below W.heap.size W w1) := hb
  clear CS hb
  go_wp2_with fail
  refine (CT.out w1 B1.out).mono ?_
  rintro e w2 ⟨rfl, hb⟩
  have B2 : Hid (Below W.heap.size W w2) := B1.out.trans (hb.mono B1.out.size)
  clear CT hb B1
  go_wp2
  refine H5.out _ _ ?_
  clear H5
  have S2 : Hid (Below w.heap.size w w2 ∧ Own4 w2 gf FL) := ⟨HS.out.1.trans (B2.out.mono HS.out.1.size), HS.out.2.1.keep B2.out⟩
  have HG : Hid (w.heap.size ≤ gf ∧ Mds w) := HS.out.2.2
  clear B2 HS hw
  refine wp_seq_k fun K6 h6 => ?_
  have H6 : Hid _ := h6
  clear h6
  go_wp2_with fail
  go_loopg [18] n (fun q iv wr => ∃ (i : Nat) (G : List Int), q = n - i ∧ i ≤ n ∧ iv = .int .i64 (i : Int) ∧ Below w.heap.size w wr ∧ Own4 wr gf G ∧ G.length = n + 9 ∧ ∀ i, i < G.length → Num (G.getD i 0))
  case atStart => exact ⟨0, FL, rfl, Nat.zero_le _, rfl, S2.out.1, S2.out.2, HF.out.1, HF.out.2.2⟩
  case round =>
    clear S2 HF
    obtain ⟨i, G, hk, hi9, rfl, B, hA, hl, hN⟩ := hrel
    have HK : Hid (gk = n - i ∧ i ≤ n) := ⟨hk, hi9⟩
    have HT : Hid (Below w.heap.size w wr ∧ Own4 wr gf G ∧ G.length = n + 9 ∧ ∀ i, i < G.length → Num (G.getD i 0)) := ⟨B, hA, hl, hN⟩
    clear hk B hN
    by_cases h8 : i < n
    · have hlt : (i : Int) < (n : Int) := by omega
      have gA := hA.1 i (by omega)
      have f0 : wr.frozen? ⟨gf, i * 4, none⟩ = false := hA.2.1 _ (by omega)
      have f1 : wr.frozen? ⟨gf, i * 4 + 1, none⟩ = false := hA.2.1 _ (by omega)
      have f2 : wr.frozen? ⟨gf, i * 4 + 2, none⟩ = false := hA.2.1 _ (by omega)
      have f3 : wr.frozen? ⟨gf, i * 4 + 3, none⟩ = false := hA.2.1 _ (by omega)
      simp only [Nat.zero_add] at gA
      have HS := hA.sets (i := i) (by omega) ((i : Int) + 5)
      obtain ⟨r0, r1, r2, r3⟩ := from_val (v := (i : Int) + 5) ⟨by omega, by omega⟩
      rw [r0, r1, r2, r3] at HS
      have HS' : Hid (Own4 ((((wr.setCell ⟨gf, i * 4, none⟩ (.int .u64 ((i : Int) + 5))).setCell ⟨gf, i * 4 + 1, none⟩ (.int .u64 0)).setCell ⟨gf, i * 4 + 2, none⟩ (.int .u64 0)).setCell ⟨gf, i * 4 + 3, none⟩ (.int .u64 0)) gf (G.set i ((i : Int) + 5))) := HS
      have HX : Hid (i < n ∧ n ≤ 4398046511104) := ⟨h8, by omega⟩
      clear HS r0 r1 r2 r3 hl hA h8 hi9
      generalize G.getD i 0 = x at gA
      go_wp2
      go_roundg (n - (i + 1))
      case measure => have := HK.out; have := HX.out; omega
      case rel =>
        have g1 := HG.out.1
        refine ⟨i + 1, G.set i ((i : Int) + 5), rfl, HX.out.1, by go_num, (((HT.out.1.setCell g1 _).setCell g1 _).setCell g1 _).setCell g1 _, HS'.out, by rw [List.length_set]; exact HT.out.2.2.1, num_set HT.out.2.2.2 i ⟨by have := HX.out; omega, by have := HX.out; omega⟩⟩
    · obtain rfl : n = i := by omega
      clear hA hl h8 hi9
      go_wp2
      refine H6.out _ _ ?_
      exact (fivs_z (n := n) (G := G.take n) (by rw [List.length_take, HT.out.2.2.1]; omega) (num_take HT.out.2.2.2) w wr HT.out.1 (HG.out.2.keep HT.out.1) (nms_take HT.out.2.1.1) _ _ _ _ _ _ _ _ _ _ _ _ _ _ _ _ _ _ _ _ _ _ _ _ _ _ _ _ _ _ _ _ _ _ _ _ _ _ _ _ _ _ _ _ _ _ _ _ _ _ _ _ _ _ _ _ _ _ _ _ _ _ _ _ _ _ _ _ _ _ _ _ _ _ _ _ _ _ _ _ _ _ _ _ _ _ _ _ _ _ _ _ _ _ _ _ _ _ _ _ _ _ _ _ _ _ _ _ _ _ _ _ _ _ _ _ _ _ _ _ _ _ _ _ _ _ _ _ _ _ _ _ _ _ _ _ _ _ _ _ _ _ _ _ _ _ _ _ _ _ _ _ _ _ _ _ _ _ _ _ _ _ _ _ _ _ _ _ _ _ _ _ _ _ _ _ _ _ _).out rfl
end Go.Proofs.YtagcbcmbojggkaaDoor

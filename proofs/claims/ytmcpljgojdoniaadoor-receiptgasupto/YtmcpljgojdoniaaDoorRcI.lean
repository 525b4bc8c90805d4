import Derived.Test.YtmcpljgojdoniaaDoorRcH
/- ReceiptGas: behind the list that is lent. -/
namespace Go.Proofs.YtmcpljgojdoniaaDoor.tq
open Go.RowKit Go.Sort
/-- What the law made, as it stays. -/
structure GsF (w V : World) (G : Nat) (a : Option Addr) (b o c n : Nat) (rs us : List Rc) : Prop where
  B : Below w.heap.size w V
  hr : RsG V a b o c rs
  hu : ∀ i, i < n → V.rangeAt G (i * 293) (rcC (us.getD i zRc)) ∧ RcM V (us.getD i zRc) (rs.getD i zRc)
  last : V.cell? ⟨G, n * 293 + 35, none⟩ = some (.int .u64 77)
theorem nine_len (i : Nat) (L : List Int) (h : i ≤ L.length) : (List.replicate i 9 ++ L.drop i).length = L.length := by simp; omega
theorem nine_set (i : Nat) (L : List Int) (h : i < L.length) : (List.replicate i (9 : Int) ++ L.drop i).set i 9 = List.replicate (i + 1) 9 ++ L.drop (i + 1) := by
  rw [List.set_append_right _ _ (by simp), List.length_replicate, Nat.sub_self, List.drop_eq_getElem_cons h, List.set_cons_zero, List.replicate_succ', List.append_assoc]; rfl
theorem nine_at (i : Nat) (L : List Int) (h : i < L.length) : (v6 (List.replicate i 9 ++ L.drop i))[i]? = some (.int .u64 (L.getD i 0)) := by
  unfold v6
  rw [List.getElem?_map, List.getElem?_append_right (by simp), List.length_replicate, Nat.sub_self, List.getElem?_drop, Nat.add_zero, List.getElem?_eq_getElem h, List.getD, List.getElem?_eq_getElem h]; rfl
theorem v6_at {L : List Int} {i : Nat} (h : i < L.length) : (v6 L)[i]? = some (.int .u64 (L.getD i 0)) := by
  unfold v6; rw [List.getElem?_map, List.getElem?_eq_getElem h, List.getD, List.getElem?_eq_getElem h]; rfl
/-- Where a list of one's own lies. -/
theorem OwG.lies {B : Nat} {W : World} {v : Value} {L : List Int} (h : OwG B W v L) (hn : 0 < L.length) : ∃ g cap, v = .slice (some ⟨g, 0, none⟩) L.length cap ∧ L.length ≤ cap ∧ B ≤ g ∧ g < W.heap.size := by
  obtain ⟨g, cap, e, hc, hb, hl, _⟩ := own_at h hn
  exact ⟨g, cap, e, hc, hb, hl⟩
theorem OwG.cell {B : Nat} {W : World} {g cap : Nat} {L : List Int} (h : OwG B W (.slice (some ⟨g, 0, none⟩) L.length cap) L) {i : Nat} (hi : i < L.length) : W.cell? ⟨g, i, none⟩ = some (.int .u64 (L.getD i 0)) := by
  rw [World.ownsRow.cellAt h i (by omega), v6_at hi]
theorem OwG.nil {B : Nat} {W : World} {v : Value} {L : List Int} (h : OwG B W v L) (hn : L.length = 0) : ∃ a c, v = .slice a 0 c := by
  rcases h.2 with ⟨e, _⟩ | ⟨g, cap, cur, e, _⟩
  · exact ⟨_, _, e⟩
  · rw [hn] at e; exact ⟨_, _, e⟩
theorem OwG.form {B : Nat} {W : World} {v : Value} {L : List Int} (h : OwG B W v L) : ∃ a c, v = .slice a L.length c := by
  by_cases e : L.length = 0
  · obtain ⟨a, c, h2⟩ := h.nil e; exact ⟨a, c, by rw [e]; exact h2⟩
  · obtain ⟨g, cap, h2, _⟩ := h.lies (by omega); exact ⟨_, _, h2⟩
set_option maxRecDepth 100000 in
set_option maxHeartbeats 16000000 in
theorem gas12 {w W3 W : World} {G : Nat} {a : Option Addr} {b o c n : Nat} {rs us : List Rc} (hl : rs.length = n) (hn : n < 100000000) (SR : Hid (∀ i, i < n → ∀ W, Below W3.heap.size W3 W → Calls Tryd.prog 10 #[.agg (rcC (us.getD i zRc)).toArray, .agg (rcC (rs.getD i zRc)).toArray] W fun e w' => e = .returned (.bool true) ∧ Below W.heap.size W w')) (SL : Hid (∀ i, i < n → ∀ W, Below W3.heap.size W3 W → Calls Tryd.prog 11 #[.agg (rcC (us.getD i zRc)).toArray, .agg (rcC (rs.getD i zRc)).toArray] W fun e w' => e = .returned (.bool true) ∧ Below W.heap.size W w')) (FF : Hid (∀ V, Below W3.heap.size W3 V → GsF w V G a b o c n rs us)) (LU : Hid (∀ i, i < n → (Tryd.prog.info? 30).map (·.size) = some (rcC (us.getD i zRc)).length ∧ (Tryd.prog.info? 30).map (·.size) = some (rcC (rs.getD i zRc)).length)) (B : Below W3.heap.size W3 W) {t1 t2 t4 t5 t6 t7 t8 t9 t10 t11 t12 t13 t14 t15 t16 t17 t18 t19 t20 t21 t22 t23 t24 t25 t26 t27 t28 t29 t30 t31 t32 t33 t34 t35 t36 t37 t38 t39 t40 t41 t42 t43 t44 t45 t46 t47 t48 t49 t50 t51 t52 t53 t54 t55 t56 t57 t58 t59 t60 t61 t62 t63 t64 t65 t66 t67 t68 t69 t70 t71 t72 t73 t74 t75 t76 t77 t78 t79 t80 t81 t82 t83 t84 t85 t86 t87 t88 t89 t90 t91 t92 t93 t94 t95 t96 t97 t98 t99 t100 t101 t102 t103 t104 t105 t106 t107 t108 t109 t110 t111 t112 t113 t114 t115 t116 t117 t118 t119 t120 t121 t122 t123 t124 t125 t126 t127 t128 t129 t130 t131 t132 t133 t134 t135 t136 t137 t138 t139 t140 t141 t142 t143 t144 t145 t146 t147 t148 t149 t150 t151 t152 t153 t154 t155 t156 t157 t158 t159 t160 t161 t162 t163 t164 t165 t166 t167 t168 t169 t170 t171 t172 t173 t174 t175 t176 t177 t178 t179 t180 : Value} :
    WpFrom Tryd.prog Tryd.f3 12 (bodyPost Tryd.prog Tryd.f3 fun e w' => e = .returned (.bool true) ∧ Below w.heap.size w w') { tmps := #[.slice a n c, t1, t2, .slice (some ⟨G, 0, none⟩) (n + 1) (n + 1), t4, t5, t6, t7, t8, t9, t10, t11, t12, t13, t14, t15, t16, t17, t18, t19, t20, t21, t22, t23, t24, t25, t26, t27, t28, t29, t30, t31, t32, t33, t34, t35, t36, t37, t38, t39, t40, t41, t42, t43, t44, t45, t46, t47, t48, t49, t50, t51, t52, t53, t54, t55, t56, t57, t58, t59, t60, t61, t62, t63, t64, t65, t66, t67, t68, t69, t70, t71, t72, t73, t74, t75, t76, t77, t78, t79, t80, t81, t82, t83, t84, t85, t86, t87, t88, t89, t90, t91, t92, t93, t94, t95, t96, t97, t98, t99, t100, t101, t102, t103, t104, t105, t106, t107, t108, t109, t110, t111, t112, t113, t114, t115, t116, t117, t118, t119, t120, t121, t122, t123, t124, t125, t126, t127, t128, t129, t130, t131, t132, t133, t134, t135, t136, t137, t138, t139, t140, t141, t142, t143, t144, t145, t146, t147, t148, t149, t150, t151, t152, t153, t154, t155, t156, t157, t158, t159, t160, t161, t162, t163, t164, t165, t166, t167, t168, t169, t170, t171, t172, t173, t174, t175, t176, t177, t178, t179, t180], defers := [] } W := by
  have n1 : (n : Int) < 100000000 := by omega
  have AA : Hid (0 < n → a = some ⟨b, o, none⟩) := fun h => (FF.out _ B).hr.cons (by omega)
  have HL : Hid (rs.length = n) := hl
  clear hl hn
  refine WpFrom.intro rfl ?_
  go_wp2_with fail
  go_loopg [15] n (fun k iv wr => ∃ i : Nat, k = n - i ∧ i ≤ n ∧ iv = .int .i64 i ∧ Below W3.heap.size W3 wr)
  case atStart => exact ⟨0, rfl, Nat.zero_le _, rfl, B⟩
  case round =>
    clear B W
    obtain ⟨i, hk, hi, rfl, B⟩ := hrel
    have HK : Hid (gk = n - i) := hk
    clear hk
    by_cases h8 : i = n
    · subst h8
      have cl := (FF.out _ B).last
      have BF : Hid (Below w.heap.size w wr) := (FF.out _ B).B
      clear hi
      go_wp2
      simp [bodyPost, results, Tryd.results3, go_sem]
      exact BF.out
    · have hlt : i < n := by omega
      have hlt' : (i : Int) < (n : Int) := by omega
      obtain rfl := AA.out (by omega)
      have B3 : Hid (∀ d os, Below W3.heap.size W3 (grow (redrawn wr d) os)) := fun d os => B.trans ((below_regrown wr d os).mono B.size)
      have rb : ∀ w', (∃ q : Regrown, w' = grow (redrawn wr q.d) q.os) → w'.rangeAt G (i * 293) (rcC (us.getD i zRc)) := by rintro w' ⟨q, rfl⟩; exact ((FF.out _ (B3.out q.d q.os)).hu i hlt).1
      have rc : ∀ w', (∃ q : Regrown, w' = grow (redrawn wr q.d) q.os) → w'.rangeAt b (o + i * 293) (rcC (rs.getD i zRc)) := by rintro w' ⟨q, rfl⟩; exact ((FF.out _ (B3.out q.d q.os)).hr.2.2 i (by rw [HL.out]; exact hlt)).2
      have ib := (LU.out i hlt).1
      have ic := (LU.out i hlt).2
      have sk : Hid (∀ d os, Calls Tryd.prog 10 #[.agg (rcC (us.getD i zRc)).toArray, .agg (rcC (rs.getD i zRc)).toArray] (grow (redrawn wr d) os) fun e w' => e = .returned (.bool true) ∧ Below (grow (redrawn wr d) os).heap.size (grow (redrawn wr d) os) w') := fun d os => SR.out i hlt _ (B3.out d os)
      have sd : Hid (∀ d os, Calls Tryd.prog 11 #[.agg (rcC (us.getD i zRc)).toArray, .agg (rcC (rs.getD i zRc)).toArray] (grow (redrawn wr d) os) fun e w' => e = .returned (.bool true) ∧ Below (grow (redrawn wr d) os).heap.size (grow (redrawn wr d) os) w') := fun d os => SL.out i hlt _ (B3.out d os)
      have m1 : (i : Int) < (n : Int) + 1 := by omega
      clear SR SL LU AA hi
      generalize rcC (us.getD i zRc) = c1 at *
      generalize rcC (rs.getD i zRc) = c2 at *
      go_wp2_with fail
      refine wp_region_quiet_below (by kernel_rfl) (by kernel_rfl) ?_
      repeat
        first
          | go_big_quiet_skip
          | (go_big_quiet_want; refine quiet_load_midT 30 _ rfl G (i * 293) rfl c1 _ rb Tryd.underlying30 rfl ib ?_; simp only [Act.put, List.setIfInBounds_toArray, List.set_cons_succ, List.set_cons_zero]; go_big_quiet_on)
          | (go_big_quiet_want; refine quiet_load_midT 30 _ rfl b (o + i * 293) rfl c2 _ rc Tryd.underlying30 rfl ic ?_; simp only [Act.put, List.setIfInBounds_toArray, List.set_cons_succ, List.set_cons_zero]; go_big_quiet_on)
          | (go_big_quiet_want; go_big_quiet_op; go_big_quiet_on)
          | (go_big_quiet_want
             go_big_quiet_op
             apply Exists.intro
             refine ⟨fun p => ?_, ?_⟩
             · (go_at_call 10; with_reducible exact Calls.regrown_of (sk.out _ _))
             go_big_quiet_on)
          | (go_big_quiet_want
             go_big_quiet_op
             apply Exists.intro
             refine ⟨fun p => ?_, ?_⟩
             · (go_at_call 11; with_reducible exact Calls.regrown_of (sd.out _ _))
             go_big_quiet_on)
      refine wpQuiet_nil ?_
      rintro w2 ⟨p, rfl⟩
      have hb : Hid (Below W3.heap.size W3 (grow (redrawn wr p.d) p.os)) := B3.out p.d p.os
      generalize grow (redrawn wr p.d) p.os = w2 at *
      clear rb rc ib ic sk sd B3 B
      go_wp2
      go_roundg (n - (i + 1))
      case measure => have := HK.out; omega
      case rel => exact ⟨i + 1, rfl, by omega, by go_num, hb.out⟩
end Go.Proofs.YtmcpljgojdoniaaDoor.tq

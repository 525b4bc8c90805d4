import Derived.Test.YtanokeeffbiijaaDoorRfJ
/- ReceiptFinds: the lists that were told. -/
namespace Go.Proofs.YtanokeeffbiijaaDoor.tq
open Go.RowKit Go.Sort
theorem vN_one (L : List Int) : ∀ u ∈ vN L, u.oneCell' = true := fun u hu => by
  obtain ⟨x, _, rfl⟩ := List.mem_map.1 hu; rfl
theorem vN_at {L : List Int} {i : Nat} (h : i < L.length) : (vN L)[i]? = some (.int .i64 (L.getD i 0)) := by
  unfold vN; rw [List.getElem?_map, List.getElem?_eq_getElem h, List.getD, List.getElem?_eq_getElem h]; rfl
theorem vN_set {L : List Int} {i : Nat} {x : Int} : (vN L).set i (.int .i64 x) = vN (L.set i x) := by unfold vN; rw [List.map_set]
theorem neg_len (i : Nat) (L : List Int) (h : i ≤ L.length) : (List.replicate i (-1) ++ L.drop i).length = L.length := by simp; omega
theorem neg_set (i : Nat) (L : List Int) (h : i < L.length) : (List.replicate i (-1 : Int) ++ L.drop i).set i (-1) = List.replicate (i + 1) (-1) ++ L.drop (i + 1) := by
  rw [List.set_append_right _ _ (by simp), List.length_replicate, Nat.sub_self, List.drop_eq_getElem_cons h, List.set_cons_zero, List.replicate_succ', List.append_assoc]; rfl
theorem neg_at (i : Nat) (L : List Int) (h : i < L.length) : (vN (List.replicate i (-1) ++ L.drop i))[i]? = some (.int .i64 (L.getD i 0)) := by
  unfold vN
  rw [List.getElem?_map, List.getElem?_append_right (by simp), List.length_replicate, Nat.sub_self, List.getElem?_drop, Nat.add_zero, List.getElem?_eq_getElem h, List.getD, List.getElem?_eq_getElem h]; rfl
theorem OwN.lies {B : Nat} {W : World} {v : Value} {L : List Int} (h : OwN B W v L) (hn : 0 < L.length) : ∃ g cap, v = .slice (some ⟨g, 0, none⟩) L.length cap ∧ L.length ≤ cap ∧ B ≤ g ∧ g < W.heap.size := by
  obtain ⟨g, cap, e, hc, hb, hl, _⟩ := own_at h hn
  exact ⟨g, cap, e, hc, hb, hl⟩
theorem OwN.cell {B : Nat} {W : World} {g cap : Nat} {L : List Int} (h : OwN B W (.slice (some ⟨g, 0, none⟩) L.length cap) L) {i : Nat} (hi : i < L.length) : W.cell? ⟨g, i, none⟩ = some (.int .i64 (L.getD i 0)) := by
  rw [World.ownsRow.cellAt h i (by omega), vN_at hi]
theorem OwN.nil {B : Nat} {W : World} {v : Value} {L : List Int} (h : OwN B W v L) (hn : L.length = 0) : ∃ a c, v = .slice a 0 c := by
  rcases h.2 with ⟨e, _⟩ | ⟨g, cap, cur, e, _⟩
  · exact ⟨_, _, e⟩
  · rw [hn] at e; exact ⟨_, _, e⟩
theorem OwN.form {B : Nat} {W : World} {v : Value} {L : List Int} (h : OwN B W v L) : ∃ a c, v = .slice a L.length c := by
  by_cases e : L.length = 0
  · obtain ⟨a, c, h2⟩ := h.nil e; exact ⟨a, c, by rw [e]; exact h2⟩
  · obtain ⟨g, cap, h2, _⟩ := h.lies (by omega); exact ⟨_, _, h2⟩
theorem OwN.of {B : Nat} {W : World} {a : Option Addr} {m c : Nat} {L : List Int} (h : OwN B W (.slice a m c) L) (hm : m = L.length) (hn : 0 < m) : ∃ g, a = some ⟨g, 0, none⟩ ∧ B ≤ g ∧ g < W.heap.size ∧ m ≤ c := by
  subst hm
  obtain ⟨g, cap, e, h1, h2, h3⟩ := h.lies hn
  injection e with e1 e2 e3
  subst e1 e3
  exact ⟨g, rfl, h2, h3, h1⟩
set_option maxRecDepth 100000 in
set_option maxHeartbeats 16000000 in
theorem finds11 {w W3 W : World} {G gA cA n nA m H lb bk ok c ca ck : Nat} {a aa ak : Option Addr} {sa ta : Nat → Option Addr} {sn sc tc : Nat → Nat} {B1 B2 B3 k : Nat} {v1 v2 v3 : Value} {Lf : List Int} (hn : n < 100000000) (hm : m < 100000000) (hk : 0 < m → ak = some ⟨bk, ok, none⟩) (FT : Hid (∀ V, Below W3.heap.size W3 V → FiT w V G gA cA n nA m H lb bk ok a aa ak c ca sa ta sn sc tc)) (hl : Lf.length = k) (hkn : k ≤ n) (gB : W3.heap.size ≤ B1) (hB1 : B1 ≤ W.heap.size) (o1 : OwN B1 W v1 (List.replicate k (-1))) (o2 : OwN B2 W v2 Lf) (o3 : OwN B3 W v3 Lf) (d2 : v2.ownBlock = none ∨ v2.ownBlock ≠ v1.ownBlock) (d3 : v3.ownBlock = none ∨ v3.ownBlock ≠ v1.ownBlock) (B : Below W3.heap.size W3 W) {t3 t4 t5 t6 t10 t14 t15 t16 t17 t18 t19 t20 t21 t22 t23 t24 t25 t26 t27 t28 t29 t30 t31 t32 t33 t34 t35 t36 t37 t38 t39 t40 t41 t42 t43 t44 t45 t46 t47 t48 t49 t50 t51 t52 t53 t54 t55 t56 t57 t58 t59 t60 t61 t62 t63 t64 t65 t66 t67 t68 t69 t70 t71 t72 t73 t74 t75 t76 t77 t78 t79 t80 t81 t82 t83 t84 t85 t86 t87 t88 t89 t90 t91 t92 t93 t94 t95 t96 t97 t98 t99 t100 t101 t102 t103 t104 t105 t106 t107 t108 t109 t110 t111 t112 t113 t114 t115 t116 t117 t118 t119 t120 t121 t122 t123 t124 t125 t126 t127 t128 t129 t130 t131 t132 t133 t134 t135 t136 t137 t138 t139 t140 t141 t142 t143 t144 t145 t146 t147 t148 t149 t150 t151 t152 t153 t154 t155 t156 t157 t158 t159 t160 t161 t162 t163 t164 t165 t166 t167 t168 t169 t170 t171 t172 t173 : Value} :
    WpFrom Tryd.prog Tryd.f3 11 (bodyPost Tryd.prog Tryd.f3 fun e w' => e = .returned (.bool true) ∧ Below w.heap.size w w') { tmps := #[.slice a n c, .slice aa nA ca, .slice ak m ck, t3, t4, t5, t6, .slice (some ⟨G, 0, none⟩) n (n + 1), .slice (some ⟨gA, 0, none⟩) nA cA, .slice (some ⟨H, 0, none⟩) (m + 1) (m + 1), t10, v1, v2, v3, t14, t15, t16, t17, t18, t19, t20, t21, t22, t23, t24, t25, t26, t27, t28, t29, t30, t31, t32, t33, t34, t35, t36, t37, t38, t39, t40, t41, t42, t43, t44, t45, t46, t47, t48, t49, t50, t51, t52, t53, t54, t55, t56, t57, t58, t59, t60, t61, t62, t63, t64, t65, t66, t67, t68, t69, t70, t71, t72, t73, t74, t75, t76, t77, t78, t79, t80, t81, t82, t83, t84, t85, t86, t87, t88, t89, t90, t91, t92, t93, t94, t95, t96, t97, t98, t99, t100, t101, t102, t103, t104, t105, t106, t107, t108, t109, t110, t111, t112, t113, t114, t115, t116, t117, t118, t119, t120, t121, t122, t123, t124, t125, t126, t127, t128, t129, t130, t131, t132, t133, t134, t135, t136, t137, t138, t139, t140, t141, t142, t143, t144, t145, t146, t147, t148, t149, t150, t151, t152, t153, t154, t155, t156, t157, t158, t159, t160, t161, t162, t163, t164, t165, t166, t167, t168, t169, t170, t171, t172, t173], defers := [] } W := by
  have n1 : (n : Int) < 100000000 := by omega
  have k1 : (k : Int) < 100000000 := by omega
  have HM : Hid (Lf.length = k ∧ k < 100000000) := ⟨hl, by omega⟩
  have HN : Hid (n < 100000000 ∧ m < 100000000 ∧ (0 < m → ak = some ⟨bk, ok, none⟩)) := ⟨hn, hm, hk⟩
  obtain ⟨a1, c1, e1⟩ := o1.form
  obtain ⟨a2, c2, e2⟩ := o2.form
  obtain ⟨a3, c3, e3⟩ := o3.form
  rw [List.length_replicate] at e1
  rw [hl] at e2 e3
  subst e1 e2 e3
  have HO : Hid (OwN B1 W (.slice a1 k c1) (List.replicate k (-1)) ∧ Below W3.heap.size W3 W ∧ W3.heap.size ≤ B1 ∧ B1 ≤ W.heap.size) := ⟨o1, B, gB, hB1⟩
  have H23 : Hid (OwN B2 W (.slice a2 k c2) Lf ∧ OwN B3 W (.slice a3 k c3) Lf ∧ ((Value.slice a2 k c2).ownBlock = none ∨ (Value.slice a2 k c2).ownBlock ≠ (Value.slice a1 k c1).ownBlock) ∧ ((Value.slice a3 k c3).ownBlock = none ∨ (Value.slice a3 k c3).ownBlock ≠ (Value.slice a1 k c1).ownBlock)) := ⟨o2, o3, d2, d3⟩
  have LT : Hid (∀ j, (Value.slice a1 k c1).ownBlock = some j → B1 ≤ j ∧ j < W.heap.size) := fun j hj => o1.lt j hj
  clear hl o1 o2 o3 d2 d3 B gB hB1 hn hm hk
  refine WpFrom.intro rfl ?_
  refine wp_seq_k fun K0 h0 => ?_
  have H0 : Hid _ := h0
  clear h0
  go_wp2_with (at_builtin; (refine wpList_append_rw (B := B1) (n := k) (v := .slice a1 k c1) (xs := vN (List.replicate k (-1))) (g := W.heap.size) (p := 0) (m := 3) (news := vN [-2, -2, -2]) 1 8 31 3 Tryd.underlying31 rI_n (by decide) rfl _ _ rfl rfl rfl (by have h := HO.out.1.alloc (.cells #[.int .i64 (-2), .int .i64 (-2), .int .i64 (-2)] 3); rw [List.length_replicate] at h; exact h) rfl (.inr rfl) (fun e => by cases e) new_range (vN_one _) (by have := HM.out.2; unfold maxLen; omega) (by have := HM.out.2; omega) (by have := HO.out.2.2.2; rw [World.size_alloc]; omega) ?_); (intro v' W4 o4 g4 p4))
  have o4b : OwN B1 W4 v' (List.replicate k (-1) ++ [-2, -2, -2]) := by
    show W4.ownsRow _ _ _ _ _ _
    rw [vN_app, List.length_append, List.length_replicate]
    exact o4
  have B4 : Below W3.heap.size W3 W4 := (HO.out.2.1.alloc HO.out.2.1.size _).grown g4 (by have := HO.out.2.1.size; rw [World.size_alloc]; omega) (fun k hk => Nat.le_trans HO.out.2.2.1 (LT.out k hk).1)
  have q2 : OwN B2 W4 (.slice a2 k c2) Lf := World.ownsRow.kept (World.ownsRow.alloc H23.out.1 _) g4 H23.out.2.2.1
  have q3 : OwN B3 W4 (.slice a3 k c3) Lf := World.ownsRow.kept (World.ownsRow.alloc H23.out.2.1 _) g4 H23.out.2.2.2
  obtain ⟨a4, c4, e4⟩ := o4b.form
  rw [List.length_append, List.length_replicate, show ([-2, -2, -2] : List Int).length = 3 from rfl] at e4
  subst e4
  have HQ : Hid (OwN B1 W4 (.slice a4 (k + 3) c4) (List.replicate k (-1) ++ [-2, -2, -2]) ∧ OwN B2 W4 (.slice a2 k c2) Lf ∧ OwN B3 W4 (.slice a3 k c3) Lf ∧ Below W3.heap.size W3 W4) := ⟨o4b, q2, q3, B4⟩
  clear o4 g4 p4 o4b B4 q2 q3 HO H23 LT
  refine H0.out _ _ ?_
  clear H0 K0
  refine wp_seq_k fun K1 h1 => ?_
  have H1 : Hid _ := h1
  clear h1
  go_wp2_with fail
  go_loopg [16] k (fun kk iv wr => ∃ i : Nat, kk = k - i ∧ i ≤ k ∧ iv = .int .i64 i ∧ Below W4.heap.size W4 wr)
  case atStart => exact ⟨0, rfl, Nat.zero_le _, rfl, Below.refl _ _⟩
  case round =>
    obtain ⟨i, hk, hi, rfl, B⟩ := hrel
    have HK : Hid (gk = k - i) := hk
    have HB : Hid (Below W4.heap.size W4 wr) := B
    clear hk B
    by_cases h8 : i = k
    · subst h8
      have e1 : decide ((i : Int) < (i : Int)) = false := by simp
      clear hi
      go_wp2
      refine H1.out _ _ ?_
      exact (finds13 HN.out.1 HN.out.2.1 HN.out.2.2 FT (HQ.out.2.2.2.trans (HB.out.mono HQ.out.2.2.2.size))).out rfl
    · have hlt : i < k := by omega
      have hlt' : (i : Int) < (k : Int) := by omega
      have hlt3 : (i : Int) < (k : Int) + 3 := by omega
      obtain ⟨g2, rfl, l2a, l2b, l2c⟩ := HQ.out.2.1.of HM.out.1.symm (by omega)
      obtain ⟨g3, rfl, l3a, l3b, l3c⟩ := HQ.out.2.2.1.of HM.out.1.symm (by omega)
      obtain ⟨g4, rfl, l4a, l4b, l4c⟩ := HQ.out.1.of (by simp) (by omega)
      have k2 : W4.cell? ⟨g2, i, none⟩ = some (.int .i64 (Lf.getD i 0)) := by have h := HQ.out.2.1; rw [← HM.out.1] at h; exact h.cell (by rw [HM.out.1]; exact hlt)
      have k3 : W4.cell? ⟨g3, i, none⟩ = some (.int .i64 (Lf.getD i 0)) := by have h := HQ.out.2.2.1; rw [← HM.out.1] at h; exact h.cell (by rw [HM.out.1]; exact hlt)
      have k4 : W4.cell? ⟨g4, i, none⟩ = some (.int .i64 (-1)) := by
        have h := HQ.out.1
        rw [show k + 3 = (List.replicate k (-1 : Int) ++ [-2, -2, -2]).length by simp] at h
        have := h.cell (i := i) (by simp; omega)
        rw [this]
        simp [List.getD, List.getElem?_append_left, hlt]
      have B3 : Hid (∀ d os, Below W4.heap.size W4 (grow (redrawn wr d) os)) := fun d os => HB.out.trans ((below_regrown wr d os).mono HB.out.size)
      have g2c : ∀ d os, (grow (redrawn wr d) os).cell? ⟨g2, i, none⟩ = some (.int .i64 (Lf.getD i 0)) := fun d os => cell_keep (B3.out d os) k2
      have g3c : ∀ d os, (grow (redrawn wr d) os).cell? ⟨g3, i, none⟩ = some (.int .i64 (Lf.getD i 0)) := fun d os => cell_keep (B3.out d os) k3
      have g4c : ∀ d os, (grow (redrawn wr d) os).cell? ⟨g4, i, none⟩ = some (.int .i64 (-1)) := fun d os => cell_keep (B3.out d os) k4
      clear k2 k3 k4 l2a l2b l2c l3a l3b l3c l4a l4b l4c hi
      generalize Lf.getD i 0 = x at *
      go_wp2_with fail
      refine wp_region_quiet_below (by kernel_rfl) (by kernel_rfl) ?_
      repeat
        first
          | go_big_quiet_skip
          | (go_big_quiet_want; go_big_quiet_op; go_big_quiet_on)
      refine wpQuiet_nil ?_
      rintro w2 ⟨p, rfl⟩
      have hb : Hid (Below W4.heap.size W4 (grow (redrawn wr p.d) p.os)) := B3.out p.d p.os
      generalize grow (redrawn wr p.d) p.os = w2 at *
      clear g2c g3c g4c B3
      go_wp2
      go_roundg (k - (i + 1))
      case measure => have := HK.out; omega
      case rel => exact ⟨i + 1, rfl, by omega, by go_num, hb.out⟩
end Go.Proofs.YtanokeeffbiijaaDoor.tq

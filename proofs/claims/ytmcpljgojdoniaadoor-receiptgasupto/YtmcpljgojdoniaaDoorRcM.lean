import Derived.Test.YtmcpljgojdoniaaDoorRcK
/- ReceiptGas: the calls. -/
namespace Go.Proofs.YtmcpljgojdoniaaDoor.tq
open Go.RowKit Go.Sort
theorem gasL_is (us : List Int) : (gasL us).length ≤ us.length ∧ ∀ i, i < (gasL us).length → (gasL us).getD i 0 = us.getD i 0 - prevU us i := by
  unfold gasL
  cases h : gasP [] 0 us with
  | none => exact ⟨Nat.zero_le _, fun i hi => absurd hi (Nat.not_lt_zero _)⟩
  | some L =>
    obtain ⟨h1, h2⟩ := gasP_is h
    exact ⟨Nat.le_of_eq h1, fun i hi => h2 i (by rw [← h1]; exact hi)⟩
theorem own_apart {v1 v2 : Value} {N : Nat} (h1 : ∀ k, v1.ownBlock = some k → k < N) (h2 : ∀ k, v2.ownBlock = some k → N ≤ k) : v2.ownBlock = none ∨ v2.ownBlock ≠ v1.ownBlock := by
  cases e : v2.ownBlock with
  | none => exact .inl rfl
  | some k => exact .inr fun q => by have := h1 k q.symm; have := h2 k e; omega
theorem rnum_any (v : Int) (W : World) : Calls Tryd.prog 9 #[.int .i64 v] W fun e w' => e = .returned (.int .i64 v) ∧ Below W.heap.size W w' := by
  go_enter Tryd.func9, Tryd.ntmps9
  go_wp2
  simp [bodyPost, results, Tryd.results9, go_sem]
  exact Below.refl _ _
set_option maxRecDepth 100000 in
set_option maxHeartbeats 16000000 in
theorem gas4 {w W3 : World} {G : Nat} {a : Option Addr} {b o c n : Nat} {rs us : List Rc} (hl : rs.length = n) (hn : n < 100000000) (SR : Hid (∀ i, i < n → ∀ W, Below W3.heap.size W3 W → Calls Tryd.prog 10 #[.agg (rcC (us.getD i zRc)).toArray, .agg (rcC (rs.getD i zRc)).toArray] W fun e w' => e = .returned (.bool true) ∧ Below W.heap.size W w')) (SL : Hid (∀ i, i < n → ∀ W, Below W3.heap.size W3 W → Calls Tryd.prog 11 #[.agg (rcC (us.getD i zRc)).toArray, .agg (rcC (rs.getD i zRc)).toArray] W fun e w' => e = .returned (.bool true) ∧ Below W.heap.size W w')) (FF : Hid (∀ V, Below W3.heap.size W3 V → GsF w V G a b o c n rs us)) (LU : Hid (∀ i, i < n → (Tryd.prog.info? 30).map (·.size) = some (rcC (us.getD i zRc)).length ∧ (Tryd.prog.info? 30).map (·.size) = some (rcC (rs.getD i zRc)).length)) (hu : us.length = n) (hs : ∀ i, i < n → (us.getD i zRc).us = (rs.getD i zRc).us) {t1 t2 t4 t5 t6 t7 t8 t9 t10 t11 t12 t13 t14 t15 t16 t17 t18 t19 t20 t21 t22 t23 t24 t25 t26 t27 t28 t29 t30 t31 t32 t33 t34 t35 t36 t37 t38 t39 t40 t41 t42 t43 t44 t45 t46 t47 t48 t49 t50 t51 t52 t53 t54 t55 t56 t57 t58 t59 t60 t61 t62 t63 t64 t65 t66 t67 t68 t69 t70 t71 t72 t73 t74 t75 t76 t77 t78 t79 t80 t81 t82 t83 t84 t85 t86 t87 t88 t89 t90 t91 t92 t93 t94 t95 t96 t97 t98 t99 t100 t101 t102 t103 t104 t105 t106 t107 t108 t109 t110 t111 t112 t113 t114 t115 t116 t117 t118 t119 t120 t121 t122 t123 t124 t125 t126 t127 t128 t129 t130 t131 t132 t133 t134 t135 t136 t137 t138 t139 t140 t141 t142 t143 t144 t145 t146 t147 t148 t149 t150 t151 t152 t153 t154 t155 t156 t157 t158 t159 t160 t161 t162 t163 t164 t165 t166 t167 t168 t169 t170 t171 t172 t173 t174 t175 t176 t177 t178 t179 t180 : Value} :
    WpFrom Tryd.prog Tryd.f3 4 (bodyPost Tryd.prog Tryd.f3 fun e w' => e = .returned (.bool true) ∧ Below w.heap.size w w') { tmps := #[.slice a n c, t1, t2, .slice (some ⟨G, 0, none⟩) (n + 1) (n + 1), t4, t5, t6, t7, t8, t9, t10, t11, t12, t13, t14, t15, t16, t17, t18, t19, t20, t21, t22, t23, t24, t25, t26, t27, t28, t29, t30, t31, t32, t33, t34, t35, t36, t37, t38, t39, t40, t41, t42, t43, t44, t45, t46, t47, t48, t49, t50, t51, t52, t53, t54, t55, t56, t57, t58, t59, t60, t61, t62, t63, t64, t65, t66, t67, t68, t69, t70, t71, t72, t73, t74, t75, t76, t77, t78, t79, t80, t81, t82, t83, t84, t85, t86, t87, t88, t89, t90, t91, t92, t93, t94, t95, t96, t97, t98, t99, t100, t101, t102, t103, t104, t105, t106, t107, t108, t109, t110, t111, t112, t113, t114, t115, t116, t117, t118, t119, t120, t121, t122, t123, t124, t125, t126, t127, t128, t129, t130, t131, t132, t133, t134, t135, t136, t137, t138, t139, t140, t141, t142, t143, t144, t145, t146, t147, t148, t149, t150, t151, t152, t153, t154, t155, t156, t157, t158, t159, t160, t161, t162, t163, t164, t165, t166, t167, t168, t169, t170, t171, t172, t173, t174, t175, t176, t177, t178, t179, t180], defers := [] } W3 := by
  have n1 : (n : Int) < 100000000 := by omega
  obtain ⟨U, hU⟩ : ∃ U, U = usd rs := ⟨_, rfl⟩
  have lU : U.length = n := by rw [hU, usd, List.length_map]; exact hl
  have UG : ∀ V, Below W3.heap.size W3 V → UsR V (some ⟨G, 0, none⟩) G 0 (n + 1) U := fun V BV => by
    refine ⟨⟨by omega, fun e => by cases e⟩, .inr rfl, fun i hi => ?_⟩
    have hi' : i < n := by omega
    have k := (FF.out V BV).hu i hi'
    have r := (FF.out V BV).hr.2.2 i (by omega)
    have e1 : U.getD i 0 = (us.getD i zRc).us := by rw [hU, usd_at (by omega), hs i hi']
    rw [e1]
    refine ⟨by rw [hs i hi']; exact r.1.us, ?_⟩
    rw [Nat.zero_add]
    exact rc_used (by rw [k.2.sc.2.2.1]; exact r.1.root.1) k.1
  obtain ⟨E, hE⟩ : ∃ E, E = gasE U := ⟨_, rfl⟩
  obtain ⟨L, hL⟩ : ∃ L, L = gasL U := ⟨_, rfl⟩
  have KG : Hid (∀ V, Below W3.heap.size W3 V → Calls Tryd.prog 7 #[.slice (some ⟨G, 0, none⟩) n (n + 1)] V fun e w' => ∃ v, e = .returned (.tuple #[v, .int .i64 E]) ∧ OwG V.heap.size w' v L ∧ Below V.heap.size V w') := fun V BV => by
    have h := gas_any (by omega) V (UG V BV)
    rw [lU, ← hE, ← hL] at h; exact h
  have KR : Hid (∀ V, Below W3.heap.size W3 V → Calls Tryd.prog 8 #[.slice a n c] V fun e w' => ∃ v, e = .returned (.tuple #[v, .int .i64 E]) ∧ OwG V.heap.size w' v L ∧ Below V.heap.size V w') := fun V BV => by
    have h := rgas_any (us := U) (by omega) V (by rw [hU]; exact (FF.out V BV).hr.us)
    rw [lU, ← hE, ← hL] at h; exact h
  have PL : Hid (L.length ≤ n ∧ ∀ i, i < L.length → L.getD i 0 = U.getD i 0 - prevU U i) := by
    have h := gasL_is U
    rw [← hL, lU] at h; exact h
  have HU : Hid (U = usd rs) := hU
  have HL : Hid (rs.length = n ∧ n < 100000000) := ⟨hl, hn⟩
  have c9 : (n : Int) ≤ (n : Int) + 1 := by omega
  clear hU lU UG hE hL hu hs hl hn
  refine WpFrom.intro rfl ?_
  refine wp_seq_k fun K0 h0 => ?_
  have H0 : Hid _ := h0
  clear h0
  go_wp2_with (go_at_call 7; refine (KG.out _ (Below.refl _ _)).mono ?_; rintro e W4 ⟨v1, rfl, o1, B4⟩)
  refine H0.out _ _ ?_
  clear H0 K0
  refine wp_seq_k fun K1 h1 => ?_
  have H1 : Hid _ := h1
  clear h1
  go_wp2_with (go_at_call 7; refine (KG.out _ B4).mono ?_; rintro e W5 ⟨v2, rfl, o2, B5⟩)
  refine H1.out _ _ ?_
  clear H1 K1
  refine wp_seq_k fun K2 h2 => ?_
  have H2 : Hid _ := h2
  clear h2
  have B35 : Below W3.heap.size W3 W5 := B4.trans (B5.mono B4.size)
  go_wp2_with (go_at_call 8; refine (KR.out _ B35).mono ?_; rintro e W6 ⟨v3, rfl, o3, B6⟩)
  refine H2.out _ _ ?_
  clear H2 K2
  have B36 : Below W3.heap.size W3 W6 := B35.trans (B6.mono B35.size)
  have p1 : OwG W3.heap.size W6 v1 L := (o1.keep B5).keep B6
  have p2 : OwG W4.heap.size W6 v2 L := o2.keep B6
  have d2 : v2.ownBlock = none ∨ v2.ownBlock ≠ v1.ownBlock := own_apart (N := W4.heap.size) (fun k hk => (World.ownsRow.lt o1 k hk).2) (fun k hk => (World.ownsRow.lt o2 k hk).1)
  have d3 : v3.ownBlock = none ∨ v3.ownBlock ≠ v1.ownBlock := own_apart (N := W4.heap.size) (fun k hk => (World.ownsRow.lt o1 k hk).2) (fun k hk => Nat.le_trans B5.size (World.ownsRow.lt o3 k hk).1)
  have HA : Hid (OwG W3.heap.size W6 v1 L ∧ OwG W4.heap.size W6 v2 L ∧ OwG W5.heap.size W6 v3 L ∧ (v2.ownBlock = none ∨ v2.ownBlock ≠ v1.ownBlock) ∧ (v3.ownBlock = none ∨ v3.ownBlock ≠ v1.ownBlock) ∧ Below W3.heap.size W3 W6) := ⟨p1, p2, o3, d2, d3, B36⟩
  obtain ⟨a1, c1, e1⟩ := p1.form
  obtain ⟨a2, c2, e2⟩ := p2.form
  obtain ⟨a3, c3, e3⟩ := o3.form
  subst e1 e2 e3
  clear p1 p2 d2 d3 o1 o2 o3 B4 B5 B6 B35 B36 KG KR
  obtain ⟨m, hm⟩ : ∃ m, m = L.length := ⟨_, rfl⟩
  have HM : Hid (L.length = m) := hm.symm
  rw [← hm] at HA ⊢
  clear hm
  refine wp_seq_k fun K3 h3 => ?_
  have H3 : Hid _ := h3
  clear h3
  go_wp2_with (go_at_call 9; refine (rnum_any _ _).mono ?_; rintro e W7 ⟨rfl, B7⟩)
  refine H3.out _ _ ?_
  have hA := HA.out
  have HB7 : Hid (Below W6.heap.size W6 W7) := B7
  exact (gas8 HL.out.1 HL.out.2 SR SL FF LU HM.out (by rw [← HM.out]; exact PL.out.1) HU.out (fun i hi => PL.out.2 i (by rw [HM.out]; exact hi)) (Nat.le_refl _) (Nat.le_trans hA.2.2.2.2.2.size B7.size) (hA.1.keep B7) (hA.2.1.keep B7) (hA.2.2.1.keep B7) hA.2.2.2.1 hA.2.2.2.2.1 (hA.2.2.2.2.2.trans (B7.mono hA.2.2.2.2.2.size))).out rfl
end Go.Proofs.YtmcpljgojdoniaaDoor.tq

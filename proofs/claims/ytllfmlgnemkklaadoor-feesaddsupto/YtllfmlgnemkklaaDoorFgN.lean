import Derived.Test.YtllfmlgnemkklaaDoorFgM
import Derived.Test.YtllfmlgnemkklaaDoorCut
/- Layer 18: FeesAdds: the access list. -/
namespace Go.Proofs.YtllfmlgnemkklaaDoor
open Go.RowKit Go.Sort
open tq
theorem build_e9 (a : Option Addr) (n c : Nat) : Tryd.prog.built 41 [(1, .slice a n c)] = some #[.int .u8 0, .int .u8 0, .int .u8 0, .int .u8 0, .int .u8 0, .int .u8 0, .int .u8 0, .int .u8 0, .int .u8 0, .int .u8 0, .int .u8 0, .int .u8 0, .int .u8 0, .int .u8 0, .int .u8 0, .int .u8 0, .int .u8 0, .int .u8 0, .int .u8 0, .int .u8 0, .slice a n c] := by kernel_rfl
theorem z9_new {W : World} {T : TypeId} (a : Option Addr) (n c : Nat) : (W.alloc (.cells #[.int .u8 0, .int .u8 0, .int .u8 0, .int .u8 0, .int .u8 0, .int .u8 0, .int .u8 0, .int .u8 0, .int .u8 0, .int .u8 0, .int .u8 0, .int .u8 0, .int .u8 0, .int .u8 0, .int .u8 0, .int .u8 0, .int .u8 0, .int .u8 0, .int .u8 0, .int .u8 0, .slice a n c] T)).rangeAt W.heap.size 0 [.int .u8 0, .int .u8 0, .int .u8 0, .int .u8 0, .int .u8 0, .int .u8 0, .int .u8 0, .int .u8 0, .int .u8 0, .int .u8 0, .int .u8 0, .int .u8 0, .int .u8 0, .int .u8 0, .int .u8 0, .int .u8 0, .int .u8 0, .int .u8 0, .int .u8 0, .int .u8 0, .slice a n c] := fun j v hv => by
  show (W.alloc (.cells ([.int .u8 0, .int .u8 0, .int .u8 0, .int .u8 0, .int .u8 0, .int .u8 0, .int .u8 0, .int .u8 0, .int .u8 0, .int .u8 0, .int .u8 0, .int .u8 0, .int .u8 0, .int .u8 0, .int .u8 0, .int .u8 0, .int .u8 0, .int .u8 0, .int .u8 0, .int .u8 0, .slice a n c] : List Value).toArray T)).cell? _ = _
  rw [Nat.zero_add, World.cell?_alloc_mark]; simpa using hv
theorem z9_one (a : Option Addr) (n c : Nat) : ∀ u ∈ ([.int .u8 0, .int .u8 0, .int .u8 0, .int .u8 0, .int .u8 0, .int .u8 0, .int .u8 0, .int .u8 0, .int .u8 0, .int .u8 0, .int .u8 0, .int .u8 0, .int .u8 0, .int .u8 0, .int .u8 0, .int .u8 0, .int .u8 0, .int .u8 0, .int .u8 0, .int .u8 0, .slice a n c] : List Value), u.oneCell' = true := by
  intro u hu
  simp only [List.mem_cons, List.not_mem_nil, or_false] at hu
  rcases hu with h | h | h | h | h | h | h | h | h | h | h | h | h | h | h | h | h | h | h | h | h <;> (subst h; rfl)
set_option maxRecDepth 100000 in
set_option maxHeartbeats 16000000 in
theorem adds_tail {t : Txv} {M : List Value} {a2 : Option Addr} {b2 o2 c2 : Nat} {KK : List (List Int)} {I : Int} {V : World} (w : World) (hn : Hid (BdTF t)) (hd : Hid (BdG t)) (hel : Hid (t.El.length < 5000000)) (HK2 : Hid (KK.length < 10000000)) (HQ : Hid (0 = dfN t)) (iI : Hid (igT t = I)) (HM : Hid (M = txC t)) (TO : Hid (t.to.length = 20)) (HS : Hid (w.heap.size < V.heap.size))
    (sz : (Tryd.prog.info? 32).map (·.size) = some M.length) (GR : Hid (∀ V, Below w.heap.size w V → MkH V ∧ MkA V ∧ Rws V ∧ TxG V t ∧ KsG V a2 b2 o2 c2 KK))
    (TW : Hid (∀ V, Below w.heap.size w V → Calls Tryd.prog 8 #[.agg M.toArray] V fun e w' => ∃ u, e = .returned (.agg (txC u).toArray) ∧ LtT w' u t ∧ (LtN u t ∧ V.heap.size ≤ u.Db) ∧ Below V.heap.size V w')) (B0 : Below w.heap.size w V) (rM : V.rangeAt w.heap.size 0 M)
    (t1 t4 t5 t7 t8 t9 t10 t12 t13 t14 t15 t16 t17 t18 t19 t20 t21 t22 t23 t24 t25 t26 t27 t28 t29 t30 t31 t32 t33 t34 t35 t36 t37 t38 t39 t40 t41 t42 t43 t44 t45 t46 t47 t48 t49 t50 t51 t52 t53 t54 t55 t56 t57 t58 t59 t60 t61 t62 t63 t64 t65 t66 t67 t68 t69 t70 t71 t72 t73 t74 t75 t76 t77 t78 t79 t80 t81 t82 t83 t84 t85 t86 t87 t88 t89 t90 t91 t92 t93 t94 t95 t96 t97 t98 t99 t100 t101 t102 t103 t104 t105 t106 t107 t108 t109 t110 t111 t112 t113 t114 t115 t116 t117 t118 t119 t120 t121 t122 t123 t124 t125 t126 t127 t128 t129 t130 t131 t132 t133 t134 t135 t136 t137 t138 t139 t140 t141 t142 t143 t144 t145 t146 t147 t148 t149 t150 t151 t152 t153 t154 t155 t156 t157 t158 t159 t160 t161 t162 t163 t164 t165 t166 t167 t168 t169 t170 t171 t172 t173 t174 t175 t176 t177 t178 t179 t180 t181 t182 t183 t184 t185 t186 t187 t188 t189 t190 t191 t192 t193 t194 t195 t196 t197 t198 t199 t200 t201 : Value) : WpFrom Tryd.prog Tryd.f3 14 (bodyPost Tryd.prog Tryd.f3 fun e w' => e = .returned (.bool true) ∧ Below w.heap.size w w') { tmps := #[.agg M.toArray, t1, .slice a2 KK.length c2, .pointer (some ⟨w.heap.size, 0, none⟩), t4, t5, .bool false, t7, t8, t9, t10, .int .u64 I, t12, t13, t14, t15, t16, t17, t18, t19, t20, t21, t22, t23, t24, t25, t26, t27, t28, t29, t30, t31, t32, t33, t34, t35, t36, t37, t38, t39, t40, t41, t42, t43, t44, t45, t46, t47, t48, t49, t50, t51, t52, t53, t54, t55, t56, t57, t58, t59, t60, t61, t62, t63, t64, t65, t66, t67, t68, t69, t70, t71, t72, t73, t74, t75, t76, t77, t78, t79, t80, t81, t82, t83, t84, t85, t86, t87, t88, t89, t90, t91, t92, t93, t94, t95, t96, t97, t98, t99, t100, t101, t102, t103, t104, t105, t106, t107, t108, t109, t110, t111, t112, t113, t114, t115, t116, t117, t118, t119, t120, t121, t122, t123, t124, t125, t126, t127, t128, t129, t130, t131, t132, t133, t134, t135, t136, t137, t138, t139, t140, t141, t142, t143, t144, t145, t146, t147, t148, t149, t150, t151, t152, t153, t154, t155, t156, t157, t158, t159, t160, t161, t162, t163, t164, t165, t166, t167, t168, t169, t170, t171, t172, t173, t174, t175, t176, t177, t178, t179, t180, t181, t182, t183, t184, t185, t186, t187, t188, t189, t190, t191, t192, t193, t194, t195, t196, t197, t198, t199, t200, t201], defers := [] } V := by
  refine WpFrom.intro rfl ?_
  have BW : Hid (Below w.heap.size w V) := B0
  clear B0
  have cty : V.cell? ⟨w.heap.size, 0, none⟩ = some (.int .i64 t.ty) := TxB.ty ⟨by rw [← HM.out]; exact rM, TO.out⟩
  by_cases c0 : t.ty = 0
  · rw [c0] at cty
    clear c0
    go_wp2
    simp [bodyPost, results, Tryd.results3, go_sem]
    exact BW.out
  refine wp_seq_k fun K14 h14 => ?_
  have H14 : Hid _ := h14
  clear h14
  have cb : (t.ty == 0) = false := by simpa using c0
  have T0 : Hid (t.ty ≠ 0) := c0
  clear c0
  generalize t.ty = ty at cty cb
  go_wp2
  refine H14.out _ _ ?_
  clear H14 cty cb
  refine wp_seq_k fun K15 h15 => ?_
  have H15 : Hid _ := h15
  clear h15
  go_wp2_with first
    | (refine wpList_load_midT (by rfl) 32 _ rfl w.heap.size 0 rfl M _ rM Tryd.underlying32 rfl sz ?_)
    | (go_at_call 8; refine (TW.out _ BW.out).mono ?_; rintro e w2 ⟨u, rfl, lt, ln, hb⟩; (have HU : Hid (LtT w2 u t ∧ (txC u).length = 61) := ⟨lt, txC_len (by rw [lt.sc.2.2.2.2.2]; exact TO.out)⟩); replace BW : Hid (Below w.heap.size w w2) := BW.out.trans (hb.mono BW.out.size); replace rM := tq.range_keep rM hb; replace HS : Hid (w.heap.size < w2.heap.size) := Nat.lt_of_lt_of_le HS.out hb.size; clear lt ln hb)
    | (refine wpList_allocT rfl 32 rfl (some 23) rfl 61 408 rI_t ?_; intro b5 W5 h5 B5 t5)
    | (refine wpList_storeT rfl 32 _ _ rfl b5 (txC u) rfl rfl (by rw [HU.out.2]; exact t5) (by rw [HU.out.2]; exact size_txT) (txC_one u) ?_; intro V0 u9 r9 t9)
  refine H15.out _ _ ?_
  clear H15
  have B26 : Below w2.heap.size w2 V0 := u9.below (by have := h5.out; omega) B5
  replace BW : Hid (Below w.heap.size w V0) := BW.out.trans (B26.mono BW.out.size)
  replace rM := tq.range_keep rM B26
  have L61 : Hid ((txC u).length = 61) := HU.out.2
  have LW : Hid (LtT w2 u t ∧ Below w2.heap.size w2 V0 ∧ w2.heap.size ≤ b5) := ⟨HU.out.1, B26, by have := h5.out; omega⟩
  have LU : Hid (b5 < V0.heap.size ∧ w.heap.size < b5) := ⟨by have := h5.out; rw [u9.size]; omega, by have := h5.out; have := HS.out; omega⟩
  have RM0 : Hid (V0.rangeAt w.heap.size 0 M) := rM
  rw [HU.out.2] at t9
  clear HU B26 u9 t5 B5 h5 TW rM
  refine wp_seq_k fun K16 h16 => ?_
  have H16 : Hid _ := h16
  clear h16
  obtain ⟨CU, hCU⟩ : ∃ C, C = txC u := ⟨_, rfl⟩
  have HCU : Hid (CU = txC u) := hCU
  rw [← hCU] at r9 L61
  clear hCU
  go_wp2_with first
    | (refine wpList_store1T rfl 28 _ _ rfl b5 42 (.slice none 0 0) CU rfl rfl rfl rfl size_1e r9 (by rw [L61.out]; exact t9) (by rw [L61.out]; decide) ?_; intro V2 u9 r10 t10)
  refine H16.out _ _ ?_
  clear H16
  have GT : GtE V0 V2 b5 CU (t.El.take 0) := by
    rw [List.take_zero]
    exact ⟨wr_but (Wr.refl V0 b5) u9, none, 0, r10, by rw [L61.out] at t10; exact t10, World.ownsRow_nil _ _ _ _⟩
  clear u9 r10 t10 r9 t9
  refine wp_seq_k fun K17 h17 => ?_
  have H17 : Hid _ := h17
  clear h17
  have GF : Hid (∀ V, Wr V0 V b5 → Below w.heap.size w V ∧ TxG V t ∧ KsG V a2 b2 o2 c2 KK ∧ Rws V ∧ V.rangeAt w.heap.size 0 M) := fun V h => by
    have b := h.below (Nat.le_of_lt LU.out.2) BW.out BW.out.size
    have g := GR.out V b
    exact ⟨b, g.2.2.2.1, g.2.2.2.2, g.2.2.1, h.rangeP RM0.out (by have := LU.out; omega)⟩
  obtain ⟨n, en⟩ : ∃ n, n = t.El.length := ⟨_, rfl⟩
  have EN : Hid (t.El.length = n ∧ n < 10000000) := ⟨en.symm, by rw [en]; exact hd.out.2.1⟩
  have n1 : (n : Int) < 10000000 := by have := EN.out; omega
  clear en
  go_wp2_with fail
  go_loopg [24] n (fun k iv wr => ∃ i : Nat, k = n - i ∧ i ≤ n ∧ iv = .int .i64 (i : Int) ∧ GtE V0 wr b5 CU (t.El.take i))
  case atStart => exact ⟨0, rfl, Nat.zero_le _, rfl, GT⟩
  case round =>
    clear GT
    obtain ⟨i, hk, hi, rfl, hg⟩ := hrel
    have HK : Hid (gk = n - i) := hk
    clear hk
    have q0 := hg.1
    have G1 := GF.out _ q0
    have cE : wr.cell? ⟨w.heap.size, 42, none⟩ = some (.slice t.Ea n t.Ec) := by
      have h := TxB.E (t := t) (b := w.heap.size) (W := wr) ⟨by rw [← HM.out]; exact G1.2.2.2.2, TO.out⟩
      rwa [EN.out.1] at h
    by_cases h8 : i = n
    · subst h8
      have HE : Hid (GtE V0 wr b5 CU (t.El.take i)) := hg
      clear HK hg hi G1 q0
      go_wp2
      refine H17.out _ _ ?_
      clear H17 cE
      obtain ⟨q0, va, vc, r0, t0, ow⟩ := HE.out
      have tk : t.El.take i = t.El := by rw [← EN.out.1, List.take_length]
      rw [tk, EN.out.1] at r0 ow
      have c42 : wr.cell? ⟨b5, 42, none⟩ = some (.slice va i vc) := by
        have h := r0 42 (.slice va i vc) (by rw [List.getElem?_set_self (by rw [L61.out]; decide)])
        rwa [Nat.zero_add] at h
      have HG : Hid (Wr V0 wr b5 ∧ wr.rangeAt b5 0 (CU.set 42 (.slice va i vc)) ∧ wr.there b5 0 61 ∧ wr.ownsRow V0.heap.size 41 21 (.slice va i vc) i (flatC enC t.El) ∧ b5 < V0.heap.size) := ⟨q0, r0, t0, ow, LU.out.1⟩
      clear q0 r0 t0 ow tk HE n1
      refine wp_seq_k fun K36 h36 => ?_
      have H36 : Hid _ := h36
      clear h36
      go_wp2_with first
        | (refine wpList_buildP 41 _ _ _ (build_e9 a2 KK.length c2) rfl rfl (by simp [Act.eval, Act.put]) ?_)
        | (at_builtin; refine wpList_append_rw (B := V0.heap.size) (n := i) (v := .slice va i vc) (xs := flatC enC t.El) (g := wr.heap.size) (p := 0) (m := 1) (news := [.int .u8 0, .int .u8 0, .int .u8 0, .int .u8 0, .int .u8 0, .int .u8 0, .int .u8 0, .int .u8 0, .int .u8 0, .int .u8 0, .int .u8 0, .int .u8 0, .int .u8 0, .int .u8 0, .int .u8 0, .int .u8 0, .int .u8 0, .int .u8 0, .int .u8 0, .int .u8 0, .slice a2 KK.length c2]) 21 48 28 41 Tryd.underlying28 rI_e (by decide) rfl _ _ rfl rfl rfl (HG.out.2.2.2.1.alloc _) rfl (.inr rfl) (fun e => by cases e) (z9_new _ _ _) (z9_one _ _ _) (by unfold maxLen; have := EN.out; omega) (by have := EN.out; omega) (by have := HG.out.1.size; rw [World.size_alloc]; omega) ?_; intro v2 W2 ho hg hv; obtain ⟨g2, cap2, rfl, hc2, hgB⟩ := row_form ho; (have rowN : ∀ k, (Value.slice va i vc).ownBlock = some k → V0.heap.size ≤ k := fun k hk => (World.ownsRow.lt HG.out.2.2.2.1 k hk).1); (have q1 : Wr V0 W2 b5 := wr_grown (HG.out.1.step ((Below.refl _ _).alloc (Nat.le_refl _) _)) hg rowN); (have eb5 : W2.heap[b5]? = wr.heap[b5]? := (hg.block b5 (by have := HG.out.1.size; have := LU.out; rw [World.size_alloc]; omega) (fun e => by have := rowN b5 e.symm; have := LU.out; omega)).trans (((Below.refl wr.heap.size wr).alloc (Nat.le_refl _) _).block b5 (by have := HG.out.1.size; have := LU.out; omega))); (have r2 := tq.range_same HG.out.2.1 eb5); (have t2 := there_same HG.out.2.2.1 eb5); clear hg hv)
        | (refine wpList_store1T rfl 28 _ _ rfl b5 42 (.slice (some ⟨g2, 0, none⟩) (i + 1) cap2) (CU.set 42 (.slice va i vc)) rfl rfl rfl rfl size_1e r2 (by rw [List.length_set, L61.out]; exact t2) (by rw [List.length_set, L61.out]; decide) ?_; intro W3 u9 r3 t3)
      refine H36.out _ _ ?_
      clear H36
      have q3 : Wr V0 W3 b5 := wr_but q1 u9
      have ow3 : W3.ownsRow V0.heap.size 41 21 (.slice (some ⟨g2, 0, none⟩) (t.El ++ [e9T a2 b2 o2 c2 KK]).length cap2) (t.El ++ [e9T a2 b2 o2 c2 KK]).length (flatC enC (t.El ++ [e9T a2 b2 o2 c2 KK])) := by
        rw [List.length_append, List.length_singleton, EN.out.1, flatC_app]
        exact World.ownsRow.kept ho (but_grownBy u9) (by
          right
          intro e
          have e3 : g2 = b5 := Option.some.inj e
          have := LU.out
          omega)
      rw [List.set_set] at r3
      have TOu : u.to.length = 20 := by rw [LW.out.1.sc.2.2.2.2.2]; exact TO.out
      have ll : (t.El ++ [e9T a2 b2 o2 c2 KK]).length = i + 1 := by rw [List.length_append, List.length_singleton, EN.out.1]
      obtain ⟨C3, hC3⟩ : ∃ C, C = CU.set 42 (.slice (some ⟨g2, 0, none⟩) (i + 1) cap2) := ⟨_, rfl⟩
      have TC : Hid (C3 = txC (wE2 u (some ⟨g2, 0, none⟩) g2 cap2 (t.El ++ [e9T a2 b2 o2 c2 KK]))) := by show _ = _; rw [hC3, HCU.out, txC_wE2 TOu, ll]
      have szu : (Tryd.prog.info? 32).map (·.size) = some C3.length := by rw [hC3, List.length_set, L61.out]; exact size_txT
      rw [← hC3] at r3
      clear hC3
      have FY : Hid (∀ V, Below W3.heap.size W3 V → TxG V (wE2 u (some ⟨g2, 0, none⟩) g2 cap2 (t.El ++ [e9T a2 b2 o2 c2 KK])) ∧ V.rangeAt b5 0 C3 ∧ Below w.heap.size w V ∧ Rws V) := fun V BV => by
        have q := q3.step BV
        have g := GF.out V q
        have owV := World.ownsRow.kept ow3 (grown_of_below BV Option.none) (by right; intro e; cases e)
        refine ⟨good_wE2 ((ltT_wr LW.out.1 LW.out.2.1 q LW.out.2.2).good g.2.1) (esG_own owV (by rw [ll]; omega) (by rw [ll]; exact hc2) fun j hj => ?_), fun j v hv => cell_keep BV (r3 j v hv), g.1, g.2.2.2.1⟩
        by_cases cj : j < t.El.length
        · have : (t.El ++ [e9T a2 b2 o2 c2 KK]).getD j zEn = t.El.getD j zEn := by rw [List.getD, List.getD, List.getElem?_append_left cj]
          rw [this]; exact (g.2.1.E.2.2 j cj).1
        · have e : j = t.El.length := by rw [ll] at hj; have := EN.out.1; omega
          have : (t.El ++ [e9T a2 b2 o2 c2 KK]).getD j zEn = e9T a2 b2 o2 c2 KK := by rw [e]; simp [List.getD]
          rw [this]; exact e9_good g.2.2.1
      have BD : Hid (BdG (wE2 u (some ⟨g2, 0, none⟩) g2 cap2 (t.El ++ [e9T a2 b2 o2 c2 KK]))) := bdG_wE2 (bdG_same hd.out LW.out.1) (by have := hel.out; omega) hd.out.2.2.1 HK2.out
      have BH : Hid ((wE2 u (some ⟨g2, 0, none⟩) g2 cap2 (t.El ++ [e9T a2 b2 o2 c2 KK])).Hsl.length < 1000000000) := by show u.Hsl.length < _; rw [LW.out.1.Hs.1]; exact hn.out.2.1
      have DF : Hid (dfN (wE2 u (some ⟨g2, 0, none⟩) g2 cap2 (t.El ++ [e9T a2 b2 o2 c2 KK])) = 0) := by show _ = _; rw [df_wE2 (by rw [LW.out.1.sc.1]; exact T0.out), df_same LW.out.1, ← HQ.out]
      have EI := igT_wE3 (t := t) (u := u) (some ⟨g2, 0, none⟩) g2 cap2 (e9T a2 b2 o2 c2 KK) LW.out.1.D.1 LW.out.1.sc.2.2.2.2.1 LW.out.1.U.1
      rw [iI.out] at EI
      have bI := igT_bd hd.out
      rw [iI.out] at bI
      have kl : (KK.length : Int) < 10000000 := by have := HK2.out; omega
      have E0 : Hid (∀ V, Below W3.heap.size W3 V → Calls Tryd.prog 7 #[.agg C3.toArray] V fun e w' => e = .returned (.tuple #[.int .u64 (I + 2400 + 1900 * (KK.length : Int)), .int .i64 0]) ∧ Below V.heap.size V w') := fun V BV => by
        have f := FY.out V BV
        have h := Intrinsic_any BD BH.out V f.1 f.2.2.2
        unfold igV at h
        rw [if_pos DF.out, DF.out, EI] at h
        rw [TC.out]; exact h
      have HY : Hid (∀ V, Below W3.heap.size W3 V → Below w.heap.size w V) := fun V BV => (FY.out V BV).2.2.1
      have rU := (FY.out W3 (Below.refl _ _)).2.1
      have f1 : IntKind.u64.wrap (I + 2400) = I + 2400 := by rw [IntKind.wrap_u64]; omega
      have f2 : IntKind.u64.wrap (KK.length : Int) = KK.length := by rw [IntKind.wrap_u64]; omega
      have f3 : IntKind.u64.wrap (1900 * (KK.length : Int)) = 1900 * (KK.length : Int) := by rw [IntKind.wrap_u64]; omega
      have f4 : IntKind.u64.wrap (I + 2400 + 1900 * (KK.length : Int)) = I + 2400 + 1900 * (KK.length : Int) := by rw [IntKind.wrap_u64]; omega
      clear EI bI kl BD BH DF TC FY ll TOu ow3 q3 u9 r3 t3 ho q1 rowN eb5 r2 t2 hc2 hgB HG c42
      generalize KK.length = kk at *
      go_wp2_with first
        | (refine wpList_load_midT (by rfl) 32 _ rfl b5 0 rfl C3 _ rU Tryd.underlying32 rfl szu ?_)
        | (go_at_call 7; refine (E0.out _ (Below.refl _ _)).mono ?_; rintro e wn ⟨rfl, hb⟩)
      simp [bodyPost, results, Tryd.results3, go_sem]
      exact HY.out _ hb
    · have hlt : i < n := by omega
      have hlt' : (i : Int) < (n : Int) := by omega
      obtain ⟨_, va, vc, r0, t0, ow⟩ := hg
      have eA : t.Ea = some ⟨t.Eb, t.Eo, none⟩ := by
        rcases G1.2.1.E.2.1 with e | e
        · have := EN.out.1; rw [e] at this; simp at this; omega
        · exact e
      rw [eA] at cE
      have ge := G1.2.1.E.2.2 i (by rw [EN.out.1]; exact hlt)
      have hm : (t.El.take i).length = i := by rw [List.length_take, EN.out.1]; omega
      rw [hm] at r0 ow
      have c41 : wr.cell? ⟨b5, 42, none⟩ = some (.slice va i vc) := by
        have h := r0 42 (.slice va i vc) (by rw [List.getElem?_set_self (by rw [L61.out]; decide)])
        rwa [Nat.zero_add] at h
      have ts : Hid (t.El.take (i + 1) = t.El.take i ++ [t.El.getD i zEn]) := by
        show _ = _
        rw [List.take_add_one, List.getElem?_eq_getElem (by rw [EN.out.1]; exact hlt), List.getD, List.getElem?_eq_getElem (by rw [EN.out.1]; exact hlt)]; rfl
      obtain ⟨⟨adr, ea, eb, eo, ec, eks⟩, hx⟩ : ∃ x, x = t.El.getD i zEn := ⟨_, rfl⟩
      rw [← hx] at ge ts
      obtain ⟨a0, a1, a3, a4, a5, a6, a7, a8, a9, a10, a11, a12, a13, a14, a15, a16, a17, a18, a19, a20, hl⟩ := list_20 ge.1.1.1
      subst hl
      have gx : wr.rangeAt t.Eb (t.Eo + i * 21) [.int .u8 a0, .int .u8 a1, .int .u8 a3, .int .u8 a4, .int .u8 a5, .int .u8 a6, .int .u8 a7, .int .u8 a8, .int .u8 a9, .int .u8 a10, .int .u8 a11, .int .u8 a12, .int .u8 a13, .int .u8 a14, .int .u8 a15, .int .u8 a16, .int .u8 a17, .int .u8 a18, .int .u8 a19, .int .u8 a20, .slice ea eks.length ec] := ge.2
      have HG : Hid (Wr V0 wr b5 ∧ wr.rangeAt b5 0 (CU.set 42 (.slice va i vc)) ∧ wr.there b5 0 61 ∧ wr.ownsRow V0.heap.size 41 21 (.slice va i vc) i (flatC enC (t.El.take i)) ∧ b5 < V0.heap.size) := ⟨q0, r0, t0, ow, LU.out.1⟩
      clear q0 r0 t0 ow G1 hi h8 ge
      obtain ⟨ne, hne⟩ : ∃ ne, ne = eks.length := ⟨_, rfl⟩
      have HNE : Hid (ne = eks.length) := hne
      rw [← hne] at gx
      clear hne
      go_wp2_with fail
      refine wp_region_bar 10 (S := fun w' => w'.cell? ⟨b5, 42, none⟩ = some (.slice va i vc) ∧ w'.cell? ⟨w.heap.size, 42, none⟩ = some (.slice (some ⟨t.Eb, t.Eo, none⟩) n t.Ec) ∧ w'.rangeAt t.Eb (t.Eo + i * 21) [.int .u8 a0, .int .u8 a1, .int .u8 a3, .int .u8 a4, .int .u8 a5, .int .u8 a6, .int .u8 a7, .int .u8 a8, .int .u8 a9, .int .u8 a10, .int .u8 a11, .int .u8 a12, .int .u8 a13, .int .u8 a14, .int .u8 a15, .int .u8 a16, .int .u8 a17, .int .u8 a18, .int .u8 a19, .int .u8 a20, .slice ea ne ec]) (by kernel_rfl) ⟨c41, cE, gx⟩ (fun hHeld => ?_)
      refine wpAnyB_takeD (i := 0) (oi := _) (v := .pointer (some ⟨b5, 42, none⟩)) 167 rfl rfl (by kernel_rfl) (by kernel_rfl) (by kernel_rfl) (by kernel_rfl) (fun _ _ _ h => h) (Or.inl ⟨by kernel_rfl, fun wq hSw => by obtain ⟨x0, x1, x2⟩ := hSw; go_simp⟩) (by assumption) ?_
      simp only [Act.put, List.setIfInBounds_toArray, List.set_cons_succ, List.set_cons_zero]
      refine wpAnyB_takeD (i := 1) (oi := _) (v := .slice va i vc) 168 rfl rfl (by kernel_rfl) (by kernel_rfl) (by kernel_rfl) (by kernel_rfl) (fun _ _ _ h => h) (Or.inl ⟨by kernel_rfl, fun wq hSw => by obtain ⟨x0, x1, x2⟩ := hSw; go_simp⟩) (by assumption) ?_
      simp only [Act.put, List.setIfInBounds_toArray, List.set_cons_succ, List.set_cons_zero]
      refine wpAnyB_takeD (i := 2) (oi := _) (v := .pointer (some ⟨w.heap.size, 42, none⟩)) 169 rfl rfl (by kernel_rfl) (by kernel_rfl) (by kernel_rfl) (by kernel_rfl) (fun _ _ _ h => h) (Or.inl ⟨by kernel_rfl, fun wq hSw => by obtain ⟨x0, x1, x2⟩ := hSw; go_simp⟩) (by assumption) ?_
      simp only [Act.put, List.setIfInBounds_toArray, List.set_cons_succ, List.set_cons_zero]
      refine wpAnyB_takeD (i := 3) (oi := _) (v := .slice (some ⟨t.Eb, t.Eo, none⟩) n t.Ec) 170 rfl rfl (by kernel_rfl) (by kernel_rfl) (by kernel_rfl) (by kernel_rfl) (fun _ _ _ h => h) (Or.inl ⟨by kernel_rfl, fun wq hSw => by obtain ⟨x0, x1, x2⟩ := hSw; go_simp⟩) (by assumption) ?_
      simp only [Act.put, List.setIfInBounds_toArray, List.set_cons_succ, List.set_cons_zero]
      refine wpAnyB_takeD (i := 4) (oi := _) (v := .int .i64 (i : Int)) 171 rfl rfl (by kernel_rfl) (by kernel_rfl) (by kernel_rfl) (by kernel_rfl) (fun _ _ _ h => h) (Or.inl ⟨by kernel_rfl, fun wq hSw => by obtain ⟨x0, x1, x2⟩ := hSw; go_simp⟩) (by assumption) ?_
      simp only [Act.put, List.setIfInBounds_toArray, List.set_cons_succ, List.set_cons_zero]
      refine wpAnyB_takeD (i := 5) (oi := _) (v := .pointer (some ⟨t.Eb, t.Eo + i * 21, none⟩)) 172 rfl rfl (by kernel_rfl) (by kernel_rfl) (by kernel_rfl) (by kernel_rfl) (fun _ _ _ h => h) (Or.inl ⟨by kernel_rfl, fun wq hSw => by obtain ⟨x0, x1, x2⟩ := hSw; go_simp⟩) (by assumption) ?_
      simp only [Act.put, List.setIfInBounds_toArray, List.set_cons_succ, List.set_cons_zero]
      refine wpAnyB_takeD (i := 6) (oi := _) (v := .agg #[.int .u8 a0, .int .u8 a1, .int .u8 a3, .int .u8 a4, .int .u8 a5, .int .u8 a6, .int .u8 a7, .int .u8 a8, .int .u8 a9, .int .u8 a10, .int .u8 a11, .int .u8 a12, .int .u8 a13, .int .u8 a14, .int .u8 a15, .int .u8 a16, .int .u8 a17, .int .u8 a18, .int .u8 a19, .int .u8 a20, .slice ea ne ec]) 173 rfl rfl (by kernel_rfl) (by kernel_rfl) (by kernel_rfl) (by kernel_rfl) (fun _ _ _ h => h) (yieldsIf_load_mid (by kernel_rfl) _ _ rfl t.Eb (t.Eo + i * 21) rfl [.int .u8 a0, .int .u8 a1, .int .u8 a3, .int .u8 a4, .int .u8 a5, .int .u8 a6, .int .u8 a7, .int .u8 a8, .int .u8 a9, .int .u8 a10, .int .u8 a11, .int .u8 a12, .int .u8 a13, .int .u8 a14, .int .u8 a15, .int .u8 a16, .int .u8 a17, .int .u8 a18, .int .u8 a19, .int .u8 a20, .slice ea ne ec] _ (fun w h => h.2.2) Tryd.underlying41 rfl size_en) (by assumption) ?_
      simp only [Act.put, List.setIfInBounds_toArray, List.set_cons_succ, List.set_cons_zero]
      refine wpAnyB_one (i := 7) (by kernel_rfl) (by kernel_rfl) rfl (fun K hK => ?_)
      go_simp
      have BA : Below wr.heap.size wr (wr.alloc (.cells #[.int .u8 a0, .int .u8 a1, .int .u8 a3, .int .u8 a4, .int .u8 a5, .int .u8 a6, .int .u8 a7, .int .u8 a8, .int .u8 a9, .int .u8 a10, .int .u8 a11, .int .u8 a12, .int .u8 a13, .int .u8 a14, .int .u8 a15, .int .u8 a16, .int .u8 a17, .int .u8 a18, .int .u8 a19, .int .u8 a20, .slice ea ne ec] 41)).drew := ((Below.refl _ _).alloc (Nat.le_refl _) _).drew
      have nw : ((wr.alloc (.cells #[.int .u8 a0, .int .u8 a1, .int .u8 a3, .int .u8 a4, .int .u8 a5, .int .u8 a6, .int .u8 a7, .int .u8 a8, .int .u8 a9, .int .u8 a10, .int .u8 a11, .int .u8 a12, .int .u8 a13, .int .u8 a14, .int .u8 a15, .int .u8 a16, .int .u8 a17, .int .u8 a18, .int .u8 a19, .int .u8 a20, .slice ea ne ec] 41)).drew).rangeAt wr.heap.size 0 [.int .u8 a0, .int .u8 a1, .int .u8 a3, .int .u8 a4, .int .u8 a5, .int .u8 a6, .int .u8 a7, .int .u8 a8, .int .u8 a9, .int .u8 a10, .int .u8 a11, .int .u8 a12, .int .u8 a13, .int .u8 a14, .int .u8 a15, .int .u8 a16, .int .u8 a17, .int .u8 a18, .int .u8 a19, .int .u8 a20, .slice ea ne ec] := fun j v hv => (by
        show (wr.alloc (.cells ([.int .u8 a0, .int .u8 a1, .int .u8 a3, .int .u8 a4, .int .u8 a5, .int .u8 a6, .int .u8 a7, .int .u8 a8, .int .u8 a9, .int .u8 a10, .int .u8 a11, .int .u8 a12, .int .u8 a13, .int .u8 a14, .int .u8 a15, .int .u8 a16, .int .u8 a17, .int .u8 a18, .int .u8 a19, .int .u8 a20, .slice ea ne ec] : List Value).toArray 41)).cell? _ = _
        rw [Nat.zero_add, World.cell?_alloc_mark]; simpa using hv)
      refine hK.out _ _ ⟨cell_keep BA c41, cell_keep BA cE, tq.range_keep gx BA⟩ (fun hHeld => ?_)
      clear hK K
      have hs1 : ((wr.alloc (.cells #[.int .u8 a0, .int .u8 a1, .int .u8 a3, .int .u8 a4, .int .u8 a5, .int .u8 a6, .int .u8 a7, .int .u8 a8, .int .u8 a9, .int .u8 a10, .int .u8 a11, .int .u8 a12, .int .u8 a13, .int .u8 a14, .int .u8 a15, .int .u8 a16, .int .u8 a17, .int .u8 a18, .int .u8 a19, .int .u8 a20, .slice ea ne ec] 41)).drew).heap.size = wr.heap.size + 1 := by simp
      generalize (wr.alloc (.cells #[.int .u8 a0, .int .u8 a1, .int .u8 a3, .int .u8 a4, .int .u8 a5, .int .u8 a6, .int .u8 a7, .int .u8 a8, .int .u8 a9, .int .u8 a10, .int .u8 a11, .int .u8 a12, .int .u8 a13, .int .u8 a14, .int .u8 a15, .int .u8 a16, .int .u8 a17, .int .u8 a18, .int .u8 a19, .int .u8 a20, .slice ea ne ec] 41)).drew = W1 at *
      refine wpAnyB_one (i := 8) (by kernel_rfl) (by kernel_rfl) rfl (fun K hK => ?_)
      rw [if_pos (by kernel_rfl)]
      refine wp_append_rw (B := V0.heap.size) (n := i) (v := .slice va i vc) (xs := flatC enC (t.El.take i)) (g := wr.heap.size) (p := 0) (m := 1) (news := [.int .u8 a0, .int .u8 a1, .int .u8 a3, .int .u8 a4, .int .u8 a5, .int .u8 a6, .int .u8 a7, .int .u8 a8, .int .u8 a9, .int .u8 a10, .int .u8 a11, .int .u8 a12, .int .u8 a13, .int .u8 a14, .int .u8 a15, .int .u8 a16, .int .u8 a17, .int .u8 a18, .int .u8 a19, .int .u8 a20, .slice ea ne ec]) 21 48 28 41 Tryd.underlying28 rI_e (by decide) (.tmp 168) (.tmp 174) rfl rfl rfl (World.ownsRow.kept HG.out.2.2.2.1 (grown_of_below BA Option.none) (by cases (Value.slice va i vc).ownBlock <;> simp)) rfl (.inr rfl) (fun e => by cases e) nw (by intro u hu; simp only [List.mem_cons, List.not_mem_nil, or_false] at hu; rcases hu with h | h | h | h | h | h | h | h | h | h | h | h | h | h | h | h | h | h | h | h | h <;> (subst h; rfl)) (by unfold maxLen; have := EN.out; omega) (by have := EN.out; omega) (by have := HG.out.1.size; omega) ?_
      intro v' W2 ho hg hv
      obtain ⟨g2, cap2, rfl, hc2⟩ : ∃ g2 cap2, v' = .slice (some ⟨g2, 0, none⟩) (i + 1) cap2 ∧ i + 1 ≤ cap2 := by
        rcases ho.2 with ⟨_, h0⟩ | ⟨g2, cap2, _, x, _, _, y, _⟩
        · cases h0
        · exact ⟨g2, cap2, x, y⟩
      have rowN : ∀ k, (Value.slice va i vc).ownBlock = some k → V0.heap.size ≤ k := fun k hk => (World.ownsRow.lt HG.out.2.2.2.1 k hk).1
      have q1 : Wr V0 W2 b5 := wr_grown (HG.out.1.step BA) hg rowN
      have blk : ∀ x, x < V0.heap.size → W2.heap[x]? = wr.heap[x]? := fun x hx => (hg.block x (by have := HG.out.1.size; have := BA.size; omega) (fun e => by have := rowN x e.symm; omega)).trans (BA.block x (by have := HG.out.1.size; omega))
      have eb5 : W2.heap[b5]? = wr.heap[b5]? := blk b5 LU.out.1
      have lb0 : t.Eb < w.heap.size := range_ltT ((GR.out w (Below.refl _ _)).2.2.2.1.E.2.2 i (by rw [EN.out.1]; exact hlt)).2 (by rw [enC_len ((GR.out w (Below.refl _ _)).2.2.2.1.E.2.2 i (by rw [EN.out.1]; exact hlt)).1.1.1]; decide)
      have sV := BW.out.size
      have k41 : W2.cell? ⟨b5, 42, none⟩ = some (.slice va i vc) := (heap_cellJ eb5).trans c41
      refine hK.out _ _ ⟨k41, (heap_cellJ (blk w.heap.size (by have := LU.out; omega))).trans cE, tq.range_same gx (blk _ (by omega))⟩ (fun hHeld => ?_)
      clear hK K
      change wpAnyB _ _ _ _ _ _ _ _ (Act.put _ (some 175) _) W2
      simp only [Act.put, List.setIfInBounds_toArray, List.set_cons_succ, List.set_cons_zero]
      refine wpAnyB_takeD (i := 9) (oi := _) (v := .pointer (some ⟨b5, 42, none⟩)) 176 rfl rfl (by kernel_rfl) (by kernel_rfl) (by kernel_rfl) (by kernel_rfl) (fun _ _ _ h => h) (Or.inl ⟨by kernel_rfl, fun wq hSw => by obtain ⟨x0, x1, x2⟩ := hSw; go_simp⟩) (by assumption) ?_
      simp only [Act.put, List.setIfInBounds_toArray, List.set_cons_succ, List.set_cons_zero]
      have th2 : W2.there b5 0 61 := there_same HG.out.2.2.1 eb5
      have fz : W2.frozen? ⟨b5, 42, none⟩ = false := by have := (th2 42 (by decide)).2; rwa [Nat.zero_add] at this
      refine wpAnyB_bar (by kernel_rfl) rfl (fun K hK => ?_)
      rw [if_pos (by kernel_rfl)]
      go_simp
      refine hK.out _ _ ?_
      clear hK K
      refine wpAny_done (by kernel_rfl) ?_ _
      have LC : (CU.set 42 (.slice va i vc)).length = 61 := by rw [List.length_set, L61.out]
      have rs := rt_setJ (v := .slice (some ⟨g2, 0, none⟩) (i + 1) cap2) (i := 42) (tq.range_same HG.out.2.1 eb5) (by rw [LC]; exact th2) (by rw [LC]; decide)
      rw [LC, List.set_set] at rs
      have ll : (t.El.take (i + 1)).length = i + 1 := by rw [List.length_take, EN.out.1]; omega
      have on : W2.ownsRow V0.heap.size 41 21 (.slice (some ⟨g2, 0, none⟩) (i + 1) cap2) (i + 1) (flatC enC (t.El.take (i + 1))) := by
        rw [HNE.out] at ho
        rw [ts.out, flatC_app]; exact ho
      have NX : Hid (GtE V0 (W2.setCell ⟨b5, 42, none⟩ (.slice (some ⟨g2, 0, none⟩) (i + 1) cap2)) b5 CU (t.El.take (i + 1))) :=
        ⟨q1.set, _, _, by rw [ll]; exact rs.1, rs.2, by
          rw [ll]
          exact World.ownsRow.kept on (but_grownBy but_set) (by
            right
            intro e
            have := (World.ownsRow.lt on g2 rfl).1
            have e3 : g2 = b5 := Option.some.inj e
            have := LU.out
            omega)⟩
      clear rs ll on LC fz th2 k41 eb5 blk q1 rowN hc2 hHeld ho hg hv nw BA hs1 gx c41 HG lb0 sV cE
      generalize W2.setCell ⟨b5, 42, none⟩ (.slice (some ⟨g2, 0, none⟩) (i + 1) cap2) = W3 at *
      go_wp2
      go_roundg (n - (i + 1))
      case measure => have := HK.out; omega
      case rel => exact ⟨i + 1, rfl, hlt, by go_num, NX.out⟩
end Go.Proofs.YtllfmlgnemkklaaDoor

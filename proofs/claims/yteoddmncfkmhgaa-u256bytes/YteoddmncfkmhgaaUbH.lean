import Derived.Test.YteoddmncfkmhgaaUbG
/- U256Bytes: the law from the first loop on. -/
namespace Go.Proofs.Yteoddmncfkmhgaa
open Go.RowKit Go.Sort

theorem OwnB.at {B n c : Nat} {a : Option Addr} {W : World} {X : List Int} (h : OwnB B W (.slice a n c) X) : ∃ g, Az a g 0 X ∧ Bz W g 0 X := by
  obtain ⟨a', g', c', e, _, haz, hbz, _⟩ := h.lies
  injection e with e1 e2 e3
  subst e1
  exact ⟨g', haz, hbz⟩
theorem OwnB.some {B n cap : Nat} {a : Option Addr} {W : World} {L : List Int} (h : OwnB B W (.slice a n cap) L) (hn : L.length = n) (h0 : 0 < n) : ∃ g, a = Option.some ⟨g, 0, none⟩ := by
  rcases h.2 with ⟨e, h0'⟩ | ⟨g, cap', cur, e, _⟩
  · omega
  · injection e with e1 _ _
    exact ⟨g, e1⟩
theorem Hold.kept {W W' : World} {b : Nat} {n : Int} {row : Option Nat} (h : Hold W b n) (hg : W.grownBy W' row) (hn : row ≠ some b) : Hold W' b n := by
  have hb : b < W.heap.size := World.block_lt_of_cell? W _ h.1
  have e := hg.block b hb (fun q => hn q.symm)
  obtain ⟨q0, q1, q2, q3⟩ := h
  refine ⟨?_, ?_, ?_, ?_⟩
  · rw [World.cell?_of_block (w := W) (a := ⟨b, 0, none⟩) e]; exact q0
  · rw [World.cell?_of_block (w := W) (a := ⟨b, 1, none⟩) e]; exact q1
  · rw [World.cell?_of_block (w := W) (a := ⟨b, 2, none⟩) e]; exact q2
  · rw [World.cell?_of_block (w := W) (a := ⟨b, 3, none⟩) e]; exact q3
set_option maxRecDepth 100000 in
set_option maxHeartbeats 16000000 in
theorem ub_tail1 {a a5 a6 a7 : Option Addr} {bb ob c m bx l c5 c6 c7 b1 b2 b3 : Nat} {X L : List Int} {n : Int} (hN : Num n) (hL : stripL (putL n) = L) (hl : L.length = l) (hl2 : l ≤ 32) (hm : X.length = m) (hm2 : m ≤ 140737488351232) (hX : Byts X) (hZ : Az a bb ob X) (w W : World) (KL : ∀ W, Below w.heap.size w W → Bz W bb ob X)
    (q0 : w.heap.size ≤ b1) (q1 : bx < b1) (q2 : ∀ k, (Value.slice a5 l c5).ownBlock = some k → k < b2) (q3 : b2 ≤ b3) (o1 : OwnB b1 W (.slice a5 l c5) L) (hS : Below w.heap.size w W ∧ Hold W bx n ∧ OwnB b2 W (.slice a6 l c6) L ∧ OwnB b3 W (.slice a7 l c7) L ∧ b1 ≤ W.heap.size) (t0 t3 t8 t9 t10 t11 t12 t13 t14 t15 t16 t17 t18 t19 t20 t21 t22 t23 t24 t25 t26 t27 t28 t29 t30 t31 t32 t33 t34 t35 t36 t37 t38 t39 t40 t41 t42 t43 t44 t45 t46 t47 t48 t49 t50 t51 t52 t53 t54 t55 t56 t57 t58 t59 t60 t61 t62 t63 t64 t65 t66 t67 t68 t69 t70 t71 t72 t73 t74 t75 t76 t77 t78 t79 t80 t81 t82 t83 t84 t85 t86 t87 t88 t89 t90 t91 t92 t93 t94 t95 t96 t97 t98 t99 t100 t101 t102 t103 t104 t105 t106 t107 t108 t109 t110 t111 t112 t113 t114 t115 t116 t117 t118 t119 t120 t121 t122 t123 t124 t125 t126 t127 t128 t129 t130 t131 t132 t133 t134 t135 t136 t137 t138 t139 t140 t141 t142 t143 t144 t145 t146 t147 t148 t149 t150 t151 t152 t153 t154 t155 t156 t157 t158 t159 t160 t161 : Value) :
    WpFrom Try.prog Try.f3 6 (bodyPost Try.prog Try.f3 fun e w' => e = .returned (.bool true) ∧ Below w.heap.size w w') { tmps := #[t0, .slice a m c, .pointer (some ⟨bx, 0, none⟩), t3, .bool false, .slice a5 l c5, .slice a6 l c6, .slice a7 l c7, t8, t9, t10, t11, t12, t13, t14, t15, t16, t17, t18, t19, t20, t21, t22, t23, t24, t25, t26, t27, t28, t29, t30, t31, t32, t33, t34, t35, t36, t37, t38, t39, t40, t41, t42, t43, t44, t45, t46, t47, t48, t49, t50, t51, t52, t53, t54, t55, t56, t57, t58, t59, t60, t61, t62, t63, t64, t65, t66, t67, t68, t69, t70, t71, t72, t73, t74, t75, t76, t77, t78, t79, t80, t81, t82, t83, t84, t85, t86, t87, t88, t89, t90, t91, t92, t93, t94, t95, t96, t97, t98, t99, t100, t101, t102, t103, t104, t105, t106, t107, t108, t109, t110, t111, t112, t113, t114, t115, t116, t117, t118, t119, t120, t121, t122, t123, t124, t125, t126, t127, t128, t129, t130, t131, t132, t133, t134, t135, t136, t137, t138, t139, t140, t141, t142, t143, t144, t145, t146, t147, t148, t149, t150, t151, t152, t153, t154, t155, t156, t157, t158, t159, t160, t161], defers := [] } W := by
  refine WpFrom.intro rfl ?_
  have HA : Hid (X.length = m ∧ m ≤ 140737488351232 ∧ Byts X ∧ Az a bb ob X ∧ ∀ W, Below w.heap.size w W → Bz W bb ob X) := ⟨hm, hm2, hX, hZ, KL⟩
  have HH : Hid (Num n ∧ stripL (putL n) = L ∧ L.length = l ∧ l ≤ 32 ∧ w.heap.size ≤ b1 ∧ bx < b1 ∧ (∀ k, (Value.slice a5 l c5).ownBlock = some k → k < b2) ∧ b2 ≤ b3) := ⟨hN, hL, hl, hl2, q0, q1, q2, q3⟩
  have S0 : Hid (OwnB b1 W (.slice a5 l c5) L ∧ (Below w.heap.size w W ∧ Hold W bx n ∧ OwnB b2 W (.slice a6 l c6) L ∧ OwnB b3 W (.slice a7 l c7) L ∧ b1 ≤ W.heap.size)) := ⟨o1, hS⟩
  have l8 : (l : Int) ≤ 32 := by omega
  clear hN hL hl hl2 hm hm2 hX hZ KL q0 q1 q2 q3 o1 hS
  refine wp_seq_k fun K6 h6 => ?_
  have H6 : Hid _ := h6
  clear h6
  go_wp2_with fail
  go_loopg [8] l (fun k iv wr => ∃ i : Nat, k = l - i ∧ i ≤ l ∧ iv = .int .i64 i ∧ (∃ L1 : List Int, L1.length = l ∧ OwnB b1 wr (.slice a5 l c5) L1) ∧ Below w.heap.size w wr ∧ Hold wr bx n ∧ OwnB b2 wr (.slice a6 l c6) L ∧ OwnB b3 wr (.slice a7 l c7) L ∧ b1 ≤ wr.heap.size)
  case atStart => exact ⟨0, rfl, Nat.zero_le _, rfl, ⟨L, HH.out.2.2.1, S0.out.1⟩, S0.out.2⟩
  case round =>
    clear S0
    obtain ⟨i, hk, hi, rfl, ⟨L1, hL1, O1⟩, hS⟩ := hrel
    have HK : Hid (gk = l - i) := hk
    have SR : Hid (OwnB b1 wr (.slice a5 l c5) L1 ∧ L1.length = l ∧ Below w.heap.size w wr ∧ Hold wr bx n ∧ OwnB b2 wr (.slice a6 l c6) L ∧ OwnB b3 wr (.slice a7 l c7) L ∧ b1 ≤ wr.heap.size) := ⟨O1, hL1, hS⟩
    clear hk O1 hL1 hS
    by_cases h8 : i = l
    · subst h8
      clear HK
      go_wp2
      refine H6.out _ _ ?_
      clear H6
      refine wp_seq_k fun K7 h7 => ?_
      have H7 : Hid _ := h7
      clear h7
      go_wp2_with fail
      have DD : Hid (∀ k, (Value.slice a5 i c5).ownBlock = some k → (Value.slice a6 i c6).ownBlock ≠ some k ∧ (Value.slice a7 i c7).ownBlock ≠ some k) := fun k hk => by
        have q2 := HH.out.2.2.2.2.2.2.1 k hk
        refine ⟨fun e => ?_, fun e => ?_⟩
        · have := SR.out.2.2.2.2.1.lt k e; omega
        · have := SR.out.2.2.2.2.2.1.lt k e; have := HH.out.2.2.2.2.2.2.2; omega
      obtain ⟨i0, hi0, hz0, hz1, hz2⟩ := info_parts info_byte
      go_loopg [5, 9] 64 (fun k lv iv wr => ∃ j : Nat, k = 64 - j ∧ j ≤ 64 ∧ iv = .int .i64 j ∧ (∃ L1 : List Int, L1.length = i + j ∧ OwnB b1 wr lv L1) ∧ (∀ k, lv.ownBlock = some k → (Value.slice a6 i c6).ownBlock ≠ some k ∧ (Value.slice a7 i c7).ownBlock ≠ some k) ∧ Below w.heap.size w wr ∧ Hold wr bx n ∧ OwnB b2 wr (.slice a6 i c6) L ∧ OwnB b3 wr (.slice a7 i c7) L ∧ b1 ≤ wr.heap.size)
      case atStart => exact ⟨0, rfl, Nat.zero_le _, rfl, ⟨L1, SR.out.2.1, SR.out.1⟩, DD.out, SR.out.2.2⟩
      case round =>
        clear SR DD
        obtain ⟨j, hk, hj, rfl, ⟨L2, hL2, O1⟩, QD, hS⟩ := hrel
        have HK : Hid (gk = 64 - j) := hk
        have SR : Hid (OwnB b1 wr u5 L2 ∧ L2.length = i + j ∧ (∀ k, u5.ownBlock = some k → (Value.slice a6 i c6).ownBlock ≠ some k ∧ (Value.slice a7 i c7).ownBlock ≠ some k) ∧ Below w.heap.size w wr ∧ Hold wr bx n ∧ OwnB b2 wr (.slice a6 i c6) L ∧ OwnB b3 wr (.slice a7 i c7) L ∧ b1 ≤ wr.heap.size) := ⟨O1, hL2, QD, hS⟩
        clear hk O1 hL2 QD hS
        by_cases h9 : j = 64
        · subst h9
          clear HK
          go_wp2
          refine H7.out _ _ ?_
          clear H7
          refine wp_seq_k fun K8 h8 => ?_
          have H8 : Hid _ := h8
          clear h8
          obtain ⟨gy, zy, yy⟩ := SR.out.2.2.2.2.2.1.at
          obtain ⟨gz, zz, yz⟩ := SR.out.2.2.2.2.2.2.1.at
          have ll : L.length < 281474976710656 := by rw [HH.out.2.2.1]; have := HH.out.2.2.2.1; omega
          have hc := usame_any (c := c6) (c' := c7) ll zy zz wr yy yz
          rw [HH.out.2.2.1, decide_eq_true rfl] at hc
          go_wp2_with fail
          with_reducible refine hc.mono ?_
          rintro e w5 ⟨rfl, BN⟩
          have S5 : Hid (Below w.heap.size w w5 ∧ Hold w5 bx n ∧ OwnB b3 w5 (.slice a7 i c7) L) := ⟨SR.out.2.2.2.1.trans (BN.mono SR.out.2.2.2.1.size), SR.out.2.2.2.2.1.keep BN, SR.out.2.2.2.2.2.2.1.keep BN⟩
          clear hc BN SR zy yy zz yz
          obtain ⟨x0, x1, x2, x3⟩ := S5.out.2.1
          have hb := bytes_any HH.out.1 w5
          rw [HH.out.2.1] at hb
          go_wp2_with fail
          with_reducible refine hb.mono ?_
          rintro e w6 ⟨v6, rfl, O6, BN⟩
          have S6 : Hid (Below w.heap.size w w6 ∧ OwnB b3 w6 (.slice a7 i c7) L) := ⟨S5.out.1.trans (BN.mono S5.out.1.size), S5.out.2.2.keep BN⟩
          clear hb BN S5 x0 x1 x2 x3
          obtain ⟨a9, g9, c9, rfl, _, z9, y9, _, _, _⟩ := O6.lies
          obtain ⟨gz, zz, yz⟩ := S6.out.2.at
          have hc := usame_any (c := c9) (c' := c7) ll z9 zz w6 y9 yz
          rw [HH.out.2.2.1, decide_eq_true rfl] at hc
          rw [HH.out.2.2.1]
          go_wp2_with fail
          with_reducible refine hc.mono ?_
          rintro e w7 ⟨rfl, BN⟩
          have S7 : Hid (Below w.heap.size w w7) := S6.out.1.trans (BN.mono S6.out.1.size)
          clear hc BN S6 O6 z9 y9 zz yz
          (try go_wp2)
          refine H8.out _ _ ?_
          exact (ub_tail2 HA.out.1 HA.out.2.1 HA.out.2.2.1 HA.out.2.2.2.1 w w7 S7.out HA.out.2.2.2.2 _ _ _ _ _ _ _ _ _ _ _ _ _ _ _ _ _ _ _ _ _ _ _ _ _ _ _ _ _ _ _ _ _ _ _ _ _ _ _ _ _ _ _ _ _ _ _ _ _ _ _ _ _ _ _ _ _ _ _ _ _ _ _ _ _ _ _ _ _ _ _ _ _ _ _ _ _ _ _ _ _ _ _ _ _ _ _ _ _ _ _ _ _ _ _ _ _ _ _ _ _ _ _ _ _ _ _ _ _ _ _ _ _ _ _ _ _ _ _ _ _ _ _ _ _ _ _ _ _ _ _ _ _ _ _ _ _ _ _ _ _ _ _ _ _ _ _ _ _ _ _ _ _ _ _ _ _ _ _ _).out rfl
        · have hlt : j < 64 := by omega
          have hlt' : (j : Int) < 64 := by omega
          have IM : Hid (i ≤ 32) := HH.out.2.2.2.1
          go_wp2_with ((at_builtin; go_loud (refine wpList_append_own_at _ rfl _ _ 25 rfl b1 5 i0 (.int .u8 0) 1 1 Try.underlying25 hi0 hz0 hz1 hz2 rfl (by decide) u5 _ _ rfl (SR.out.1.alloc _).row ⟨wr.heap.size, 0, none⟩ 1 1 [.int .u8 8] rfl rfl (cell_one_new _ _ _) (fun u hu => by simp at hu; subst hu; rfl) (by unfold maxLen; have := SR.out.2.1; have := IM.out; omega) (by have := SR.out.2.1; have := IM.out; omega) (by have := SR.out.2.2.2.2.2.2.2; simp; omega) ?_); intro v' w4 hown' hgrow4 hnil4 hblk4))
          have N4 : Hid ((∃ L3 : List Int, L3.length = i + (j + 1) ∧ OwnB b1 w4 v' L3) ∧ (∀ k, v'.ownBlock = some k → (Value.slice a6 i c6).ownBlock ≠ some k ∧ (Value.slice a7 i c7).ownBlock ≠ some k) ∧ Below w.heap.size w w4 ∧ Hold w4 bx n ∧ OwnB b2 w4 (.slice a6 i c6) L ∧ OwnB b3 w4 (.slice a7 i c7) L ∧ b1 ≤ w4.heap.size) := by
            have sz := hgrow4.size
            have sz2 : wr.heap.size ≤ w4.heap.size := Nat.le_trans (by simp) sz
            have q0 := HH.out.2.2.2.2.1
            have q1 := HH.out.2.2.2.2.2.1
            refine ⟨⟨L2 ++ [8], by rw [List.length_append, SR.out.2.1]; rfl, ?_⟩, fun k hk => ?_, (SR.out.2.2.2.1.alloc SR.out.2.2.2.1.size _).grown hgrow4 (by have := SR.out.2.2.2.1.size; simp; omega) (fun k hk => ?_), (SR.out.2.2.2.2.1.alloc _).kept hgrow4 (fun e => ?_), ?_, ?_, Nat.le_trans SR.out.2.2.2.2.2.2.2 sz2⟩
            · rw [OwnB, List.length_append, List.map_append]
              exact hown'
            · rcases hblk4 with e | e
              · exact SR.out.2.2.1 k (e ▸ hk)
              · rw [e] at hk
                have hk' := Option.some.inj hk
                simp at hk'
                refine ⟨fun e2 => ?_, fun e2 => ?_⟩
                · have := (SR.out.2.2.2.2.2.1.lt k e2).2; omega
                · have := (SR.out.2.2.2.2.2.2.1.lt k e2).2; omega
            · have := (SR.out.1.lt k hk).1; omega
            · have := (SR.out.1.lt _ e).1; omega
            · exact (SR.out.2.2.2.2.2.1.alloc _).kept hgrow4 (fun k hk e => (SR.out.2.2.1 k e).1 hk)
            · exact (SR.out.2.2.2.2.2.2.1.alloc _).kept hgrow4 (fun k hk e => (SR.out.2.2.1 k e).2 hk)
          clear hown' hgrow4 hnil4 hblk4 SR
          go_roundg (64 - (j + 1))
          case measure => have := HK.out; omega
          case rel => exact ⟨j + 1, rfl, by omega, by go_num, N4.out⟩
    · have hlt : i < l := by omega
      have hlt' : (i : Int) < (l : Int) := by omega
      obtain ⟨gg, rfl⟩ := SR.out.1.some SR.out.2.1 (by omega)
      have ob := SR.out.1.lt gg rfl
      have f1 := SR.out.1.free SR.out.2.1 i
      have cc1 := SR.out.1.cell SR.out.2.1 hlt
      obtain ⟨n1, G⟩ := SR.out.1.set SR.out.2.1 i 7
      have NX : Hid ((∃ L2 : List Int, L2.length = l ∧ OwnB b1 (wr.setCell ⟨gg, i, none⟩ (.int .u8 7)) (.slice (some ⟨gg, 0, none⟩) l c5) L2) ∧ Below w.heap.size w (wr.setCell ⟨gg, i, none⟩ (.int .u8 7)) ∧ Hold (wr.setCell ⟨gg, i, none⟩ (.int .u8 7)) bx n ∧ OwnB b2 (wr.setCell ⟨gg, i, none⟩ (.int .u8 7)) (.slice a6 l c6) L ∧ OwnB b3 (wr.setCell ⟨gg, i, none⟩ (.int .u8 7)) (.slice a7 l c7) L ∧ b1 ≤ (wr.setCell ⟨gg, i, none⟩ (.int .u8 7)).heap.size) := by
        have q2 := HH.out.2.2.2.2.2.2.1 gg rfl
        have q3 := HH.out.2.2.2.2.2.2.2
        have q0 := HH.out.2.2.2.2.1
        have q1 := HH.out.2.2.2.2.2.1
        refine ⟨⟨L1.set i 7, by rw [List.length_set]; exact SR.out.2.1, n1⟩, SR.out.2.2.1.grown G SR.out.2.2.1.size (fun k hk => ?_), SR.out.2.2.2.1.kept G (fun e => ?_), SR.out.2.2.2.2.1.kept G (fun k hk e => ?_), SR.out.2.2.2.2.2.1.kept G (fun k hk e => ?_), Nat.le_trans SR.out.2.2.2.2.2.2 G.size⟩
        · have := Option.some.inj hk; omega
        · have := Option.some.inj e; omega
        · have := Option.some.inj e; have := SR.out.2.2.2.2.1.lt k hk; omega
        · have := Option.some.inj e; have := SR.out.2.2.2.2.2.1.lt k hk; omega
      generalize L1.getD i 0 = xx at cc1
      clear SR h8 G ob n1
      go_wp2
      go_roundg (l - (i + 1))
      case measure => have := HK.out; omega
      case rel => exact ⟨i + 1, rfl, by omega, by go_num, NX.out⟩
end Go.Proofs.Yteoddmncfkmhgaa

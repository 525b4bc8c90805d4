import Derived.Test.YtagcbcmbojggkaaDoorFIvY
import Derived.Laws.OwnMore
/- FieldInverses: the marks, and the answers written over. -/
namespace Go.Proofs.YtagcbcmbojggkaaDoor
open Go.RowKit Go.Sort

theorem numsV_set : ∀ (L : List Int) (i : Nat) (x : Int), ((((numsV L).set (i * 4) (.int .u64 (l0 x))).set (i * 4 + 1) (.int .u64 (l1 x))).set (i * 4 + 2) (.int .u64 (l2 x))).set (i * 4 + 3) (.int .u64 (l3 x)) = numsV (L.set i x)
  | [], i, x => by simp [numsV]
  | n :: L, 0, x => by simp [numsV]
  | n :: L, i + 1, x => by
    rw [show (i + 1) * 4 = i * 4 + 1 + 1 + 1 + 1 by omega]
    simp only [numsV, List.set_cons_succ]
    rw [← numsV_set L i x]
theorem OwnU.sets {B g m c i : Nat} {W : World} {P : List Int} (h : OwnU B W (.slice (some ⟨g, 0, Option.none⟩) m c) P) (hm : P.length = m) (x : Int) :
    OwnU B ((((W.setCell ⟨g, i * 4, Option.none⟩ (.int .u64 (l0 x))).setCell ⟨g, i * 4 + 1, Option.none⟩ (.int .u64 (l1 x))).setCell ⟨g, i * 4 + 2, Option.none⟩ (.int .u64 (l2 x))).setCell ⟨g, i * 4 + 3, Option.none⟩ (.int .u64 (l3 x))) (.slice (some ⟨g, 0, Option.none⟩) m c) (P.set i x) ∧ W.grownBy ((((W.setCell ⟨g, i * 4, Option.none⟩ (.int .u64 (l0 x))).setCell ⟨g, i * 4 + 1, Option.none⟩ (.int .u64 (l1 x))).setCell ⟨g, i * 4 + 2, Option.none⟩ (.int .u64 (l2 x))).setCell ⟨g, i * 4 + 3, Option.none⟩ (.int .u64 (l3 x))) (some g) := by
  have h0 : W.ownsRow B 25 4 (.slice (some ⟨g, 0, Option.none⟩) m c) m (numsV P) := by rw [← hm]; rw [← hm] at h; exact h
  obtain ⟨s0, r0⟩ := h0.stored (i * 4) (.int .u64 (l0 x))
  obtain ⟨s1, r1⟩ := s0.stored (i * 4 + 1) (.int .u64 (l1 x))
  obtain ⟨s2, r2⟩ := s1.stored (i * 4 + 2) (.int .u64 (l2 x))
  obtain ⟨s3, r3⟩ := s2.stored (i * 4 + 3) (.int .u64 (l3 x))
  rw [numsV_set] at s3
  refine ⟨?_, ((r0.trans r1).trans r2).trans r3⟩
  rw [OwnU, List.length_set, hm]
  exact s3
theorem Own4.kept {W W' : World} {b : Nat} {L : List Int} {row : Option Nat} (h : Own4 W b L) (hg : W.grownBy W' row) (hn : row ≠ some b) : Own4 W' b L := by
  have e : W'.heap[b]? = W.heap[b]? := hg.block b h.lt (fun q => hn q.symm)
  have c : ∀ j, W'.cell? ⟨b, j, none⟩ = W.cell? ⟨b, j, none⟩ := fun j => World.cell?_of_block (w := W) (a := ⟨b, j, none⟩) e
  obtain ⟨cs, h1, h2⟩ := h.2.2
  refine ⟨fun i hi => ?_, fun i _ => frozen_of_row W' b i _ _ (e.trans h1), ⟨cs, e.trans h1, h2⟩⟩
  rw [c, c, c, c]
  exact h.1 i hi
/-- The lists that the law holds: the full one, and three answers. -/
structure St (w W : World) (gf : Nat) (FL R : List Int) (v1 v2 v3 : Value) (P : List Int) : Prop where
  B : Below w.heap.size w W
  F : Own4 W gf FL
  p1 : OwnU w.heap.size W v1 P
  p2 : OwnU w.heap.size W v2 R
  p3 : OwnU w.heap.size W v3 R
  d : ∀ k, v1.ownBlock = some k → v2.ownBlock ≠ some k ∧ v3.ownBlock ≠ some k ∧ gf ≠ k
theorem St.keep {w W W' : World} {gf : Nat} {FL R P : List Int} {v1 v2 v3 : Value} (h : St w W gf FL R v1 v2 v3 P) (hb : Below W.heap.size W W') : St w W' gf FL R v1 v2 v3 P :=
  ⟨h.B.trans (hb.mono h.B.size), h.F.keep hb, h.p1.keep hb, h.p2.keep hb, h.p3.keep hb, h.d⟩
theorem St.grow {w W W' : World} {gf : Nat} {FL R P P' : List Int} {v1 v2 v3 v' : Value} (h : St w W gf FL R v1 v2 v3 P) (hg : W.grownBy W' v1.ownBlock) (o : OwnU w.heap.size W' v' P') (hb : v'.ownBlock = v1.ownBlock ∨ ∃ k, v'.ownBlock = some k ∧ W.heap.size ≤ k) : St w W' gf FL R v' v2 v3 P' where
  B := h.B.grown hg h.B.size (fun k hk => (h.p1.row.lt k hk).1)
  F := h.F.kept hg (fun e => (h.d gf e).2.2 rfl)
  p1 := o
  p2 := h.p2.kept hg (fun k hk e => (h.d k e).1 hk)
  p3 := h.p3.kept hg (fun k hk e => (h.d k e).2.1 hk)
  d := fun k hk => by
    rcases hb with q | ⟨k', q, hk'⟩
    · exact h.d k (q ▸ hk)
    · rw [q] at hk
      have e := Option.some.inj hk
      exact ⟨fun f => by have := (h.p2.row.lt k f).2; omega, fun f => by have := (h.p3.row.lt k f).2; omega, fun f => by have := h.F.lt; omega⟩
def sevN : Int := 7 + 7 * 18446744073709551616 + 7 * 340282366920938463463374607431768211456 + 7 * 6277101735386680763835789423207666416102355444464034512896
theorem limbs_sev : l0 sevN = 7 ∧ l1 sevN = 7 ∧ l2 sevN = 7 ∧ l3 sevN = 7 := by decide
set_option maxRecDepth 100000 in
set_option maxHeartbeats 16000000 in
theorem fivs_x {k : Int} {n m g o cap gf cf c1 c2 c3 : Nat} {a a1 a2 a3 : Option Addr} {L R FL : List Int} (hn : L.length = n) (hn4 : n ≤ 4398046511104) (hm : R.length = m) (hm6 : m ≤ 65536) (hfl : FL.length = n + 9) (hft : FL.take n = L) (hsev : ∀ i, n ≤ i → i < n + 9 → FL.getD i 0 = sevN) (hN : ∀ i, i < FL.length → Num (FL.getD i 0)) (ha : At4 a g o L) (w W : World) (hD : Mds w) (hL : Nms w g o L) (hge : w.heap.size ≤ gf) (hs : St w W gf FL R (.slice a1 m c1) (.slice a2 m c2) (.slice a3 m c3) R) (t2 t3 t4 t6 t9 t11 t13 t14 t15 t16 t17 t18 t19 t20 t21 t22 t23 t24 t25 t26 t27 t28 t29 t30 t31 t32 t33 t34 t35 t36 t37 t38 t39 t40 t41 t42 t43 t44 t45 t46 t47 t48 t49 t50 t51 t52 t53 t54 t55 t56 t57 t58 t59 t60 t61 t62 t63 t64 t65 t66 t67 t68 t69 t70 t71 t72 t73 t74 t75 t76 t77 t78 t79 t80 t81 t82 t83 t84 t85 t86 t87 t88 t89 t90 t91 t92 t93 t94 t95 t96 t97 t98 t99 t100 t101 t102 t103 t104 t105 t106 t107 t108 t109 t110 t111 t112 t113 t114 t115 t116 t117 t118 t119 t120 t121 t122 t123 t124 t125 t126 t127 t128 t129 t130 t131 t132 t133 t134 t135 t136 t137 t138 t139 t140 t141 t142 t143 t144 t145 t146 t147 t148 t149 t150 t151 t152 t153 t154 t155 t156 t157 t158 t159 t160 t161 t162 t163 t164 t165 t166 t167 t168 t169 t170 t171 t172 t173 t174 t175 t176 t177 t178 t179 t180 : Value) :
    WpFrom Tryd.prog Tryd.f3 10 (bodyPost Tryd.prog Tryd.f3 fun e w' => e = .returned (.bool true) ∧ Below w.heap.size w w') { tmps := #[.int .i64 k, .slice a n cap, t2, t3, t4, .slice (some ⟨gf, 0, none⟩) (n + 9) (n + 9), t6, .slice (some ⟨gf, 0, none⟩) n cf, .slice a1 m c1, t9, .slice a2 m c2, t11, .slice a3 m c3, t13, t14, t15, t16, t17, t18, t19, t20, t21, t22, t23, t24, t25, t26, t27, t28, t29, t30, t31, t32, t33, t34, t35, t36, t37, t38, t39, t40, t41, t42, t43, t44, t45, t46, t47, t48, t49, t50, t51, t52, t53, t54, t55, t56, t57, t58, t59, t60, t61, t62, t63, t64, t65, t66, t67, t68, t69, t70, t71, t72, t73, t74, t75, t76, t77, t78, t79, t80, t81, t82, t83, t84, t85, t86, t87, t88, t89, t90, t91, t92, t93, t94, t95, t96, t97, t98, t99, t100, t101, t102, t103, t104, t105, t106, t107, t108, t109, t110, t111, t112, t113, t114, t115, t116, t117, t118, t119, t120, t121, t122, t123, t124, t125, t126, t127, t128, t129, t130, t131, t132, t133, t134, t135, t136, t137, t138, t139, t140, t141, t142, t143, t144, t145, t146, t147, t148, t149, t150, t151, t152, t153, t154, t155, t156, t157, t158, t159, t160, t161, t162, t163, t164, t165, t166, t167, t168, t169, t170, t171, t172, t173, t174, t175, t176, t177, t178, t179, t180], defers := [] } W := by
  refine WpFrom.intro rfl ?_
  have HN : Hid (L.length = n ∧ n ≤ 4398046511104 ∧ R.length = m ∧ m ≤ 65536 ∧ FL.length = n + 9 ∧ FL.take n = L ∧ (∀ i, i < FL.length → Num (FL.getD i 0)) ∧ At4 a g o L ∧ Mds w ∧ Nms w g o L ∧ w.heap.size ≤ gf) := ⟨hn, hn4, hm, hm6, hfl, hft, hN, ha, hD, hL, hge⟩
  have HV : Hid (∀ i, n ≤ i → i < n + 9 → FL.getD i 0 = sevN) := hsev
  have HS : Hid (St w W gf FL R (.slice a1 m c1) (.slice a2 m c2) (.slice a3 m c3) R) := hs
  have n4 : (n : Int) ≤ 4398046511104 := by omega
  have m6 : (m : Int) ≤ 65536 := by omega
  have ey : ∀ w, (Op.equalIn 10000 25 (.agg #[.int .u64 7, .int .u64 7, .int .u64 7, .int .u64 7]) (.agg #[.int .u64 7, .int .u64 7, .int .u64 7, .int .u64 7])).run Tryd.prog w = .ok true w := fun w => by
    have h := eq_yes (n := sevN) w
    obtain ⟨r0, r1, r2, r3⟩ := limbs_sev
    rw [r0, r1, r2, r3] at h
    exact h
  obtain ⟨i0, hi, hz0, hz1, hz2⟩ := info_parts info_num
  have HZ : Hid (Tryd.prog.info? 25 = some i0 ∧ i0.zero = some (.agg #[.int .u64 0, .int .u64 0, .int .u64 0, .int .u64 0]) ∧ i0.size = 4 ∧ i0.bytes = 32) := ⟨hi, hz0, hz1, hz2⟩
  clear hn hn4 hm hm6 hfl hft hN ha hD hL hge hs hsev hi hz0 hz1 hz2
  refine wp_seq_k fun K1 h1 => ?_
  have H1 : Hid _ := h1
  clear h1
  go_wp2_with fail
  go_loopg [14] 9 (fun q iv wr => ∃ i : Nat, q = n + 9 - i ∧ n ≤ i ∧ i ≤ n + 9 ∧ iv = .int .i64 (i : Int) ∧ wr = W)
  case atStart => exact ⟨n, by omega, Nat.le_refl _, by omega, rfl, rfl⟩
  case round =>
    obtain ⟨i, hk, hi1, hi9, rfl, rfl⟩ := hrel
    have HK : Hid (gk = n + 9 - i ∧ n ≤ i) := ⟨hk, hi1⟩
    clear hk
    by_cases h8 : i < n + 9
    · have hlt : (i : Int) < (n : Int) + 9 := by omega
      have gA := HS.out.F.1 i (by rw [HN.out.2.2.2.2.1]; exact h8)
      rw [HV.out i hi1 h8] at gA
      obtain ⟨r0, r1, r2, r3⟩ := limbs_sev
      rw [r0, r1, r2, r3] at gA
      simp only [Nat.zero_add] at gA
      have HX : Hid (i < n + 9) := h8
      clear h8 hi1 hi9 r0 r1 r2 r3
      go_wp2
      go_roundg (n + 9 - (i + 1))
      case measure => have := HK.out; have := HX.out; omega
      case rel => exact ⟨i + 1, rfl, by have := HK.out; omega, HX.out, by go_num, rfl⟩
    · obtain rfl : i = n + 9 := by omega
      clear h8 hi1 hi9 HK
      go_wp2
      refine H1.out _ _ ?_
      clear H1 HV ey
      refine wp_seq_k fun K2 h2 => ?_
      have H2 : Hid _ := h2
      clear h2
      go_wp2_with fail
      go_loopg [15] m (fun q iv wr => ∃ (i : Nat) (P : List Int), q = m - i ∧ i ≤ m ∧ iv = .int .i64 (i : Int) ∧ St w wr gf FL R (.slice a1 m c1) (.slice a2 m c2) (.slice a3 m c3) P ∧ P.length = m)
      case atStart => exact ⟨0, R, rfl, Nat.zero_le _, rfl, HS.out, HN.out.2.2.1⟩
      case round =>
        clear HS
        obtain ⟨i, P, hk, hi9, rfl, hS, hP⟩ := hrel
        have HK : Hid (gk = m - i ∧ i ≤ m) := ⟨hk, hi9⟩
        have HS : Hid (St w wr gf FL R (.slice a1 m c1) (.slice a2 m c2) (.slice a3 m c3) P ∧ P.length = m) := ⟨hS, hP⟩
        clear hk
        by_cases h8 : i < m
        · have hlt : (i : Int) < (m : Int) := by omega
          obtain ⟨aa, g1, cc, ee, z1, y1, _⟩ := hS.p1.lies
          injection ee with e1 e2 e3
          subst e1 e3
          obtain rfl := z1.get (i := i) (by omega)
          have gA := y1 i (by omega)
          have hrow := hS.p1.row
          rw [hP] at hrow
          have f0 := World.ownsRow.frozenAt hrow (i * 4)
          have f1 := World.ownsRow.frozenAt hrow (i * 4 + 1)
          have f2 := World.ownsRow.frozenAt hrow (i * 4 + 2)
          have f3 := World.ownsRow.frozenAt hrow (i * 4 + 3)
          simp only [Nat.zero_add] at gA
          have SE := hS.p1.sets (i := i) hP 8
          obtain ⟨r0, r1, r2, r3⟩ := from_val (v := 8) ⟨by decide, by decide⟩
          rw [r0, r1, r2, r3] at SE
          have HE : Hid (St w ((((wr.setCell ⟨g1, i * 4, none⟩ (.int .u64 8)).setCell ⟨g1, i * 4 + 1, none⟩ (.int .u64 0)).setCell ⟨g1, i * 4 + 2, none⟩ (.int .u64 0)).setCell ⟨g1, i * 4 + 3, none⟩ (.int .u64 0)) gf FL R (.slice (some ⟨g1, 0, none⟩) m c1) (.slice a2 m c2) (.slice a3 m c3) (P.set i 8) ∧ (P.set i 8).length = m) := ⟨hS.grow SE.2 SE.1 (.inl rfl), by rw [List.length_set]; exact hP⟩
          have HX : Hid (i < m) := h8
          clear SE r0 r1 r2 r3 h8 hi9 z1 y1 e2 hS hP hrow
          generalize P.getD i 0 = x at gA
          go_wp2
          go_roundg (m - (i + 1))
          case measure => have := HK.out; have := HX.out; omega
          case rel => exact ⟨i + 1, P.set i 8, rfl, HX.out, by go_num, HE.out.1, HE.out.2⟩
        · obtain rfl : m = i := by omega
          clear h8 hi9 HK hS hP
          go_wp2
          refine H2.out _ _ ?_
          clear H2
          refine wp_seq_k fun K3 h3 => ?_
          have H3 : Hid _ := h3
          clear h3
          go_wp2
          refine H3.out _ _ ?_
          clear H3
          refine wp_seq_k fun K4 h4 => ?_
          have H4 : Hid _ := h4
          clear h4
          go_wp2_with fail
          go_loopg [16, 17] 64 (fun q vx iv wr => ∃ (i : Nat) (P : List Int), q = 64 - i ∧ i ≤ 64 ∧ iv = .int .i64 (i : Int) ∧ St w wr gf FL R vx (.slice a2 m c2) (.slice a3 m c3) P ∧ P.length = m + i)
          case atStart => exact ⟨0, P, rfl, Nat.zero_le _, rfl, HS.out.1, HS.out.2⟩
          case round =>
            clear HS
            obtain ⟨i, P, hk, hi9, rfl, hS, hP⟩ := hrel
            have HK : Hid (gk = 64 - i ∧ i ≤ 64) := ⟨hk, hi9⟩
            have HS : Hid (St w wr gf FL R u16 (.slice a2 m c2) (.slice a3 m c3) P ∧ P.length = m + i ∧ m ≤ 65536) := ⟨hS, hP, by omega⟩
            clear hk hS hP
            by_cases h8 : i < 64
            · have hlt : (i : Int) < 64 := by omega
              obtain ⟨r0, r1, r2, r3⟩ := from_val (v := 9) ⟨by decide, by decide⟩
              have HR : Hid (l0 9 = 9 ∧ l1 9 = 0 ∧ l2 9 = 0 ∧ l3 9 = 0) := ⟨r0, r1, r2, r3⟩
              have HX : Hid (i < 64) := h8
              clear r0 r1 r2 r3 h8 hi9
              go_wp2_with (at_builtin; (refine wpList_append_own_at _ rfl _ _ 22 rfl w.heap.size 25 i0 (.agg #[.int .u64 0, .int .u64 0, .int .u64 0, .int .u64 0]) 4 32 Tryd.underlying22 HZ.out.1 HZ.out.2.1 HZ.out.2.2.1 HZ.out.2.2.2 rfl (by decide) u16 _ _ rfl (HS.out.1.p1.row.alloc _) ⟨wr.heap.size, 0, none⟩ 1 1 [.int .u64 9, .int .u64 0, .int .u64 0, .int .u64 0] rfl rfl (cells_four _ _ _ _ _ _ rfl) (fun u hu => by simp at hu; rcases hu with rfl | rfl <;> rfl) (by unfold maxLen; have := HS.out.2; have := HX.out; omega) (by have := HS.out.2; have := HX.out; omega) (by have := HS.out.1.B.size; simp; omega) ?_); intro v4 w4 hown hgrow hnil hblk; have T4 : Hid (St w w4 gf FL R v4 (.slice a2 m c2) (.slice a3 m c3) (P ++ [9])) := (HS.out.1.keep ((Below.refl _ _).alloc (Nat.le_refl _) _)).grow hgrow (by obtain ⟨r0, r1, r2, r3⟩ := HR.out; rw [OwnU, List.length_append, ← numsV_snoc, r0, r1, r2, r3]; exact hown) (hblk.imp id fun q => ⟨_, q, Nat.le_refl _⟩); clear hown hgrow hnil hblk)
              go_roundg (64 - (i + 1))
              case measure => have := HK.out; have := HX.out; omega
              case rel => exact ⟨i + 1, P ++ [9], rfl, by have := HX.out; omega, by go_num, T4.out, by rw [List.length_append, HS.out.2.1]; simp; omega⟩
            · obtain rfl : i = 64 := by omega
              clear h8 hi9 HK
              go_wp2
              refine H4.out _ _ ?_
              obtain ⟨ax, gx, cx, ex, _, _, _⟩ := HS.out.1.p1.lies
              rw [HS.out.2.1] at ex
              subst ex
              obtain ⟨b2, g2, d2, e2, z2, y2, _⟩ := HS.out.1.p2.lies
              obtain ⟨b3, g3, d3, e3, z3, y3, _⟩ := HS.out.1.p3.lies
              injection e2 with q1 q2 q3
              injection e3 with s1 s2 s3
              subst q1 q3 s1 s3
              have hh := HN.out
              exact (fivs_y hh.1 hh.2.1 hh.2.2.1 hh.2.2.2.1 hh.2.2.2.2.1 hh.2.2.2.2.2.1 hh.2.2.2.2.2.2.1 hh.2.2.2.2.2.2.2.1 z2 z3 w wr HS.out.1.B hh.2.2.2.2.2.2.2.2.1 (hh.2.2.2.2.2.2.2.2.2.1.keep HS.out.1.B) HS.out.1.F hh.2.2.2.2.2.2.2.2.2.2 y2 y3 _ _ _ _ _ _ _ _ _ _ _ _ _ _ _ _ _ _ _ _ _ _ _ _ _ _ _ _ _ _ _ _ _ _ _ _ _ _ _ _ _ _ _ _ _ _ _ _ _ _ _ _ _ _ _ _ _ _ _ _ _ _ _ _ _ _ _ _ _ _ _ _ _ _ _ _ _ _ _ _ _ _ _ _ _ _ _ _ _ _ _ _ _ _ _ _ _ _ _ _ _ _ _ _ _ _ _ _ _ _ _ _ _ _ _ _ _ _ _ _ _ _ _ _ _ _ _ _ _ _ _ _ _ _ _ _ _ _ _ _ _ _ _ _ _ _ _ _ _ _ _ _ _ _ _ _ _ _ _ _ _ _ _ _ _ _ _ _ _ _ _ _ _ _).out rfl
end Go.Proofs.YtagcbcmbojggkaaDoor

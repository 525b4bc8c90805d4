import Derived.Test.YtagcbcmbojggkaaDoorFIvX
/- FieldInverses: the questions. -/
namespace Go.Proofs.YtagcbcmbojggkaaDoor
open Go.RowKit Go.Sort

set_option maxRecDepth 100000 in
set_option maxHeartbeats 16000000 in
theorem fivs_v {k : Int} {n g o cap gf cf : Nat} {a : Option Addr} {L FL : List Int} (hn : L.length = n) (hn4 : n ≤ 4398046511104) (hfl : FL.length = n + 9) (hft : FL.take n = L) (hsev : ∀ i, n ≤ i → i < n + 9 → FL.getD i 0 = sevN) (hN : ∀ i, i < FL.length → Num (FL.getD i 0)) (hNL : ∀ i, i < L.length → Num (L.getD i 0)) (ha : At4 a g o L) (w W : World) (hD : Mds w) (hL : Nms w g o L) (hge : w.heap.size ≤ gf) (hB : Below w.heap.size w W) (hF : Own4 W gf FL) (t2 t3 t4 t6 t8 t9 t10 t11 t12 t13 t14 t15 t16 t17 t18 t19 t20 t21 t22 t23 t24 t25 t26 t27 t28 t29 t30 t31 t32 t33 t34 t35 t36 t37 t38 t39 t40 t41 t42 t43 t44 t45 t46 t47 t48 t49 t50 t51 t52 t53 t54 t55 t56 t57 t58 t59 t60 t61 t62 t63 t64 t65 t66 t67 t68 t69 t70 t71 t72 t73 t74 t75 t76 t77 t78 t79 t80 t81 t82 t83 t84 t85 t86 t87 t88 t89 t90 t91 t92 t93 t94 t95 t96 t97 t98 t99 t100 t101 t102 t103 t104 t105 t106 t107 t108 t109 t110 t111 t112 t113 t114 t115 t116 t117 t118 t119 t120 t121 t122 t123 t124 t125 t126 t127 t128 t129 t130 t131 t132 t133 t134 t135 t136 t137 t138 t139 t140 t141 t142 t143 t144 t145 t146 t147 t148 t149 t150 t151 t152 t153 t154 t155 t156 t157 t158 t159 t160 t161 t162 t163 t164 t165 t166 t167 t168 t169 t170 t171 t172 t173 t174 t175 t176 t177 t178 t179 t180 : Value) :
    WpFrom Tryd.prog Tryd.f3 5 (bodyPost Tryd.prog Tryd.f3 fun e w' => e = .returned (.bool true) ∧ Below w.heap.size w w') { tmps := #[.int .i64 k, .slice a n cap, t2, t3, t4, .slice (some ⟨gf, 0, none⟩) (n + 9) (n + 9), t6, .slice (some ⟨gf, 0, none⟩) n cf, t8, t9, t10, t11, t12, t13, t14, t15, t16, t17, t18, t19, t20, t21, t22, t23, t24, t25, t26, t27, t28, t29, t30, t31, t32, t33, t34, t35, t36, t37, t38, t39, t40, t41, t42, t43, t44, t45, t46, t47, t48, t49, t50, t51, t52, t53, t54, t55, t56, t57, t58, t59, t60, t61, t62, t63, t64, t65, t66, t67, t68, t69, t70, t71, t72, t73, t74, t75, t76, t77, t78, t79, t80, t81, t82, t83, t84, t85, t86, t87, t88, t89, t90, t91, t92, t93, t94, t95, t96, t97, t98, t99, t100, t101, t102, t103, t104, t105, t106, t107, t108, t109, t110, t111, t112, t113, t114, t115, t116, t117, t118, t119, t120, t121, t122, t123, t124, t125, t126, t127, t128, t129, t130, t131, t132, t133, t134, t135, t136, t137, t138, t139, t140, t141, t142, t143, t144, t145, t146, t147, t148, t149, t150, t151, t152, t153, t154, t155, t156, t157, t158, t159, t160, t161, t162, t163, t164, t165, t166, t167, t168, t169, t170, t171, t172, t173, t174, t175, t176, t177, t178, t179, t180], defers := [] } W := by
  refine WpFrom.intro rfl ?_
  have y0 : Nms W gf 0 L := by have y := nms_take (n := n) hF.1; rw [hft] at y; exact y
  have CI : Hid (∀ W', Below W.heap.size W W' → Calls Tryd.prog 4 #[.int .i64 k, .slice (some ⟨gf, 0, none⟩) n cf] W' fun e w' => ∃ v, e = .returned (.tuple #[v, .int .i64 (invE k L)]) ∧ OwnU W'.heap.size w' v (invR k L) ∧ Below W'.heap.size W' w') := fun W' hb => by
    have C := invs_any (k := k) (cap := cf) hNL (.inr rfl) W' ((hD.keep hB).keep hb) (y0.keep hb)
    rw [hn] at C
    exact C
  have CR : Hid (∀ W', Below W.heap.size W W' → Calls Tryd.prog 5 #[.int .i64 k, .slice a n cap] W' fun e w' => ∃ v, e = .returned (.tuple #[v, .int .i64 (invE k L)]) ∧ OwnU W'.heap.size w' v (invR k L) ∧ Below W'.heap.size W' w') := fun W' hb => by
    have C := rinvs_any (k := k) (cap := cap) hNL ha W' ((hL.keep hB).keep hb)
    rw [hn] at C
    exact C
  have CT : Hid (∀ W', Below W.heap.size W W' → Calls Tryd.prog 7 #[.slice (some ⟨gf, 0, none⟩) n cf, .slice a n cap] W' fun e w' => e = .returned (.bool true) ∧ Below W'.heap.size W' w') := fun W' hb => by
    have C := fsame_wide (ca := cf) (cb := cap) (L := L) (by omega) (.inr rfl) ha W' (y0.keep hb) ((hL.keep hB).keep hb)
    rw [hn] at C
    exact C
  have HN : Hid (L.length = n ∧ n ≤ 4398046511104 ∧ FL.length = n + 9 ∧ FL.take n = L ∧ (∀ i, n ≤ i → i < n + 9 → FL.getD i 0 = sevN) ∧ (∀ i, i < FL.length → Num (FL.getD i 0)) ∧ At4 a g o L ∧ Mds w ∧ Nms w g o L ∧ w.heap.size ≤ gf) := ⟨hn, hn4, hfl, hft, hsev, hN, ha, hD, hL, hge⟩
  have HS : Hid (Below w.heap.size w W ∧ Own4 W gf FL) := ⟨hB, hF⟩
  have hn0 := inum_eq (invE k L)
  have RL : Hid ((invR k L).length ≤ 65536) := invR_len k L
  clear hn hn4 hfl hft hsev hN hNL ha hD hL hge hB hF y0
  generalize invE k L = E at *
  generalize invR k L = R at *
  refine wp_seq_k fun K1 h1 => ?_
  have H1 : Hid _ := h1
  clear h1
  go_wp2_with fail
  refine (CI.out W (Below.refl _ _)).mono ?_
  rintro e w1 ⟨v1, rfl, o1, b1⟩
  have O1 : Hid (OwnU W.heap.size w1 v1 R ∧ Below W.heap.size W w1) := ⟨o1, b1⟩
  clear o1 b1
  go_wp2
  refine H1.out _ _ ?_
  clear H1
  refine wp_seq_k fun K2 h2 => ?_
  have H2 : Hid _ := h2
  clear h2
  go_wp2_with fail
  have C3 : Hid (∀ W', Below W.heap.size W W' → ∀ b, Hold W' b 3 → Calls Tryd.prog 4 #[.int .i64 k, .slice (some ⟨b, 0, none⟩) 1 1] W' fun e w' => (∃ v, e = .returned v) ∧ Below W'.heap.size W' w') := fun W' hb b hH => by
    have C := invs_any (k := k) (cap := 1) (L := [3]) (a := some ⟨b, 0, none⟩) (g := b) (o := 0) (fun i hi => by
      obtain rfl : i = 0 := by simp at hi; exact hi
      exact (⟨by decide, by decide⟩ : Num 3)) (.inr rfl) W' ((HN.out.2.2.2.2.2.2.2.1.keep HS.out.1).keep hb) (fun i hi => by
      obtain rfl : i = 0 := by simp at hi; exact hi
      exact hH)
    refine C.mono ?_
    rintro e w' ⟨v, rfl, _, hb⟩
    exact ⟨⟨_, rfl⟩, hb⟩
  have hH3 : Hold (w1.alloc (.cells #[.int .u64 3, .int .u64 0, .int .u64 0, .int .u64 0] 25)) w1.heap.size 3 := by
    obtain ⟨r0, r1, r2, r3⟩ := from_val (v := 3) ⟨by decide, by decide⟩
    have h := Hold.new w1 3 25
    rw [r0, r1, r2, r3] at h
    exact h
  have hb3 : Below w1.heap.size w1 (w1.alloc (.cells #[.int .u64 3, .int .u64 0, .int .u64 0, .int .u64 0] 25)) := (Below.refl _ _).alloc (Nat.le_refl _) _
  refine (C3.out _ (O1.out.2.trans (hb3.mono O1.out.2.size)) _ hH3).mono ?_
  rintro e w3 ⟨⟨vv, rfl⟩, b3⟩
  have O3 : Hid (OwnU W.heap.size w3 v1 R ∧ Below W.heap.size W w3 ∧ w1.heap.size ≤ w3.heap.size ∧ ∀ q, v1.ownBlock = some q → W.heap.size ≤ q ∧ q < w1.heap.size) := ⟨(O1.out.1.keep hb3).keep b3, (O1.out.2.trans (hb3.mono O1.out.2.size)).trans (b3.mono (O1.out.2.trans (hb3.mono O1.out.2.size)).size), Nat.le_trans hb3.size b3.size, fun q hq => O1.out.1.row.lt q hq⟩
  clear hb3 b3 hH3 C3 O1
  go_wp2
  refine H2.out _ _ ?_
  clear H2
  refine wp_seq_k fun K3 h3 => ?_
  have H3 : Hid _ := h3
  clear h3
  go_wp2_with fail
  refine (CI.out w3 O3.out.2.1).mono ?_
  rintro e w4 ⟨v2, rfl, o4, b4⟩
  have O4 : Hid (OwnU w3.heap.size w4 v2 R ∧ Below w3.heap.size w3 w4) := ⟨o4, b4⟩
  clear o4 b4 CI
  go_wp2
  refine H3.out _ _ ?_
  clear H3
  refine wp_seq_k fun K4 h4 => ?_
  have H4 : Hid _ := h4
  clear h4
  go_wp2_with fail
  have B4 : Hid (Below W.heap.size W w4) := O3.out.2.1.trans (O4.out.2.mono O3.out.2.1.size)
  refine (CR.out w4 B4.out).mono ?_
  rintro e w5 ⟨v3, rfl, o5, b5⟩
  have O5 : Hid (OwnU w4.heap.size w5 v3 R ∧ Below w4.heap.size w4 w5) := ⟨o5, b5⟩
  clear o5 b5 CR
  go_wp2
  refine H4.out _ _ ?_
  clear H4
  have B5 : Hid (Below W.heap.size W w5) := B4.out.trans (O5.out.2.mono B4.out.size)
  have ST : Hid (St w w5 gf FL R v1 v2 v3 R) := by
    have s1 := HS.out.1.size
    have s3 := O3.out.2.1.size
    have s4 := O4.out.2.size
    have base : ∀ {B B' : Nat} {W : World} {v : Value} {L : List Int}, OwnU B W v L → B' ≤ B → OwnU B' W v L := fun {B B' W v L} h hb => by
      refine ⟨h.1, ?_⟩
      rcases h.2 with q | ⟨g, cap, cur, q, hq, r⟩
      · exact .inl q
      · exact .inr ⟨g, cap, cur, q, Nat.le_trans hb hq, r⟩
    refine ⟨HS.out.1.trans (B5.out.mono HS.out.1.size), HS.out.2.keep B5.out, base ((O3.out.1.keep O4.out.2).keep O5.out.2) s1, base (O4.out.1.keep O5.out.2) (by omega), base O5.out.1 (by omega), fun q hq => ?_⟩
    have h := O3.out.2.2.2 q hq
    have h' := O3.out.2.2.1
    exact ⟨fun e => by have := (O4.out.1.row.lt q e).1; omega, fun e => by have := (O5.out.1.row.lt q e).1; omega, fun e => by have := HS.out.2.lt; omega⟩
  obtain ⟨a1, g1, c1, rfl, z1, y1⟩ := ST.out.p1.place
  obtain ⟨a2, g2, c2, rfl, z2, y2⟩ := ST.out.p2.place
  obtain ⟨a3, g3, c3, rfl, z3, y3⟩ := ST.out.p3.place
  have CA := fsame_yes (ca := c1) (cb := c3) (L := R) (by have := RL.out; omega) z1 z3 w5 y1 y3
  have CB : Hid (∀ W', Below w5.heap.size w5 W' → Calls Tryd.prog 7 #[.slice a2 R.length c2, .slice a3 R.length c3] W' fun e w' => e = .returned (.bool true) ∧ Below W'.heap.size W' w') := fun W' hb => fsame_yes (ca := c2) (cb := c3) (L := R) (by have := RL.out; omega) z2 z3 W' (y2.keep hb) (y3.keep hb)
  clear O3 O4 O5 B4 z1 y1 z2 y2 z3 y3
  refine wp_seq_k fun K5 h5 => ?_
  have H5 : Hid _ := h5
  clear h5
  go_wp2_with ((with_reducible refine (hn0 _).mono ?_); rintro e9 w9 ⟨rfl, hw9⟩; (rw [hw9]); (clear hw9 w9))
  refine CA.mono ?_
  rintro e w6 ⟨rfl, b6⟩
  have B6 : Hid (Below w5.heap.size w5 w6) := b6
  clear b6 CA
  go_wp2_with fail
  refine (CB.out w6 B6.out).mono ?_
  rintro e w7 ⟨rfl, b7⟩
  have B7 : Hid (Below w5.heap.size w5 w7) := B6.out.trans (b7.mono B6.out.size)
  clear b7 CB B6
  go_wp2_with fail
  refine (CT.out w7 (B5.out.trans (B7.out.mono B5.out.size))).mono ?_
  rintro e w8 ⟨rfl, b8⟩
  have B8 : Hid (Below w5.heap.size w5 w8) := B7.out.trans (b8.mono B7.out.size)
  clear b8 CT B7
  go_wp2
  refine H5.out _ _ ?_
  have hh := HN.out
  exact (fivs_x hh.1 hh.2.1 rfl RL.out hh.2.2.1 hh.2.2.2.1 hh.2.2.2.2.1 hh.2.2.2.2.2.1 hh.2.2.2.2.2.2.1 w w8 hh.2.2.2.2.2.2.2.1 hh.2.2.2.2.2.2.2.2.1 hh.2.2.2.2.2.2.2.2.2 (ST.out.keep B8.out) _ _ _ _ _ _ _ _ _ _ _ _ _ _ _ _ _ _ _ _ _ _ _ _ _ _ _ _ _ _ _ _ _ _ _ _ _ _ _ _ _ _ _ _ _ _ _ _ _ _ _ _ _ _ _ _ _ _ _ _ _ _ _ _ _ _ _ _ _ _ _ _ _ _ _ _ _ _ _ _ _ _ _ _ _ _ _ _ _ _ _ _ _ _ _ _ _ _ _ _ _ _ _ _ _ _ _ _ _ _ _ _ _ _ _ _ _ _ _ _ _ _ _ _ _ _ _ _ _ _ _ _ _ _ _ _ _ _ _ _ _ _ _ _ _ _ _ _ _ _ _ _ _ _ _ _ _ _ _ _ _ _ _ _ _ _ _ _ _ _ _ _ _ _).out rfl
end Go.Proofs.YtagcbcmbojggkaaDoor

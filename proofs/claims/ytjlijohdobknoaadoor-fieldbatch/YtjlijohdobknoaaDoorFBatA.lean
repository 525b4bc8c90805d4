import Derived.Test.YtjlijohdobknoaaDoorFInvsWalk
import Derived.Test.YtjlijohdobknoaaDoorFInvsNot
import Derived.Test.YtjlijohdobknoaaDoorFApp
import Derived.Test.YtjlijohdobknoaaDoorFKind
import Derived.Test.YtjlijohdobknoaaDoorCut
/- FieldBatch: from the second loop on. -/
namespace Go.Proofs.YtjlijohdobknoaaDoor
open Go.RowKit Go.Sort

theorem inv_one {m : Int} (hp : Prm m) : invN m 1 = 1 := by
  rw [invN, powN, Int.one_pow]
  exact Int.emod_eq_of_lt (by decide) hp.pos
theorem pre_all {m c : Int} (hf : Fit m c) (hp : Prm m) {L : List Int} (h : ∀ i, i < L.length → modN m (L.getD i 0) ≠ 0) : preN m L L.length ≠ 0 := fun e => by
  obtain ⟨j, hj, hz⟩ := (pre_zero hf hp L L.length (Nat.le_refl _)).1 e
  exact h j hj hz
theorem rev_at {L : List Int} {i q : Nat} (h : q + 1 + i = L.length) : L.reverse.getD i 0 = L.getD q 0 := by
  rw [List.getD, List.getElem?_reverse (by omega), ← List.getD, show L.length - 1 - i = q by omega]
theorem one_inv {k m c : Int} (hk : Kind k m c) (hp : Prm m) {b : Nat} (w : World) (hD : Mds w) (hH : Hold w b 1) (hs : b < w.heap.size) :
    Calls Tryd.prog 5 #[.int .i64 k, .slice (some ⟨b, 0, none⟩) 1 1] w fun e w' => ∃ b', e = .returned (.tuple #[.slice (some ⟨b', 0, none⟩) 1 1, .int .i64 0]) ∧ Hold w' b' 1 ∧ Below w.heap.size w w' := by
  have h1 : ∀ i, i < ([1] : List Int).length → ([1] : List Int).getD i 0 = 1 := fun i hi => by
    obtain rfl : i = 0 := by simp at hi; exact hi
    rfl
  have m1 : modN m 1 = 1 := Int.emod_eq_of_lt (by decide) hp.pos
  have C := Inverses_some hk hp (L := [1]) (cap := 1) (a := some ⟨b, 0, none⟩) (g := b) (o := 0) (by decide) (fun i hi => by rw [h1 i hi]; exact ⟨by decide, by decide⟩) (pre_all hk.fit hp (fun i hi => by rw [h1 i hi, m1]; decide)) (.inr rfl) w hD (fun i hi => by
    obtain rfl : i = 0 := by simp at hi; exact hi
    exact hH) hs
  refine C.mono ?_
  rintro e w' ⟨b', rfl, _, hO, hb⟩
  rw [show ([1] : List Int).map (invN m) = [1] by rw [List.map_cons, inv_one hp]; rfl] at hO
  exact ⟨b', rfl, hO.1 0 (by decide), hb⟩
set_option maxRecDepth 100000 in
set_option maxHeartbeats 16000000 in
theorem fbat_tail {k m c : Int} {n bb cw gw : Nat} {aw : Option Addr} {WL : List Int} (hk : Kind k m c) (hp : Prm m) (hn : WL.length = n) (h6 : n ≤ 65536) (haw : At4 aw gw 0 WL) (w W : World) (hB : Below w.heap.size w W) (hD : Mds W) (hW : Nms W gw 0 WL) (hR : Nms W bb 0 WL.reverse) (t0 t1 t2 t3 t4 t6 t7 t9 t10 t11 t12 t13 t14 t15 t16 t18 t19 t20 t21 t22 t23 t24 t25 t26 t27 t28 t29 t30 t31 t32 t33 t34 t35 t36 t37 t38 t39 t40 t41 t42 t43 t44 t45 t46 t47 t48 t49 t50 t51 t52 t53 t54 t55 t56 t57 t58 t59 t60 t61 t62 t63 t64 t65 t66 t67 t68 t69 t70 t71 t72 t73 t74 t75 t76 t77 t78 t79 t80 t81 t82 t83 t84 t85 t86 t87 t88 t89 t90 t91 t92 t93 t94 t95 t96 t97 t98 t99 t100 t101 t102 t103 t104 t105 t106 t107 t108 t109 t110 t111 t112 t113 t114 t115 t116 t117 t118 t119 t120 t121 t122 t123 t124 t125 t126 t127 t128 t129 t130 t131 t132 t133 t134 t135 t136 t137 t138 t139 t140 t141 t142 t143 t144 t145 t146 t147 t148 t149 t150 t151 t152 t153 t154 t155 t156 t157 t158 t159 t160 t161 t162 : Value) :
    WpFrom Tryd.prog Tryd.f3 8 (bodyPost Tryd.prog Tryd.f3 fun e w' => e = .returned (.bool true) ∧ Below w.heap.size w w') { tmps := #[t0, t1, t2, t3, t4, .int .i64 k, t6, t7, .slice aw n cw, t9, t10, t11, t12, t13, t14, t15, t16, .slice (some ⟨bb, 0, none⟩) n n, t18, t19, t20, t21, t22, t23, t24, t25, t26, t27, t28, t29, t30, t31, t32, t33, t34, t35, t36, t37, t38, t39, t40, t41, t42, t43, t44, t45, t46, t47, t48, t49, t50, t51, t52, t53, t54, t55, t56, t57, t58, t59, t60, t61, t62, t63, t64, t65, t66, t67, t68, t69, t70, t71, t72, t73, t74, t75, t76, t77, t78, t79, t80, t81, t82, t83, t84, t85, t86, t87, t88, t89, t90, t91, t92, t93, t94, t95, t96, t97, t98, t99, t100, t101, t102, t103, t104, t105, t106, t107, t108, t109, t110, t111, t112, t113, t114, t115, t116, t117, t118, t119, t120, t121, t122, t123, t124, t125, t126, t127, t128, t129, t130, t131, t132, t133, t134, t135, t136, t137, t138, t139, t140, t141, t142, t143, t144, t145, t146, t147, t148, t149, t150, t151, t152, t153, t154, t155, t156, t157, t158, t159, t160, t161, t162], defers := [] } W := by
  refine WpFrom.intro rfl ?_
  have S0 : Hid (Below w.heap.size w W ∧ Mds W ∧ Nms W gw 0 WL ∧ Nms W bb 0 WL.reverse) := ⟨hB, hD, hW, hR⟩
  have HN : Hid (WL.length = n ∧ n ≤ 65536 ∧ At4 aw gw 0 WL ∧ Kind k m c ∧ Prm m) := ⟨hn, h6, haw, hk, hp⟩
  have n6 : (n : Int) ≤ 65536 := by omega
  have FR : Hid (∀ w, Calls Tryd.prog 9 #[.int .u64 1] w fun e w' => e = .returned (.agg #[.int .u64 (l0 1), .int .u64 (l1 1), .int .u64 (l2 1), .int .u64 (l3 1)]) ∧ Below w.heap.size w w') := fun w => from_any ⟨by decide, by decide⟩ w
  have ey : ∀ n w, (Op.equalIn 10000 30 (.agg #[.int .u64 (l0 n), .int .u64 (l1 n), .int .u64 (l2 n), .int .u64 (l3 n)]) (.agg #[.int .u64 (l0 n), .int .u64 (l1 n), .int .u64 (l2 n), .int .u64 (l3 n)])).run Tryd.prog w = .ok true w := fun n w => eq_yes w
  clear hB hD hW hR hn h6 haw hk hp
  refine wp_seq_k fun K1 h1 => ?_
  have H1 : Hid _ := h1
  clear h1
  go_wp2_with fail
  go_loopg [19] n (fun k iv wr => ∃ i : Nat, k = n - i ∧ i ≤ n ∧ iv = .int .i64 (i : Int) ∧ Below w.heap.size w wr ∧ Mds wr ∧ Nms wr gw 0 WL ∧ Nms wr bb 0 WL.reverse)
  case atStart => exact ⟨0, rfl, Nat.zero_le _, rfl, S0.out⟩
  case round =>
    clear S0
    obtain ⟨i, hk, hi, rfl, B, hD, hW, hR⟩ := hrel
    have HK : Hid (gk = n - i ∧ i ≤ n) := ⟨hk, hi⟩
    have HS : Hid (Below w.heap.size w wr ∧ Mds wr ∧ Nms wr gw 0 WL ∧ Nms wr bb 0 WL.reverse) := ⟨B, hD, hW, hR⟩
    clear hk hi B hD
    by_cases hz : i = n
    · have hzl : ¬ i < n := by omega
      subst hz
      clear hW hR hzl HK
      go_wp2
      refine H1.out _ _ ?_
      clear H1
      go_wp2_with fail
      with_reducible refine (FR.out _).mono ?_
      rintro e w1 ⟨rfl, hb⟩
      have HS1 : Hid (Below w.heap.size w w1 ∧ Mds w1) := ⟨HS.out.1.trans (hb.mono HS.out.1.size), HS.out.2.1.keep hb⟩
      clear hb HS
      go_wp2_with fail
      refine calls_world (fun W => Below w.heap.size w W ∧ Mds W ∧ Hold W w1.heap.size 1 ∧ w1.heap.size < W.heap.size) ⟨HS1.out.1.alloc HS1.out.1.size _, HS1.out.2.alloc _, Hold.new _ _ _, by simp⟩ ?_
      clear HS1
      rintro W1 ⟨B, hD, hH, hs⟩
      have C := one_inv HN.out.2.2.2.1 HN.out.2.2.2.2 W1 hD hH hs
      refine C.mono ?_
      rintro e w4 ⟨b4, rfl, hT, hb⟩
      have HB : Hid (Below w.heap.size w w4) := B.trans (hb.mono B.size)
      clear C B hD hH hs hb
      have ghT := hT.grown
      clear hT n6 HN
      go_wp2_with fail
      refine wp_region_quiet_below (by kernel_rfl) (by kernel_rfl) ?_
      repeat
        first
          | go_big_quiet_skip
          | (go_big_quiet_want; go_big_quiet_op; go_big_quiet_on)
          | (go_big_quiet_want
             go_big_quiet_op
             apply Exists.intro
             refine ⟨fun p => ?_, ?_⟩
             · (first | (go_at_call 9; with_reducible exact Calls.regrown_of (FR.out _)))
             go_big_quiet_on)
      refine wpQuiet_nil ?_
      rintro w5 ⟨p, rfl⟩
      have hb := below_regrown w4 p.d p.os
      generalize grow (redrawn w4 p.d) p.os = w5 at *
      go_wp2
      go_ret
      exact ⟨rfl, HB.out.trans (hb.mono HB.out.size)⟩
    · have hlt : i < n := by have := HK.out.2; omega
      obtain ⟨q, eq⟩ : ∃ q, q + 1 + i = n := ⟨n - 1 - i, by omega⟩
      have e1 : (n : Int) - 1 - (i : Int) = (q : Int) := by omega
      have e2 : ((n : Int) - 1 - (i : Int)).toNat = q := by omega
      have q0 : (q : Int) < (n : Int) := by omega
      have hq : q < n := by omega
      obtain rfl := HN.out.2.2.1.get (i := q) (by rw [HN.out.1]; exact hq)
      have gA := hR i (by rw [List.length_reverse, HN.out.1]; exact hlt)
      have gB := hW q (by rw [HN.out.1]; exact hq)
      rw [rev_at (by rw [HN.out.1]; exact eq)] at gA
      generalize WL.getD q 0 = xv at gA gB
      simp only [Nat.zero_add] at gA gB
      have hi6 : (i : Int) < (n : Int) := by omega
      clear hz hW hR eq
      go_wp2
      go_region
      go_wp2
      go_roundg (n - (i + 1))
      case measure => have := HK.out.1; omega
      case rel => exact ⟨i + 1, rfl, hlt, by go_num, HS.out.1.drew, HS.out.2.1.keep ((Below.refl _ _).drew), HS.out.2.2.1, HS.out.2.2.2⟩
end Go.Proofs.YtjlijohdobknoaaDoor

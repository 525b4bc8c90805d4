import Derived.Test.YtifenjinbjlfdaaDoorUtB
import Derived.Test.YtifenjinbjlfdaaDoorRefMul
import Derived.Test.YtifenjinbjlfdaaDoorRefAddSub
import Derived.Test.YtifenjinbjlfdaaDoorReduce
import Derived.Test.YtifenjinbjlfdaaDoorQPut2
/- Parse of the document. -/
namespace Go.Proofs.YtifenjinbjlfdaaDoor
open Go.RowKit Go.Sort

/-- What stands in the second loop. -/
structure Rp (w W : World) (br bz bx : Nat) (X : Int) : Prop where
  B : RowKit.Below w.heap.size w W
  hR : Blank W br
  hZ : Blank W bz
  hX : Var W bx X
theorem Rp.keep {w W w1 : World} {br bz bx : Nat} {X : Int} (s : Rp w W br bz bx X) (hb : RowKit.Below W.heap.size W w1) : Rp w w1 br bz bx X := ⟨s.B.trans (hb.mono s.B.size), s.hR.keep hb, s.hZ.keep hb, s.hX.keep hb⟩
theorem Rp.alloc {w W : World} {br bz bx : Nat} {X : Int} (s : Rp w W br bz bx X) (o : Obj) : Rp w (W.alloc o) br bz bx X := s.keep ((Below.refl _ _).alloc (Nat.le_refl _) o)
theorem Rp.drew {w W : World} {br bz bx : Nat} {X : Int} (s : Rp w W br bz bx X) : Rp w W.drew br bz bx X := ⟨s.B.drew, s.hR, s.hZ, s.hX⟩
theorem Rp.set4 {w W : World} {br bz bx b : Nat} {X : Int} (s : Rp w W br bz bx X) (hb : w.heap.size ≤ b) (n1 : b ≠ br) (n2 : b ≠ bz) (n3 : b ≠ bx) (v0 v1 v2 v3 : Value) : Rp w ((((W.setCell ⟨b, 0, none⟩ v0).setCell ⟨b, 1, none⟩ v1).setCell ⟨b, 2, none⟩ v2).setCell ⟨b, 3, none⟩ v3) br bz bx X :=
  ⟨below_set4 s.B hb _ _ _ _, s.hR.set4 n1 _ _ _ _, s.hZ.set4 n2 _ _ _ _, s.hX.set4 n3 _ _ _ _⟩
set_option maxRecDepth 100000 in
set_option maxHeartbeats 8000000 in
theorem rparse_tail {s : ByteArray} (hs : s.size ≤ 9223372036854775807) (hA : DgA s) (h0 : s.size ≠ 0) (h1 : ¬ (1 < s.size ∧ bt s 0 = 48)) (w W : World) {br bz bx : Nat} (hS : Rp w W br bz bx 0) (gr : w.heap.size ≤ br) (gx : w.heap.size ≤ bx) (n1 : br ≠ bx) (n2 : br ≠ bz) (n3 : bx ≠ bz) (t1 t3 t5 t7 t8 t9 t10 t11 t12 t13 t14 t15 t16 t17 t18 t19 t20 t21 t22 t23 t24 t25 t26 t27 t28 t29 t30 t31 t32 t33 t34 t35 t36 t37 t38 t39 t40 t41 t42 t43 t44 t45 t46 t47 t48 t49 t50 t51 t52 t53 t54 t55 t56 t57 t58 t59 t60 t61 t62 t63 t64 t65 t66 t67 t68 t69 t70 t71 t72 t73 t74 t75 t76 : Value) :
    WpFrom Tryd.prog Tryd.f5 6 (bodyPost Tryd.prog Tryd.f5 fun e w' => e = .returned (.tuple #[.agg #[.int .u64 (l0 (pv s)), .int .u64 (l1 (pv s)), .int .u64 (l2 (pv s)), .int .u64 (l3 (pv s))], .int .i64 (pe s)]) ∧ Below w.heap.size w w') { tmps := #[.string s, t1, .pointer (some ⟨br, 0, none⟩), t3, .pointer (some ⟨bz, 0, none⟩), t5, .pointer (some ⟨bx, 0, none⟩), t7, t8, t9, t10, t11, t12, t13, t14, t15, t16, t17, t18, t19, t20, t21, t22, t23, t24, t25, t26, t27, t28, t29, t30, t31, t32, t33, t34, t35, t36, t37, t38, t39, t40, t41, t42, t43, t44, t45, t46, t47, t48, t49, t50, t51, t52, t53, t54, t55, t56, t57, t58, t59, t60, t61, t62, t63, t64, t65, t66, t67, t68, t69, t70, t71, t72, t73, t74, t75, t76], defers := [] } W := by
  refine WpFrom.intro rfl ?_
  have HP : Hid (DgA s ∧ s.size ≠ 0 ∧ ¬ (1 < s.size ∧ bt s 0 = 48) ∧ s.size ≤ 9223372036854775807) := ⟨hA, h0, h1, hs⟩
  have HG : Hid (w.heap.size ≤ br ∧ w.heap.size ≤ bx ∧ br ≠ bx ∧ br ≠ bz ∧ bx ≠ bz) := ⟨gr, gx, n1, n2, n3⟩
  have HZ : Hid (Rp w W br bz bx 0) := hS
  clear hs hA h0 h1 gr gx n1 n2 n3 hS
  go_wp2_with fail
  go_loopg [7] s.size (fun k iv wr => ∃ i : Nat, k = s.size - i ∧ i ≤ s.size ∧ iv = .int .i64 (i : Int) ∧ dc s 0 i < 115792089237316195423570985008687907853269984665640564039457584007913129639936 ∧ Rp w wr br bz bx (dc s 0 i))
  case atStart => exact ⟨0, rfl, Nat.zero_le _, rfl, by rw [dc]; decide, HZ.out⟩
  case round =>
    clear HZ W
    obtain ⟨i, hk, hi, rfl, hv, hS⟩ := hrel
    have HK : Hid (gk = s.size - i ∧ i ≤ s.size ∧ dc s 0 i < 115792089237316195423570985008687907853269984665640564039457584007913129639936) := ⟨hk, hi, hv⟩
    have HS : Hid (Rp w wr br bz bx (dc s 0 i)) := hS
    clear hk hi hv
    by_cases h8 : i < s.size
    · have hx := get_bt h8
      obtain ⟨b1, b2⟩ := HP.out.1 i h8
      have hw := wrap_up h8 HP.out.2.2.2
      have hw' : IntKind.i64.wrap ((i : Int) + 1) = (i : Int) + 1 := hw
      have nX : Num (dc s 0 i) := ⟨(dc_at HP.out.1 HK.out.2.1).1, HK.out.2.2⟩
      have HD : Hid (dc s 0 (i + 1) = dc s 0 i * 10 + (((s[i]'h8).toNat : Int) - 48)) := by rw [hx, dc, Nat.zero_add]; exact rfl
      rw [← hx] at b1 b2
      have nd : Num (((s[i]'h8).toNat : Int) - 48) := ⟨by omega, by omega⟩
      have HI : Hid (i < s.size) := h8
      have F1 := rfrom_any (v := 10) ⟨by decide, by decide⟩
      have F2 := rfrom_any (v := ((s[i]'h8).toNat : Int) - 48) ⟨by omega, by omega⟩
      have M1 := rmul_any nX (show Num 10 from ⟨by decide, by decide⟩)
      have A1 := radd_any (loN_Num (dc s 0 i) 10) nd
      obtain ⟨c0, c1, c2, c3⟩ := hS.hX.1.cells
      have lx : bx < wr.heap.size := hS.hX.1.row.lt (by simp)
      have geB : w.heap.size ≤ wr.heap.size := hS.B.size
      have HSm : Hid (loN (dc s 0 i) 10 + (((s[i]'h8).toNat : Int) - 48) = sumN (loN (dc s 0 i) 10) (((s[i]'h8).toNat : Int) - 48) + 115792089237316195423570985008687907853269984665640564039457584007913129639936 * carN (loN (dc s 0 i) 10) (((s[i]'h8).toNat : Int) - 48) ∧ 0 ≤ carN (loN (dc s 0 i) 10) (((s[i]'h8).toNat : Int) - 48) ∧ Num (sumN (loN (dc s 0 i) 10) (((s[i]'h8).toNat : Int) - 48))) := ⟨by unfold sumN carN; omega, (carN_bit (loN_Num (dc s 0 i) 10) nd).1, sumN_Num _ _⟩
      clear hS hx nX nd
      have e10 : Hid (dc s 0 i * 10 = loN (dc s 0 i) 10 + 115792089237316195423570985008687907853269984665640564039457584007913129639936 * hiN (dc s 0 i) 10) := by unfold Hid loN hiN; omega
      have hlo := loN_Num (dc s 0 i) 10
      have HHi : Hid (Num (hiN (dc s 0 i) 10)) := hiN_Num ⟨(dc_at HP.out.1 HK.out.2.1).1, HK.out.2.2⟩ ⟨by decide, by decide⟩
      have HLo : Hid (Num (loN (dc s 0 i) 10)) := hlo
      clear hlo
      generalize loN (dc s 0 i) 10 = lo at *
      generalize hiN (dc s 0 i) 10 = hi at *
      generalize dc s 0 i = X at *
      refine wp_world (fun W => Rp w W br bz bx X) HS.out ?_
      clear c0 c1 c2 c3 lx geB HS
      intro W hS
      have HS : Hid (Rp w W br bz bx X) := hS
      have geB : w.heap.size ≤ W.heap.size := hS.B.size
      obtain ⟨c0, c1, c2, c3⟩ := hS.hX.1.cells
      have lx : bx < W.heap.size := hS.hX.1.row.lt (by simp)
      have lr : br < W.heap.size := hS.hR.1.lt (by simp)
      have lz : bz < W.heap.size := hS.hZ.1.lt (by simp)
      clear hS
      have F1h : Hid (∀ w, Calls Tryd.prog 13 #[.int .u64 10] w fun e w' => e = .returned (.agg #[.int .u64 (l0 10), .int .u64 (l1 10), .int .u64 (l2 10), .int .u64 (l3 10)]) ∧ Below w.heap.size w w') := F1
      have F2h : Hid (∀ w, Calls Tryd.prog 13 #[.int .u64 (((s[i]'h8).toNat : Int) - 48)] w fun e w' => e = .returned (.agg #[.int .u64 (l0 (((s[i]'h8).toNat : Int) - 48)), .int .u64 (l1 (((s[i]'h8).toNat : Int) - 48)), .int .u64 (l2 (((s[i]'h8).toNat : Int) - 48)), .int .u64 (l3 (((s[i]'h8).toNat : Int) - 48))]) ∧ Below w.heap.size w w') := F2
      have M1h : Hid (∀ w, Calls Tryd.prog 12 #[.agg #[.int .u64 (l0 X), .int .u64 (l1 X), .int .u64 (l2 X), .int .u64 (l3 X)], .agg #[.int .u64 (l0 10), .int .u64 (l1 10), .int .u64 (l2 10), .int .u64 (l3 10)]] w fun e w' => e = .returned (.tuple #[.agg #[.int .u64 (l0 hi), .int .u64 (l1 hi), .int .u64 (l2 hi), .int .u64 (l3 hi)], .agg #[.int .u64 (l0 lo), .int .u64 (l1 lo), .int .u64 (l2 lo), .int .u64 (l3 lo)]]) ∧ Below w.heap.size w w') := M1
      have A1h : Hid (∀ w, Calls Tryd.prog 14 #[.agg #[.int .u64 (l0 lo), .int .u64 (l1 lo), .int .u64 (l2 lo), .int .u64 (l3 lo)], .agg #[.int .u64 (l0 (((s[i]'h8).toNat : Int) - 48)), .int .u64 (l1 (((s[i]'h8).toNat : Int) - 48)), .int .u64 (l2 (((s[i]'h8).toNat : Int) - 48)), .int .u64 (l3 (((s[i]'h8).toNat : Int) - 48))]] w fun e w' => e = .returned (.tuple #[.agg #[.int .u64 (l0 (sumN lo (((s[i]'h8).toNat : Int) - 48))), .int .u64 (l1 (sumN lo (((s[i]'h8).toNat : Int) - 48))), .int .u64 (l2 (sumN lo (((s[i]'h8).toNat : Int) - 48))), .int .u64 (l3 (sumN lo (((s[i]'h8).toNat : Int) - 48)))], .int .u64 (carN lo (((s[i]'h8).toNat : Int) - 48))]) ∧ Below w.heap.size w w') := A1
      clear F1 F2 M1 A1
      go_wp2_with fail
      refine put2_num (A := ?AA1) 6 hi (by kernel_rfl) (by kernel_rfl) rfl rfl rfl rfl rfl (by kernel_rfl) (alloc_num _ _ _) (alloc_num _ _ _) (fun V hV => ?HH1) (fun V b hB => ?EE1) (fun b1 b2 w1 ne1 g1 g2 hb1 hH hL => ?TT1)
      case HH1 =>
        have gX := (HS.out.hX.keep hV).1.grown
        unfold Gr
        simp only [List.take_succ_cons, List.take_zero]
        repeat
          first
            | go_big_quiet_skip
            | (go_big_quiet_want; go_big_quiet_op; go_big_quiet_on)
            | (go_big_quiet_want
               go_big_quiet_op
               apply Exists.intro
               refine ⟨fun p => ?_, ?_⟩
               · (first | (go_at_call 13; with_reducible exact Calls.regrown_of (F1h.out _)) | (go_at_call 12; with_reducible exact Calls.regrown_of (M1h.out _)))
               go_big_quiet_on)
        refine wpQuiet_nil ?_
        exact rfl
      case EE1 =>
        have c0 := hB.1 0 (by simp); have c1 := hB.1 1 (by simp); have c2 := hB.1 2 (by simp); have c3 := hB.1 3 (by simp)
        obtain ⟨f0, f1, f2, f3⟩ := hB.2.cells4
        simp only [List.getD_cons_zero, List.getD_cons_succ] at c0 c1 c2 c3
        simp [execOp, Act.put, Act.eval, go_sem, c0, c1, c2, c3, f0, f1, f2, f3]
      case TT1 =>
        have HS1 : Hid (Rp w w1 br bz bx X ∧ Var w1 b1 hi ∧ Blank w1 b2 ∧ b1 ≠ b2 ∧ w.heap.size ≤ b2 ∧ br ≠ b2 ∧ bz ≠ b2 ∧ bx ≠ b2) := ⟨HS.out.keep hb1, hH, hL, ne1, Nat.le_trans geB g2, by omega, by omega, by omega⟩
        clear c0 c1 c2 c3
        have c0 := hL.1 0 (by simp); have c1 := hL.1 1 (by simp); have c2 := hL.1 2 (by simp); have c3 := hL.1 3 (by simp)
        obtain ⟨f0, f1, f2, f3⟩ := hL.2.cells4
        simp only [List.getD_cons_zero, List.getD_cons_succ] at c0 c1 c2 c3
        clear hb1 hH hL ne1 g1 g2 HS geB lx lr lz
        simp only [List.drop_succ_cons, List.drop_zero, Act.put, List.setIfInBounds_toArray, List.set_cons_zero, List.set_cons_succ]
        go_wp2_with fail
        refine wp_world (fun V => Rp w V br bz bx X ∧ Var V b1 hi ∧ Var V b2 lo) ⟨HS1.out.1.set4 HS1.out.2.2.2.2.1 HS1.out.2.2.2.2.2.1.symm HS1.out.2.2.2.2.2.2.1.symm HS1.out.2.2.2.2.2.2.2.symm _ _ _ _, HS1.out.2.1.set4 HS1.out.2.2.2.1.symm _ _ _ _, HS1.out.2.2.1.zeroV.sets lo⟩ ?_
        clear c0 c1 c2 c3 f0 f1 f2 f3 HS1 w1 W
        rintro W hW
        have HS : Hid (Rp w W br bz bx X ∧ Var W b1 hi ∧ Var W b2 lo) := hW
        clear hW
        refine put_tail (A := ?AA2) 11 (fun V kk => ((((V.setCell ⟨kk, 0, none⟩ (.int .u64 (l0 (sumN lo (((s[i]'h8).toNat : Int) - 48))))).setCell ⟨kk, 1, none⟩ (.int .u64 (l1 (sumN lo (((s[i]'h8).toNat : Int) - 48))))).setCell ⟨kk, 2, none⟩ (.int .u64 (l2 (sumN lo (((s[i]'h8).toNat : Int) - 48))))).setCell ⟨kk, 3, none⟩ (.int .u64 (l3 (sumN lo (((s[i]'h8).toNat : Int) - 48)))))) (by kernel_rfl) (by kernel_rfl) rfl rfl rfl (alloc_num _ _ _) (fun V V0 h0 h1 => below_set4 (alloc_below h0 h1) h0.size _ _ _ _) (fun V hV => ?HH2) (fun V V0 h0 h1 => ?EE2) (fun V0 V w1 h0 h1 h2 => ?TT2)
        case HH2 =>
          have gL := (HS.out.2.2.keep hV).1.grown
          unfold Gr
          simp only [List.take_succ_cons, List.take_zero]
          repeat
            first
              | go_big_quiet_skip
              | (go_big_quiet_want; go_big_quiet_op; go_big_quiet_on)
              | (go_big_quiet_want
                 go_big_quiet_op
                 apply Exists.intro
                 refine ⟨fun p => ?_, ?_⟩
                 · (first | (go_at_call 13; with_reducible exact Calls.regrown_of (F2h.out _)) | (go_at_call 14; with_reducible exact Calls.regrown_of (A1h.out _)))
                 go_big_quiet_on)
          refine wpQuiet_nil ?_
          exact rfl
        case EE2 =>
          have hB : Blank V V0.heap.size := (Blank.new rfl).keep h1
          have c0 := hB.1 0 (by simp); have c1 := hB.1 1 (by simp); have c2 := hB.1 2 (by simp); have c3 := hB.1 3 (by simp)
          obtain ⟨f0, f1, f2, f3⟩ := hB.2.cells4
          simp only [List.getD_cons_zero, List.getD_cons_succ] at c0 c1 c2 c3
          simp [execOp, Act.put, Act.eval, go_sem, c0, c1, c2, c3, f0, f1, f2, f3]
        case TT2 =>
          have hb := alloc_below h0 h1
          have hN := (((Blank.new rfl).keep h1).zeroV.sets (sumN lo (((s[i]'h8).toNat : Int) - 48))).keep h2
          have gz : W.heap.size ≤ V0.heap.size := h0.size
          have gw : w.heap.size ≤ V0.heap.size := Nat.le_trans HS.out.1.B.size gz
          have lx : bx < W.heap.size := HS.out.1.hX.1.row.lt (by simp)
          have lr : br < W.heap.size := HS.out.1.hR.1.lt (by simp)
          have lz : bz < W.heap.size := HS.out.1.hZ.1.lt (by simp)
          have l1' : b1 < W.heap.size := HS.out.2.1.1.row.lt (by simp)
          have HS2 : Hid (Rp w w1 br bz bx X ∧ Var w1 b1 hi ∧ Var w1 V0.heap.size (sumN lo (((s[i]'h8).toNat : Int) - 48)) ∧ w.heap.size ≤ V0.heap.size) := ⟨((HS.out.1.keep hb).set4 gw (by omega) (by omega) (by omega) _ _ _ _).keep h2, ((HS.out.2.1.keep hb).set4 (by omega) _ _ _ _).keep h2, hN, gw⟩
          clear hb hN h0 h1 h2 gz gw lx lr lz l1' HS
          generalize V0.heap.size = b3 at *
          have ez := eq_zero HHi.out
          obtain ⟨sm, Hsm⟩ : ∃ y, Hid (y = sumN lo (((s[i]'h8).toNat : Int) - 48)) := ⟨_, rfl⟩
          obtain ⟨cr, Hcr⟩ : ∃ y, Hid (y = carN lo (((s[i]'h8).toNat : Int) - 48)) := ⟨_, rfl⟩
          have HS3 : Hid (Rp w w1 br bz bx X ∧ Var w1 b1 hi ∧ Var w1 b3 sm ∧ w.heap.size ≤ b3) := by rw [Hsm.out]; exact HS2.out
          rw [← Hsm.out, ← Hcr.out]
          have HSn : Hid (dc s 0 (i + 1) = sm + 115792089237316195423570985008687907853269984665640564039457584007913129639936 * (cr + hi) ∧ 0 ≤ cr ∧ Num sm) := by
            have h1 := HSm.out; have h2 := e10.out; have h3 := HD.out
            rw [← Hsm.out, ← Hcr.out] at h1
            exact ⟨by omega, h1.2⟩
          clear HSm e10 Hsm Hcr HS2 V V0 A1h F1h F2h M1h HLo HD
          obtain ⟨c0, c1, c2, c3⟩ := HS3.out.2.1.1.cells
          obtain ⟨d0, d1, d2, d3⟩ := HS3.out.2.2.1.1.cells
          have z0 := HS3.out.1.hZ.1 0 (by simp); have z1 := HS3.out.1.hZ.1 1 (by simp); have z2 := HS3.out.1.hZ.1 2 (by simp); have z3 := HS3.out.1.hZ.1 3 (by simp)
          have r0 := HS3.out.1.hR.1 0 (by simp); have r1 := HS3.out.1.hR.1 1 (by simp); have r2 := HS3.out.1.hR.1 2 (by simp); have r3 := HS3.out.1.hR.1 3 (by simp)
          obtain ⟨k0, k1, k2, k3⟩ := HS3.out.1.hR.2.cells4
          obtain ⟨x0, x1, x2, x3⟩ := HS3.out.1.hX.1.cells
          obtain ⟨y0, y1, y2, y3⟩ := HS3.out.1.hX.2.cells4
          simp only [List.getD_cons_zero, List.getD_cons_succ] at z0 z1 z2 z3 r0 r1 r2 r3
          simp only [List.drop_succ_cons, List.drop_zero, Act.put, List.setIfInBounds_toArray, List.set_cons_zero, List.set_cons_succ]
          have three : (hi = 0 ∧ (cr != 0) = false) ∨ ((hi = 0 ∧ (cr != 0) = true) ∧ 115792089237316195423570985008687907853269984665640564039457584007913129639936 ≤ dc s 0 (i + 1)) ∨ (hi ≠ 0 ∧ 115792089237316195423570985008687907853269984665640564039457584007913129639936 ≤ dc s 0 (i + 1)) := by
            have h1 := HSn.out; have h2 := HHi.out.1; obtain ⟨h3, h4⟩ := h1.2.2
            by_cases a1 : hi = 0
            · by_cases a2 : cr = 0
              · exact .inl ⟨a1, by simp [a2]⟩
              · exact .inr (.inl ⟨⟨a1, by simp [a2]⟩, by omega⟩)
            · exact .inr (.inr ⟨a1, by omega⟩)
          obtain ⟨u0, u1, u2, u3⟩ := zero_limbs
          rcases three with ⟨t1, t2⟩ | ⟨⟨t1, t2⟩, t3⟩ | ⟨t1, t3⟩
          · have HE : Hid (sm = dc s 0 (i + 1)) := by
              have h1 := HSn.out.1
              have : cr = 0 := by simpa using t2
              rw [t1, this] at h1
              show _ = _; omega
            rw [decide_eq_true t1] at ez
            clear t1
            go_wp2
            go_roundg (s.size - (i + 1))
            case measure => have := HK.out.1; have := HI.out; omega
            case rel =>
              refine ⟨i + 1, rfl, HI.out, by rw [Int.natCast_add]; rfl, by rw [← HE.out]; exact HSn.out.2.2.2, ?_⟩
              rw [← HE.out]
              have g := HG.out
              exact ⟨below_set4 HS3.out.1.B g.2.1 _ _ _ _, HS3.out.1.hR.set4 g.2.2.1.symm _ _ _ _, HS3.out.1.hZ.set4 g.2.2.2.2 _ _ _ _, HS3.out.1.hX.sets sm⟩
          all_goals (
            have HR : Hid (pe s = 11 ∧ pv s = 0) := pe_long ⟨HP.out.1, HP.out.2.1⟩ HP.out.2.2.1 (fun hlt => by have := dc_mono HP.out.1 (m := i + 1) (n := s.size) HI.out (Nat.le_refl _); omega)
            (first | rw [decide_eq_true t1] at ez | rw [decide_eq_false t1] at ez)
            clear t1 t3
            go_wp2
            simp [bodyPost, results, Tryd.results5, go_sem, HR.out.1, HR.out.2, u0, u1, u2, u3, r0, r1, r2, r3]
            have B9 := HS3.out.1.B
            have gr := HG.out.1
            repeat (first | with_reducible exact B9 | with_reducible refine Below.setCell ?_ gr _))
    · have ei : i = s.size := by have := HK.out.2.1; omega
      have HR : Hid (pe s = 0 ∧ pv s = dc s 0 i) := by rw [ei]; exact pe_ok ⟨HP.out.1, HP.out.2.1⟩ HP.out.2.2.1 (by have := HK.out.2.2; rw [ei] at this; exact this)
      have h8' : ¬ ((i : Int) < (s.size : Int)) := by omega
      obtain ⟨c0, c1, c2, c3⟩ := hS.hX.1.cells
      have r0 := hS.hR.1 0 (by simp); have r1 := hS.hR.1 1 (by simp); have r2 := hS.hR.1 2 (by simp); have r3 := hS.hR.1 3 (by simp)
      obtain ⟨k0, k1, k2, k3⟩ := hS.hR.2.cells4
      simp only [List.getD_cons_zero, List.getD_cons_succ] at r0 r1 r2 r3
      have hBel := hS.B
      clear hS ei
      generalize dc s 0 i = X at *
      go_wp2
      simp [bodyPost, results, Tryd.results5, go_sem, HR.out.1, HR.out.2, r0, r1, r2, r3]
      have gr := HG.out.1
      repeat (first | with_reducible exact hBel | with_reducible refine Below.setCell ?_ gr _)
end Go.Proofs.YtifenjinbjlfdaaDoor

import Derived.Test.YtlpmphldmfefkaaDoorCmp
import Derived.Test.YtlpmphldmfefkaaDoorTail
import Derived.Test.YtlpmphldmfefkaaDoorMulNum
namespace Go.Proofs.YtlpmphldmfefkaaDoor
open Go.RowKit

set_option maxHeartbeats 4000000 in
theorem mul_any {n m : Int} (hn : Num n) (hm : Num m) (w : World) :
    Calls Tryd.prog 19 #[.agg #[.int .u64 (l0 n), .int .u64 (l1 n), .int .u64 (l2 n), .int .u64 (l3 n)], .agg #[.int .u64 (l0 m), .int .u64 (l1 m), .int .u64 (l2 m), .int .u64 (l3 m)]] w fun e w' =>
      e = .returned (.tuple #[.agg #[.int .u64 (l0 (hiN n m)), .int .u64 (l1 (hiN n m)), .int .u64 (l2 (hiN n m)), .int .u64 (l3 (hiN n m))], .agg #[.int .u64 (l0 (loN n m)), .int .u64 (l1 (loN n m)), .int .u64 (l2 (loN n m)), .int .u64 (l3 (loN n m))]]) ∧ Below w.heap.size w w' := by
  have z : Word 0 := ⟨by decide, by decide⟩
  have en := num_l hn
  have em := num_l hm
  have hx0 := l0_word n; have hx1 := l1_word n; have hx2 := l2_word n; have hx3 := l3_word n
  have hy0 := l0_word m; have hy1 := l1_word m; have hy2 := l2_word m; have hy3 := l3_word m
  generalize l0 n = x0 at *; generalize l1 n = x1 at *; generalize l2 n = x2 at *; generalize l3 n = x3 at *
  generalize l0 m = y0 at *; generalize l1 m = y1 at *; generalize l2 m = y2 at *; generalize l3 m = y3 at *
  have H00 : Hid (∀ w, Calls Tryd.prog 47 #[.int .u64 x0, .int .u64 y0, .int .u64 0, .int .u64 0] w fun e w' => e = .returned (.tuple #[.int .u64 (maH x0 y0 0 0), .int .u64 (maL x0 y0 0 0)]) ∧ w' = w) := mulAdd_any hx0 hy0 z z
  have e00 := ma_eq x0 y0 0 0
  have wp00 := maL_word x0 y0 0 0
  have wc00 := maH_word hx0 hy0 z z
  generalize maL x0 y0 0 0 = p00 at *
  generalize maH x0 y0 0 0 = c00 at *
  have H01 : Hid (∀ w, Calls Tryd.prog 47 #[.int .u64 x0, .int .u64 y1, .int .u64 0, .int .u64 c00] w fun e w' => e = .returned (.tuple #[.int .u64 (maH x0 y1 0 c00), .int .u64 (maL x0 y1 0 c00)]) ∧ w' = w) := mulAdd_any hx0 hy1 z wc00
  have e01 := ma_eq x0 y1 0 c00
  have wp01 := maL_word x0 y1 0 c00
  have wc01 := maH_word hx0 hy1 z wc00
  generalize maL x0 y1 0 c00 = p01 at *
  generalize maH x0 y1 0 c00 = c01 at *
  have H02 : Hid (∀ w, Calls Tryd.prog 47 #[.int .u64 x0, .int .u64 y2, .int .u64 0, .int .u64 c01] w fun e w' => e = .returned (.tuple #[.int .u64 (maH x0 y2 0 c01), .int .u64 (maL x0 y2 0 c01)]) ∧ w' = w) := mulAdd_any hx0 hy2 z wc01
  have e02 := ma_eq x0 y2 0 c01
  have wp02 := maL_word x0 y2 0 c01
  have wc02 := maH_word hx0 hy2 z wc01
  generalize maL x0 y2 0 c01 = p02 at *
  generalize maH x0 y2 0 c01 = c02 at *
  have H03 : Hid (∀ w, Calls Tryd.prog 47 #[.int .u64 x0, .int .u64 y3, .int .u64 0, .int .u64 c02] w fun e w' => e = .returned (.tuple #[.int .u64 (maH x0 y3 0 c02), .int .u64 (maL x0 y3 0 c02)]) ∧ w' = w) := mulAdd_any hx0 hy3 z wc02
  have e03 := ma_eq x0 y3 0 c02
  have wp03 := maL_word x0 y3 0 c02
  have wc03 := maH_word hx0 hy3 z wc02
  generalize maL x0 y3 0 c02 = p03 at *
  generalize maH x0 y3 0 c02 = c03 at *
  have H10 : Hid (∀ w, Calls Tryd.prog 47 #[.int .u64 x1, .int .u64 y0, .int .u64 p01, .int .u64 0] w fun e w' => e = .returned (.tuple #[.int .u64 (maH x1 y0 p01 0), .int .u64 (maL x1 y0 p01 0)]) ∧ w' = w) := mulAdd_any hx1 hy0 wp01 z
  have e10 := ma_eq x1 y0 p01 0
  have wp10 := maL_word x1 y0 p01 0
  have wc10 := maH_word hx1 hy0 wp01 z
  generalize maL x1 y0 p01 0 = p10 at *
  generalize maH x1 y0 p01 0 = c10 at *
  have H11 : Hid (∀ w, Calls Tryd.prog 47 #[.int .u64 x1, .int .u64 y1, .int .u64 p02, .int .u64 c10] w fun e w' => e = .returned (.tuple #[.int .u64 (maH x1 y1 p02 c10), .int .u64 (maL x1 y1 p02 c10)]) ∧ w' = w) := mulAdd_any hx1 hy1 wp02 wc10
  have e11 := ma_eq x1 y1 p02 c10
  have wp11 := maL_word x1 y1 p02 c10
  have wc11 := maH_word hx1 hy1 wp02 wc10
  generalize maL x1 y1 p02 c10 = p11 at *
  generalize maH x1 y1 p02 c10 = c11 at *
  have H12 : Hid (∀ w, Calls Tryd.prog 47 #[.int .u64 x1, .int .u64 y2, .int .u64 p03, .int .u64 c11] w fun e w' => e = .returned (.tuple #[.int .u64 (maH x1 y2 p03 c11), .int .u64 (maL x1 y2 p03 c11)]) ∧ w' = w) := mulAdd_any hx1 hy2 wp03 wc11
  have e12 := ma_eq x1 y2 p03 c11
  have wp12 := maL_word x1 y2 p03 c11
  have wc12 := maH_word hx1 hy2 wp03 wc11
  generalize maL x1 y2 p03 c11 = p12 at *
  generalize maH x1 y2 p03 c11 = c12 at *
  have H13 : Hid (∀ w, Calls Tryd.prog 47 #[.int .u64 x1, .int .u64 y3, .int .u64 c03, .int .u64 c12] w fun e w' => e = .returned (.tuple #[.int .u64 (maH x1 y3 c03 c12), .int .u64 (maL x1 y3 c03 c12)]) ∧ w' = w) := mulAdd_any hx1 hy3 wc03 wc12
  have e13 := ma_eq x1 y3 c03 c12
  have wp13 := maL_word x1 y3 c03 c12
  have wc13 := maH_word hx1 hy3 wc03 wc12
  generalize maL x1 y3 c03 c12 = p13 at *
  generalize maH x1 y3 c03 c12 = c13 at *
  have H20 : Hid (∀ w, Calls Tryd.prog 47 #[.int .u64 x2, .int .u64 y0, .int .u64 p11, .int .u64 0] w fun e w' => e = .returned (.tuple #[.int .u64 (maH x2 y0 p11 0), .int .u64 (maL x2 y0 p11 0)]) ∧ w' = w) := mulAdd_any hx2 hy0 wp11 z
  have e20 := ma_eq x2 y0 p11 0
  have wp20 := maL_word x2 y0 p11 0
  have wc20 := maH_word hx2 hy0 wp11 z
  generalize maL x2 y0 p11 0 = p20 at *
  generalize maH x2 y0 p11 0 = c20 at *
  have H21 : Hid (∀ w, Calls Tryd.prog 47 #[.int .u64 x2, .int .u64 y1, .int .u64 p12, .int .u64 c20] w fun e w' => e = .returned (.tuple #[.int .u64 (maH x2 y1 p12 c20), .int .u64 (maL x2 y1 p12 c20)]) ∧ w' = w) := mulAdd_any hx2 hy1 wp12 wc20
  have e21 := ma_eq x2 y1 p12 c20
  have wp21 := maL_word x2 y1 p12 c20
  have wc21 := maH_word hx2 hy1 wp12 wc20
  generalize maL x2 y1 p12 c20 = p21 at *
  generalize maH x2 y1 p12 c20 = c21 at *
  have H22 : Hid (∀ w, Calls Tryd.prog 47 #[.int .u64 x2, .int .u64 y2, .int .u64 p13, .int .u64 c21] w fun e w' => e = .returned (.tuple #[.int .u64 (maH x2 y2 p13 c21), .int .u64 (maL x2 y2 p13 c21)]) ∧ w' = w) := mulAdd_any hx2 hy2 wp13 wc21
  have e22 := ma_eq x2 y2 p13 c21
  have wp22 := maL_word x2 y2 p13 c21
  have wc22 := maH_word hx2 hy2 wp13 wc21
  generalize maL x2 y2 p13 c21 = p22 at *
  generalize maH x2 y2 p13 c21 = c22 at *
  have H23 : Hid (∀ w, Calls Tryd.prog 47 #[.int .u64 x2, .int .u64 y3, .int .u64 c13, .int .u64 c22] w fun e w' => e = .returned (.tuple #[.int .u64 (maH x2 y3 c13 c22), .int .u64 (maL x2 y3 c13 c22)]) ∧ w' = w) := mulAdd_any hx2 hy3 wc13 wc22
  have e23 := ma_eq x2 y3 c13 c22
  have wp23 := maL_word x2 y3 c13 c22
  have wc23 := maH_word hx2 hy3 wc13 wc22
  generalize maL x2 y3 c13 c22 = p23 at *
  generalize maH x2 y3 c13 c22 = c23 at *
  have H30 : Hid (∀ w, Calls Tryd.prog 47 #[.int .u64 x3, .int .u64 y0, .int .u64 p21, .int .u64 0] w fun e w' => e = .returned (.tuple #[.int .u64 (maH x3 y0 p21 0), .int .u64 (maL x3 y0 p21 0)]) ∧ w' = w) := mulAdd_any hx3 hy0 wp21 z
  have e30 := ma_eq x3 y0 p21 0
  have wp30 := maL_word x3 y0 p21 0
  have wc30 := maH_word hx3 hy0 wp21 z
  generalize maL x3 y0 p21 0 = p30 at *
  generalize maH x3 y0 p21 0 = c30 at *
  have H31 : Hid (∀ w, Calls Tryd.prog 47 #[.int .u64 x3, .int .u64 y1, .int .u64 p22, .int .u64 c30] w fun e w' => e = .returned (.tuple #[.int .u64 (maH x3 y1 p22 c30), .int .u64 (maL x3 y1 p22 c30)]) ∧ w' = w) := mulAdd_any hx3 hy1 wp22 wc30
  have e31 := ma_eq x3 y1 p22 c30
  have wp31 := maL_word x3 y1 p22 c30
  have wc31 := maH_word hx3 hy1 wp22 wc30
  generalize maL x3 y1 p22 c30 = p31 at *
  generalize maH x3 y1 p22 c30 = c31 at *
  have H32 : Hid (∀ w, Calls Tryd.prog 47 #[.int .u64 x3, .int .u64 y2, .int .u64 p23, .int .u64 c31] w fun e w' => e = .returned (.tuple #[.int .u64 (maH x3 y2 p23 c31), .int .u64 (maL x3 y2 p23 c31)]) ∧ w' = w) := mulAdd_any hx3 hy2 wp23 wc31
  have e32 := ma_eq x3 y2 p23 c31
  have wp32 := maL_word x3 y2 p23 c31
  have wc32 := maH_word hx3 hy2 wp23 wc31
  generalize maL x3 y2 p23 c31 = p32 at *
  generalize maH x3 y2 p23 c31 = c32 at *
  have H33 : Hid (∀ w, Calls Tryd.prog 47 #[.int .u64 x3, .int .u64 y3, .int .u64 c23, .int .u64 c32] w fun e w' => e = .returned (.tuple #[.int .u64 (maH x3 y3 c23 c32), .int .u64 (maL x3 y3 c23 c32)]) ∧ w' = w) := mulAdd_any hx3 hy3 wc23 wc32
  have e33 := ma_eq x3 y3 c23 c32
  have wp33 := maL_word x3 y3 c23 c32
  have wc33 := maH_word hx3 hy3 wc23 wc32
  generalize maL x3 y3 c23 c32 = p33 at *
  generalize maH x3 y3 c23 c32 = c33 at *
  have E := mul_rows (mul_row e00 e01 e02 e03) (mul_row e10 e11 e12 e13) (mul_row e20 e21 e22 e23) (mul_row e30 e31 e32 e33)
  rw [en, em] at E
  obtain ⟨eh, el⟩ := halves (num_Num wp00 wp10 wp20 wp30) E
  obtain ⟨h0, h1, h2, h3⟩ := limbs_of wp31 wp32 wp33 wc33 eh
  obtain ⟨k0, k1, k2, k3⟩ := limbs_of wp00 wp10 wp20 wp30 el
  rw [h0, h1, h2, h3, k0, k1, k2, k3]
  clear E eh el h0 h1 h2 h3 k0 k1 k2 k3 en em hn hm z hx0 hx1 hx2 hx3 hy0 hy1 hy2 hy3
  clear e00 wp00 wc00 e01 wp01 wc01 e02 wp02 wc02 e03 wp03 wc03 e10 wp10 wc10 e11 wp11 wc11 e12 wp12 wc12 e13 wp13 wc13 e20 wp20 wc20 e21 wp21 wc21 e22 wp22 wc22 e23 wp23 wc23 e30 wp30 wc30 e31 wp31 wc31 e32 wp32 wc32 e33 wp33 wc33
  go_enter Tryd.func19, Tryd.ntmps19
  go_wp2
  refine wp_loop_rounds 5 ?_
  rw [rounds_succ]; go_wp2
  refine wp_loop_rounds 5 ?_
  rw [rounds_succ]; go_wp2
  refine region_tail 21 (by kernel_rfl) (by kernel_rfl) ?_
  simp only [List.take_succ_cons, List.take_zero, List.drop_succ_cons, List.drop_zero]
  repeat (first | go_big_quiet_skip | (go_big_quiet_want; go_big_quiet_op; first | go_big_quiet_on | (refine ⟨_, H00.out _, ?_⟩; go_big_quiet_on)))
  refine wpQuiet_nil ?_
  go_wp2
  rw [rounds_succ]; go_wp2
  refine region_tail 21 (by kernel_rfl) (by kernel_rfl) ?_
  simp only [List.take_succ_cons, List.take_zero, List.drop_succ_cons, List.drop_zero]
  repeat (first | go_big_quiet_skip | (go_big_quiet_want; go_big_quiet_op; first | go_big_quiet_on | (refine ⟨_, H01.out _, ?_⟩; go_big_quiet_on)))
  refine wpQuiet_nil ?_
  go_wp2
  rw [rounds_succ]; go_wp2
  refine region_tail 21 (by kernel_rfl) (by kernel_rfl) ?_
  simp only [List.take_succ_cons, List.take_zero, List.drop_succ_cons, List.drop_zero]
  repeat (first | go_big_quiet_skip | (go_big_quiet_want; go_big_quiet_op; first | go_big_quiet_on | (refine ⟨_, H02.out _, ?_⟩; go_big_quiet_on)))
  refine wpQuiet_nil ?_
  go_wp2
  rw [rounds_succ]; go_wp2
  refine region_tail 21 (by kernel_rfl) (by kernel_rfl) ?_
  simp only [List.take_succ_cons, List.take_zero, List.drop_succ_cons, List.drop_zero]
  repeat (first | go_big_quiet_skip | (go_big_quiet_want; go_big_quiet_op; first | go_big_quiet_on | (refine ⟨_, H03.out _, ?_⟩; go_big_quiet_on)))
  refine wpQuiet_nil ?_
  go_wp2
  rw [rounds_succ]; go_wp2
  rw [rounds_succ]; go_wp2
  refine wp_loop_rounds 5 ?_
  rw [rounds_succ]; go_wp2
  refine region_tail 21 (by kernel_rfl) (by kernel_rfl) ?_
  simp only [List.take_succ_cons, List.take_zero, List.drop_succ_cons, List.drop_zero]
  repeat (first | go_big_quiet_skip | (go_big_quiet_want; go_big_quiet_op; first | go_big_quiet_on | (refine ⟨_, H10.out _, ?_⟩; go_big_quiet_on)))
  refine wpQuiet_nil ?_
  go_wp2
  rw [rounds_succ]; go_wp2
  refine region_tail 21 (by kernel_rfl) (by kernel_rfl) ?_
  simp only [List.take_succ_cons, List.take_zero, List.drop_succ_cons, List.drop_zero]
  repeat (first | go_big_quiet_skip | (go_big_quiet_want; go_big_quiet_op; first | go_big_quiet_on | (refine ⟨_, H11.out _, ?_⟩; go_big_quiet_on)))
  refine wpQuiet_nil ?_
  go_wp2
  rw [rounds_succ]; go_wp2
  refine region_tail 21 (by kernel_rfl) (by kernel_rfl) ?_
  simp only [List.take_succ_cons, List.take_zero, List.drop_succ_cons, List.drop_zero]
  repeat (first | go_big_quiet_skip | (go_big_quiet_want; go_big_quiet_op; first | go_big_quiet_on | (refine ⟨_, H12.out _, ?_⟩; go_big_quiet_on)))
  refine wpQuiet_nil ?_
  go_wp2
  rw [rounds_succ]; go_wp2
  refine region_tail 21 (by kernel_rfl) (by kernel_rfl) ?_
  simp only [List.take_succ_cons, List.take_zero, List.drop_succ_cons, List.drop_zero]
  repeat (first | go_big_quiet_skip | (go_big_quiet_want; go_big_quiet_op; first | go_big_quiet_on | (refine ⟨_, H13.out _, ?_⟩; go_big_quiet_on)))
  refine wpQuiet_nil ?_
  go_wp2
  rw [rounds_succ]; go_wp2
  rw [rounds_succ]; go_wp2
  refine wp_loop_rounds 5 ?_
  rw [rounds_succ]; go_wp2
  refine region_tail 21 (by kernel_rfl) (by kernel_rfl) ?_
  simp only [List.take_succ_cons, List.take_zero, List.drop_succ_cons, List.drop_zero]
  repeat (first | go_big_quiet_skip | (go_big_quiet_want; go_big_quiet_op; first | go_big_quiet_on | (refine ⟨_, H20.out _, ?_⟩; go_big_quiet_on)))
  refine wpQuiet_nil ?_
  go_wp2
  rw [rounds_succ]; go_wp2
  refine region_tail 21 (by kernel_rfl) (by kernel_rfl) ?_
  simp only [List.take_succ_cons, List.take_zero, List.drop_succ_cons, List.drop_zero]
  repeat (first | go_big_quiet_skip | (go_big_quiet_want; go_big_quiet_op; first | go_big_quiet_on | (refine ⟨_, H21.out _, ?_⟩; go_big_quiet_on)))
  refine wpQuiet_nil ?_
  go_wp2
  rw [rounds_succ]; go_wp2
  refine region_tail 21 (by kernel_rfl) (by kernel_rfl) ?_
  simp only [List.take_succ_cons, List.take_zero, List.drop_succ_cons, List.drop_zero]
  repeat (first | go_big_quiet_skip | (go_big_quiet_want; go_big_quiet_op; first | go_big_quiet_on | (refine ⟨_, H22.out _, ?_⟩; go_big_quiet_on)))
  refine wpQuiet_nil ?_
  go_wp2
  rw [rounds_succ]; go_wp2
  refine region_tail 21 (by kernel_rfl) (by kernel_rfl) ?_
  simp only [List.take_succ_cons, List.take_zero, List.drop_succ_cons, List.drop_zero]
  repeat (first | go_big_quiet_skip | (go_big_quiet_want; go_big_quiet_op; first | go_big_quiet_on | (refine ⟨_, H23.out _, ?_⟩; go_big_quiet_on)))
  refine wpQuiet_nil ?_
  go_wp2
  rw [rounds_succ]; go_wp2
  rw [rounds_succ]; go_wp2
  refine wp_loop_rounds 5 ?_
  rw [rounds_succ]; go_wp2
  refine region_tail 21 (by kernel_rfl) (by kernel_rfl) ?_
  simp only [List.take_succ_cons, List.take_zero, List.drop_succ_cons, List.drop_zero]
  repeat (first | go_big_quiet_skip | (go_big_quiet_want; go_big_quiet_op; first | go_big_quiet_on | (refine ⟨_, H30.out _, ?_⟩; go_big_quiet_on)))
  refine wpQuiet_nil ?_
  go_wp2
  rw [rounds_succ]; go_wp2
  refine region_tail 21 (by kernel_rfl) (by kernel_rfl) ?_
  simp only [List.take_succ_cons, List.take_zero, List.drop_succ_cons, List.drop_zero]
  repeat (first | go_big_quiet_skip | (go_big_quiet_want; go_big_quiet_op; first | go_big_quiet_on | (refine ⟨_, H31.out _, ?_⟩; go_big_quiet_on)))
  refine wpQuiet_nil ?_
  go_wp2
  rw [rounds_succ]; go_wp2
  refine region_tail 21 (by kernel_rfl) (by kernel_rfl) ?_
  simp only [List.take_succ_cons, List.take_zero, List.drop_succ_cons, List.drop_zero]
  repeat (first | go_big_quiet_skip | (go_big_quiet_want; go_big_quiet_op; first | go_big_quiet_on | (refine ⟨_, H32.out _, ?_⟩; go_big_quiet_on)))
  refine wpQuiet_nil ?_
  go_wp2
  rw [rounds_succ]; go_wp2
  refine region_tail 21 (by kernel_rfl) (by kernel_rfl) ?_
  simp only [List.take_succ_cons, List.take_zero, List.drop_succ_cons, List.drop_zero]
  repeat (first | go_big_quiet_skip | (go_big_quiet_want; go_big_quiet_op; first | go_big_quiet_on | (refine ⟨_, H33.out _, ?_⟩; go_big_quiet_on)))
  refine wpQuiet_nil ?_
  go_wp2
  rw [rounds_succ]; go_wp2
  rw [rounds_succ]
  go_wp2_with (go_at_call 48; refine (split_any _ _ _ _ _ _ _ _ _).mono ?_; rintro e w' ⟨rfl, hw⟩; have hc := oldCells hw)
  have hz := hw.size
  simp at hz
  simp [bodyPost, results, Tryd.results19, go_sem, hc]
  clear hc
  repeat (first | with_reducible exact Below.refl _ _ | with_reducible refine Below.drew ?_ | with_reducible refine Below.setCell ?_ (by first | omega | (simp; done) | (simp; omega)) _ | with_reducible refine Below.alloc ?_ (by first | omega | (simp; done) | (simp; omega)) _ | with_reducible refine Below.trans ?_ (Below.mono hw (by first | omega | (simp; done) | (simp; omega))))

end Go.Proofs.YtlpmphldmfefkaaDoor

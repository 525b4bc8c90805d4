import Derived.Test.YtncpjgpioajbeaaGreatDoorFRefX
import Derived.Test.YtncpjgpioajbeaaGreatDoorFExp
import Derived.Test.YtncpjgpioajbeaaGreatDoorRefShl
namespace Go.Proofs.YtncpjgpioajbeaaGreatDoor
open Go.RowKit Go.Sort

set_option maxHeartbeats 2000000 in
theorem rbelow_any {k x : Int} (hx : Num x) (w : World) :
    Calls Tryz.prog 147 #[.int .i64 k, .agg #[.int .u64 (l0 x), .int .u64 (l1 x), .int .u64 (l2 x), .int .u64 (l3 x)]] w fun e w' => e = .returned (.agg #[.int .u64 (l0 (modN (rM k) x)), .int .u64 (l1 (modN (rM k) x)), .int .u64 (l2 (modN (rM k) x)), .int .u64 (l3 (modN (rM k) x))]) ∧ Below w.heap.size w w' := by
  have R1 : Hid (∀ w, Calls Tryz.prog 135 #[.int .i64 k, .agg #[.int .u64 0, .int .u64 0, .int .u64 0, .int .u64 0], .agg #[.int .u64 (l0 x), .int .u64 (l1 x), .int .u64 (l2 x), .int .u64 (l3 x)]] w fun e w' => e = .returned (.agg #[.int .u64 (l0 (modN (rM k) x)), .int .u64 (l1 (modN (rM k) x)), .int .u64 (l2 (modN (rM k) x)), .int .u64 (l3 (modN (rM k) x))]) ∧ Below w.heap.size w w') := fun w => by
    have := rfold_any (k := k) (h := 0) ⟨by decide, by decide⟩ hx w
    obtain ⟨z0, z1, z2, z3⟩ := zero_limbs
    rw [wide_zero, z0, z1, z2, z3] at this
    exact this
  have bz := build_zero
  generalize modN (rM k) x = R at *
  go_enter Tryz.func147, Tryz.ntmps147
  go_wp2_with fail
  refine calls_world (fun W => Below w.heap.size w W ∧ Blank W (w.heap.size + 1)) ⟨by repeat (first | with_reducible exact Below.refl _ _ | with_reducible refine Below.alloc ?_ (by first | omega | (simp; done) | (simp; omega)) _), Blank.new (by simp)⟩ ?_
  rintro W ⟨B, hR⟩
  have o3 : w.heap.size ≤ w.heap.size + 1 := by omega
  generalize w.heap.size + 1 = br at *
  with_reducible refine (R1.out _).mono ?_
  rintro e w1 ⟨rfl, hb⟩
  replace B := B.trans (hb.mono B.size)
  replace hR := hR.keep hb
  clear hb W
  have gR := hR.1.all4; have fR := hR.2.all4
  go_wp2
  simp [bodyPost, results, Tryz.results147, go_sem, gR]
  exact below_set4 B o3 _ _ _ _

theorem carN_wordF {n m : Int} (hn : Num n) (hm : Num m) : Word (carN n m) := by
  obtain ⟨_, _⟩ := hn; obtain ⟨_, _⟩ := hm
  unfold carN Word
  omega
theorem wide_sum (x y : Int) : wideN (carN x y) (sumN x y) = x + y := by unfold wideN carN sumN; omega

set_option maxHeartbeats 2000000 in
theorem rplus_any {k x y : Int} (hx : Num x) (hy : Num y) (w : World) :
    Calls Tryz.prog 146 #[.int .i64 k, .agg #[.int .u64 (l0 x), .int .u64 (l1 x), .int .u64 (l2 x), .int .u64 (l3 x)], .agg #[.int .u64 (l0 y), .int .u64 (l1 y), .int .u64 (l2 y), .int .u64 (l3 y)]] w fun e w' => e = .returned (.agg #[.int .u64 (l0 (modN (rM k) (x + y))), .int .u64 (l1 (modN (rM k) (x + y))), .int .u64 (l2 (modN (rM k) (x + y))), .int .u64 (l3 (modN (rM k) (x + y)))]) ∧ Below w.heap.size w w' := by
  have wc := carN_wordF hx hy
  have nc : Num (carN x y) := by obtain ⟨a, b⟩ := wc; exact ⟨a, by omega⟩
  have A1 : Hid (∀ w, Calls Tryz.prog 155 #[.agg #[.int .u64 (l0 x), .int .u64 (l1 x), .int .u64 (l2 x), .int .u64 (l3 x)], .agg #[.int .u64 (l0 y), .int .u64 (l1 y), .int .u64 (l2 y), .int .u64 (l3 y)]] w fun e w' => e = .returned (.tuple #[.agg #[.int .u64 (l0 (sumN x y)), .int .u64 (l1 (sumN x y)), .int .u64 (l2 (sumN x y)), .int .u64 (l3 (sumN x y))], .int .u64 (carN x y)]) ∧ Below w.heap.size w w') := radd_any hx hy
  have F1 : Hid (∀ w, Calls Tryz.prog 148 #[.int .u64 (carN x y)] w fun e w' => e = .returned (.agg #[.int .u64 (l0 (carN x y)), .int .u64 (l1 (carN x y)), .int .u64 (l2 (carN x y)), .int .u64 (l3 (carN x y))]) ∧ Below w.heap.size w w') := rfrom_any wc
  have R1 : Hid (∀ w, Calls Tryz.prog 135 #[.int .i64 k, .agg #[.int .u64 (l0 (carN x y)), .int .u64 (l1 (carN x y)), .int .u64 (l2 (carN x y)), .int .u64 (l3 (carN x y))], .agg #[.int .u64 (l0 (sumN x y)), .int .u64 (l1 (sumN x y)), .int .u64 (l2 (sumN x y)), .int .u64 (l3 (sumN x y))]] w fun e w' => e = .returned (.agg #[.int .u64 (l0 (modN (rM k) (x + y))), .int .u64 (l1 (modN (rM k) (x + y))), .int .u64 (l2 (modN (rM k) (x + y))), .int .u64 (l3 (modN (rM k) (x + y)))]) ∧ Below w.heap.size w w') := fun w => by
    have := rfold_any (k := k) nc (sumN_Num x y) w; rw [wide_sum] at this; exact this
  clear wc nc
  generalize modN (rM k) (x + y) = R at *
  generalize carN x y = C at *
  generalize sumN x y = S at *
  go_enter Tryz.func146, Tryz.ntmps146
  go_wp2_with fail
  refine calls_world (fun W => Below w.heap.size w W ∧ Blank W (w.heap.size + 1 + 1)) ⟨by repeat (first | with_reducible exact Below.refl _ _ | with_reducible refine Below.alloc ?_ (by first | omega | (simp; done) | (simp; omega)) _), Blank.new (by simp)⟩ ?_
  rintro W ⟨B, hR⟩
  have o3 : w.heap.size ≤ w.heap.size + 1 + 1 := by omega
  generalize w.heap.size + 1 + 1 = br at *
  with_reducible refine (A1.out _).mono ?_
  rintro e w1 ⟨rfl, hb⟩
  replace B := B.trans (hb.mono B.size)
  replace hR := hR.keep hb
  clear hb W
  go_wp2_with fail
  refine wp_world (fun W => Below w.heap.size w W ∧ Blank W br ∧ Hold W w1.heap.size S) ⟨B.alloc B.size _, hR.alloc _, Hold.new _ _ _⟩ ?_
  clear B hR
  rintro W ⟨B, hR, hS⟩
  generalize w1.heap.size = bs at *
  have gS := hS.grown
  refine below_tail 5 (by kernel_rfl) (by kernel_rfl) ?_
  simp only [List.take_succ_cons, List.take_zero, List.drop_succ_cons, List.drop_zero]
  repeat
    first
      | go_big_quiet_skip
      | (go_big_quiet_want; go_big_quiet_op; go_big_quiet_on)
      | (go_big_quiet_want
         go_big_quiet_op
         apply Exists.intro
         refine ⟨fun p => ?_, ?_⟩
         · (first | (go_at_call 148; with_reducible exact Calls.regrown_of (F1.out _)) | (go_at_call 135; with_reducible exact Calls.regrown_of (R1.out _)))
         go_big_quiet_on)
  refine wpQuiet_nil ?_
  rintro w2 ⟨p, rfl⟩
  have hb := below_regrown W p.d p.os
  generalize grow (redrawn W p.d) p.os = w2 at *
  replace B := B.trans (hb.mono B.size)
  replace hR := hR.keep hb
  clear hb hS gS W
  have gR := hR.1.all4; have fR := hR.2.all4
  go_wp2
  simp [bodyPost, results, Tryz.results146, go_sem, gR]
  exact below_set4 B o3 _ _ _ _

theorem less_num {m c x : Int} (hf : Fit m c) : difN m (modN m x) = m - modN m x ∧ Num (m - modN m x) ∧ modN m (m - modN m x) = modN m (0 - x) := by
  obtain ⟨a0, a1⟩ := modN_lt hf x
  obtain ⟨h1, h2, h3⟩ := hf
  refine ⟨by unfold difN; omega, ⟨by omega, by omega⟩, ?_⟩
  unfold modN at *
  rw [Int.sub_emod, Int.emod_self, Int.emod_emod_of_dvd _ (Int.dvd_refl m), Int.sub_emod 0 x, Int.zero_emod]
set_option maxHeartbeats 4000000 in
theorem rless_any {k x : Int} (hx : Num x) (w : World) :
    Calls Tryz.prog 174 #[.int .i64 k, .agg #[.int .u64 (l0 x), .int .u64 (l1 x), .int .u64 (l2 x), .int .u64 (l3 x)]] w fun e w' => e = .returned (.agg #[.int .u64 (l0 (modN (rM k) (0 - x))), .int .u64 (l1 (modN (rM k) (0 - x))), .int .u64 (l2 (modN (rM k) (0 - x))), .int .u64 (l3 (modN (rM k) (0 - x)))]) ∧ Below w.heap.size w w' := by
  have hf := rfit k
  obtain ⟨q1, q2, q3⟩ := less_num (x := x) hf
  have M1 : Hid (∀ w, Calls Tryz.prog 118 #[.int .i64 k] w fun e w' => e = .returned (.agg #[.int .u64 (l0 (rM k)), .int .u64 (l1 (rM k)), .int .u64 (l2 (rM k)), .int .u64 (l3 (rM k))]) ∧ Below w.heap.size w w') := rmodulus_any k
  have B1 : Hid (∀ w, Calls Tryz.prog 147 #[.int .i64 k, .agg #[.int .u64 (l0 x), .int .u64 (l1 x), .int .u64 (l2 x), .int .u64 (l3 x)]] w fun e w' => e = .returned (.agg #[.int .u64 (l0 (modN (rM k) x)), .int .u64 (l1 (modN (rM k) x)), .int .u64 (l2 (modN (rM k) x)), .int .u64 (l3 (modN (rM k) x))]) ∧ Below w.heap.size w w') := rbelow_any hx
  have S1 : Hid (∀ w, Calls Tryz.prog 70 #[.agg #[.int .u64 (l0 (rM k)), .int .u64 (l1 (rM k)), .int .u64 (l2 (rM k)), .int .u64 (l3 (rM k))], .agg #[.int .u64 (l0 (modN (rM k) x)), .int .u64 (l1 (modN (rM k) x)), .int .u64 (l2 (modN (rM k) x)), .int .u64 (l3 (modN (rM k) x))]] w fun e w' => e = .returned (.tuple #[.agg #[.int .u64 (l0 (rM k - modN (rM k) x)), .int .u64 (l1 (rM k - modN (rM k) x)), .int .u64 (l2 (rM k - modN (rM k) x)), .int .u64 (l3 (rM k - modN (rM k) x))], .int .u64 (borN (rM k) (modN (rM k) x))]) ∧ Below w.heap.size w w') := fun w => by
    have := rsub_any hf.num (modN_Num hf x) w; rw [q1] at this; exact this
  have B2 : Hid (∀ w, Calls Tryz.prog 147 #[.int .i64 k, .agg #[.int .u64 (l0 (rM k - modN (rM k) x)), .int .u64 (l1 (rM k - modN (rM k) x)), .int .u64 (l2 (rM k - modN (rM k) x)), .int .u64 (l3 (rM k - modN (rM k) x))]] w fun e w' => e = .returned (.agg #[.int .u64 (l0 (modN (rM k) (0 - x))), .int .u64 (l1 (modN (rM k) (0 - x))), .int .u64 (l2 (modN (rM k) (0 - x))), .int .u64 (l3 (modN (rM k) (0 - x)))]) ∧ Below w.heap.size w w') := fun w => by
    have := rbelow_any (k := k) q2 w; rw [q3] at this; exact this
  clear q1 q2 q3 hf hx
  generalize borN (rM k) (modN (rM k) x) = z at *
  generalize modN (rM k) (0 - x) = R at *
  generalize rM k - modN (rM k) x = D at *
  generalize modN (rM k) x = b at *
  generalize rM k = m at *
  go_enter Tryz.func174, Tryz.ntmps174
  go_wp2_with fail
  refine wp_world (fun W => Below w.heap.size w W ∧ Hold W w.heap.size x ∧ Blank W (w.heap.size + 1)) ⟨by repeat (first | with_reducible exact Below.refl _ _ | with_reducible refine Below.alloc ?_ (by first | omega | (simp; done) | (simp; omega)) _), (Hold.fresh (by simp)).alloc _, Blank.new (by simp)⟩ ?_
  rintro W ⟨B, hX, hR⟩
  have o3 : w.heap.size ≤ w.heap.size + 1 := by omega
  generalize w.heap.size + 1 = br at *
  generalize hbf : w.heap.size = bx at *
  have gX := hX.cells
  have lx : bx < W.heap.size := World.block_lt_of_cell? W _ hX.1
  have lr : br < W.heap.size := hR.1.lt (by simp)
  have BB : Hid (Below bx w W) := B
  have HR : Hid (Blank W br) := hR
  have geB : bx ≤ W.heap.size := by omega
  clear B hX hR
  refine wp_out (fun a' W' => ∃ bs, Below bx w W' ∧ Blank W' br ∧ Hold W' bs D ∧ a' = { tmps := #[.int .i64 k, .agg #[.int .u64 (l0 x), .int .u64 (l1 x), .int .u64 (l2 x), .int .u64 (l3 x)], Go.undef, .pointer (some { block := bx, off := 0 }), .pointer (some { block := br, off := 0 }), .pointer (some { block := bs, off := 0 }), .int .u64 z, .tuple #[.agg #[.int .u64 (l0 D), .int .u64 (l1 D), .int .u64 (l2 D), .int .u64 (l3 D)], .int .u64 z], .int .i64 k, .agg #[.int .u64 (l0 m), .int .u64 (l1 m), .int .u64 (l2 m), .int .u64 (l3 m)], .int .i64 k, .agg #[.int .u64 (l0 x), .int .u64 (l1 x), .int .u64 (l2 x), .int .u64 (l3 x)], .agg #[.int .u64 (l0 b), .int .u64 (l1 b), .int .u64 (l2 b), .int .u64 (l3 b)], .tuple #[.agg #[.int .u64 (l0 D), .int .u64 (l1 D), .int .u64 (l2 D), .int .u64 (l3 D)], .int .u64 z], .agg #[.int .u64 (l0 D), .int .u64 (l1 D), .int .u64 (l2 D), .int .u64 (l3 D)], .int .u64 z, Go.undef, Go.undef, Go.undef], defers := [] }) ?_ ?_
  · have dz : W.drew.heap.size = W.heap.size := rfl
    clear B2
    have _ : bx < W.heap.size := by omega
    have _ : bx ≤ W.heap.size := by omega
    have _ : bx < W.heap.size + 1 := by omega
    have _ : bx < W.heap.size + 1 + 1 := by omega
    have _ : bx ≠ W.heap.size := by omega
    have _ : W.heap.size ≠ bx := by omega
    have _ : bx ≠ W.heap.size + 1 := by omega
    have _ : W.heap.size + 1 ≠ bx := by omega
    have _ : br < W.heap.size := by omega
    have _ : br ≤ W.heap.size := by omega
    have _ : br < W.heap.size + 1 := by omega
    have _ : br < W.heap.size + 1 + 1 := by omega
    have _ : br ≠ W.heap.size := by omega
    have _ : W.heap.size ≠ br := by omega
    have _ : br ≠ W.heap.size + 1 := by omega
    have _ : W.heap.size + 1 ≠ br := by omega
    go_region_held3 (fun w' => w'.cell? ⟨bx, 0, none⟩ = some (.int .u64 (l0 x)) ∧ w'.cell? ⟨bx, 1, none⟩ = some (.int .u64 (l1 x)) ∧ w'.cell? ⟨bx, 2, none⟩ = some (.int .u64 (l2 x)) ∧ w'.cell? ⟨bx, 3, none⟩ = some (.int .u64 (l3 x))) (((try dsimp only); (repeat' (apply And.intro)); (all_goals repeat (first | with_reducible assumption | with_reducible apply cell_keep hb3 | with_reducible apply cell_keep hb2 | with_reducible apply cell_keep hb1 | with_reducible apply cell_alloc | (with_reducible refine cell_set ?_ (by with_reducible assumption)) | (simp [go_sem, *]; done)))))
      (first
        | (go_at_call 118; with_reducible refine (M1.out _).mono ?_; rintro e w1 ⟨rfl, hb1⟩; have hc1 := oldCells hb1; have hz1 := hb1.size; (try simp at hz1); (try (have := fun j => oldCells hb1 (W.heap.size) j (by first | omega | (simp; done) | (simp; omega)))); (try (have := fun j => oldCells hb1 (W.heap.size + 1) j (by first | omega | (simp; done) | (simp; omega)))); have _ : bx < w1.heap.size := (by omega); have _ : bx ≤ w1.heap.size := (by omega); have _ : bx < w1.heap.size + 1 := (by omega); have _ : bx < w1.heap.size + 1 + 1 := (by omega); have _ : bx ≠ w1.heap.size := (by omega); have _ : w1.heap.size ≠ bx := (by omega); have _ : bx ≠ w1.heap.size + 1 := (by omega); have _ : w1.heap.size + 1 ≠ bx := (by omega); have _ : br < w1.heap.size := (by omega); have _ : br ≤ w1.heap.size := (by omega); have _ : br < w1.heap.size + 1 := (by omega); have _ : br < w1.heap.size + 1 + 1 := (by omega); have _ : br ≠ w1.heap.size := (by omega); have _ : w1.heap.size ≠ br := (by omega); have _ : br ≠ w1.heap.size + 1 := (by omega); have _ : w1.heap.size + 1 ≠ br := (by omega); (try (have _ : W.heap.size < w1.heap.size := (by omega))); (try (have _ : W.heap.size ≤ w1.heap.size := (by omega))); (try (have _ : W.heap.size ≠ w1.heap.size := (by omega))); (try (have _ : w1.heap.size ≠ W.heap.size := (by omega))); (try (have _ : W.heap.size < w1.heap.size + 1 := (by omega))); (try (have _ : W.heap.size + 1 < w1.heap.size := (by omega))); (try (have _ : W.heap.size + 1 ≤ w1.heap.size := (by omega))); (try (have _ : W.heap.size + 1 ≠ w1.heap.size := (by omega))); (try (have _ : w1.heap.size ≠ W.heap.size + 1 := (by omega))); (try (have _ : W.heap.size + 1 < w1.heap.size + 1 := (by omega))))
        | (go_at_call 147; with_reducible refine (B1.out _).mono ?_; rintro e w2 ⟨rfl, hb2⟩; have hc2 := oldCells hb2; have hz2 := hb2.size; (try simp at hz2); (try (have := fun j => oldCells hb2 (W.heap.size) j (by first | omega | (simp; done) | (simp; omega)))); (try (have := fun j => oldCells hb2 (W.heap.size + 1) j (by first | omega | (simp; done) | (simp; omega)))); (try (have := fun j => oldCells hb2 (w1.heap.size) j (by first | omega | (simp; done) | (simp; omega)))); (try (have := fun j => oldCells hb2 (w1.heap.size + 1) j (by first | omega | (simp; done) | (simp; omega)))); have _ : bx < w2.heap.size := (by omega); have _ : bx ≤ w2.heap.size := (by omega); have _ : bx < w2.heap.size + 1 := (by omega); have _ : bx < w2.heap.size + 1 + 1 := (by omega); have _ : bx ≠ w2.heap.size := (by omega); have _ : w2.heap.size ≠ bx := (by omega); have _ : bx ≠ w2.heap.size + 1 := (by omega); have _ : w2.heap.size + 1 ≠ bx := (by omega); have _ : br < w2.heap.size := (by omega); have _ : br ≤ w2.heap.size := (by omega); have _ : br < w2.heap.size + 1 := (by omega); have _ : br < w2.heap.size + 1 + 1 := (by omega); have _ : br ≠ w2.heap.size := (by omega); have _ : w2.heap.size ≠ br := (by omega); have _ : br ≠ w2.heap.size + 1 := (by omega); have _ : w2.heap.size + 1 ≠ br := (by omega); (try (have _ : W.heap.size < w2.heap.size := (by omega))); (try (have _ : W.heap.size ≤ w2.heap.size := (by omega))); (try (have _ : W.heap.size ≠ w2.heap.size := (by omega))); (try (have _ : w2.heap.size ≠ W.heap.size := (by omega))); (try (have _ : W.heap.size < w2.heap.size + 1 := (by omega))); (try (have _ : W.heap.size + 1 < w2.heap.size := (by omega))); (try (have _ : W.heap.size + 1 ≤ w2.heap.size := (by omega))); (try (have _ : W.heap.size + 1 ≠ w2.heap.size := (by omega))); (try (have _ : w2.heap.size ≠ W.heap.size + 1 := (by omega))); (try (have _ : W.heap.size + 1 < w2.heap.size + 1 := (by omega))); (try (have _ : w1.heap.size < w2.heap.size := (by omega))); (try (have _ : w1.heap.size ≤ w2.heap.size := (by omega))); (try (have _ : w1.heap.size ≠ w2.heap.size := (by omega))); (try (have _ : w2.heap.size ≠ w1.heap.size := (by omega))); (try (have _ : w1.heap.size < w2.heap.size + 1 := (by omega))); (try (have _ : w1.heap.size + 1 < w2.heap.size := (by omega))); (try (have _ : w1.heap.size + 1 ≤ w2.heap.size := (by omega))); (try (have _ : w1.heap.size + 1 ≠ w2.heap.size := (by omega))); (try (have _ : w2.heap.size ≠ w1.heap.size + 1 := (by omega))); (try (have _ : w1.heap.size + 1 < w2.heap.size + 1 := (by omega))))
        | (go_at_call 70; with_reducible refine (S1.out _).mono ?_; rintro e w3 ⟨rfl, hb3⟩; have hc3 := oldCells hb3; have hz3 := hb3.size; (try simp at hz3); (try (have := fun j => oldCells hb3 (W.heap.size) j (by first | omega | (simp; done) | (simp; omega)))); (try (have := fun j => oldCells hb3 (W.heap.size + 1) j (by first | omega | (simp; done) | (simp; omega)))); (try (have := fun j => oldCells hb3 (w1.heap.size) j (by first | omega | (simp; done) | (simp; omega)))); (try (have := fun j => oldCells hb3 (w1.heap.size + 1) j (by first | omega | (simp; done) | (simp; omega)))); (try (have := fun j => oldCells hb3 (w2.heap.size) j (by first | omega | (simp; done) | (simp; omega)))); (try (have := fun j => oldCells hb3 (w2.heap.size + 1) j (by first | omega | (simp; done) | (simp; omega)))); have _ : bx < w3.heap.size := (by omega); have _ : bx ≤ w3.heap.size := (by omega); have _ : bx < w3.heap.size + 1 := (by omega); have _ : bx < w3.heap.size + 1 + 1 := (by omega); have _ : bx ≠ w3.heap.size := (by omega); have _ : w3.heap.size ≠ bx := (by omega); have _ : bx ≠ w3.heap.size + 1 := (by omega); have _ : w3.heap.size + 1 ≠ bx := (by omega); have _ : br < w3.heap.size := (by omega); have _ : br ≤ w3.heap.size := (by omega); have _ : br < w3.heap.size + 1 := (by omega); have _ : br < w3.heap.size + 1 + 1 := (by omega); have _ : br ≠ w3.heap.size := (by omega); have _ : w3.heap.size ≠ br := (by omega); have _ : br ≠ w3.heap.size + 1 := (by omega); have _ : w3.heap.size + 1 ≠ br := (by omega); (try (have _ : W.heap.size < w3.heap.size := (by omega))); (try (have _ : W.heap.size ≤ w3.heap.size := (by omega))); (try (have _ : W.heap.size ≠ w3.heap.size := (by omega))); (try (have _ : w3.heap.size ≠ W.heap.size := (by omega))); (try (have _ : W.heap.size < w3.heap.size + 1 := (by omega))); (try (have _ : W.heap.size + 1 < w3.heap.size := (by omega))); (try (have _ : W.heap.size + 1 ≤ w3.heap.size := (by omega))); (try (have _ : W.heap.size + 1 ≠ w3.heap.size := (by omega))); (try (have _ : w3.heap.size ≠ W.heap.size + 1 := (by omega))); (try (have _ : W.heap.size + 1 < w3.heap.size + 1 := (by omega))); (try (have _ : w1.heap.size < w3.heap.size := (by omega))); (try (have _ : w1.heap.size ≤ w3.heap.size := (by omega))); (try (have _ : w1.heap.size ≠ w3.heap.size := (by omega))); (try (have _ : w3.heap.size ≠ w1.heap.size := (by omega))); (try (have _ : w1.heap.size < w3.heap.size + 1 := (by omega))); (try (have _ : w1.heap.size + 1 < w3.heap.size := (by omega))); (try (have _ : w1.heap.size + 1 ≤ w3.heap.size := (by omega))); (try (have _ : w1.heap.size + 1 ≠ w3.heap.size := (by omega))); (try (have _ : w3.heap.size ≠ w1.heap.size + 1 := (by omega))); (try (have _ : w1.heap.size + 1 < w3.heap.size + 1 := (by omega))); (try (have _ : w2.heap.size < w3.heap.size := (by omega))); (try (have _ : w2.heap.size ≤ w3.heap.size := (by omega))); (try (have _ : w2.heap.size ≠ w3.heap.size := (by omega))); (try (have _ : w3.heap.size ≠ w2.heap.size := (by omega))); (try (have _ : w2.heap.size < w3.heap.size + 1 := (by omega))); (try (have _ : w2.heap.size + 1 < w3.heap.size := (by omega))); (try (have _ : w2.heap.size + 1 ≤ w3.heap.size := (by omega))); (try (have _ : w2.heap.size + 1 ≠ w3.heap.size := (by omega))); (try (have _ : w3.heap.size ≠ w2.heap.size + 1 := (by omega))); (try (have _ : w2.heap.size + 1 < w3.heap.size + 1 := (by omega)))))
    all_goals (refine OutQ.intro ⟨_, ?_, ?_, ?_, rfl⟩)
    all_goals repeat (first | with_reducible exact BB.out | with_reducible exact HR.out | with_reducible refine Hold.fresh (by first | rfl | (simp; done) | fail) | with_reducible refine Hold.sets4 ?_ | with_reducible refine Hold.alloc ?_ _ | with_reducible refine Hold.drew ?_ | with_reducible refine Blank.alloc ?_ _ | with_reducible refine Blank.drew ?_ | with_reducible refine Blank.set4 ?_ (by with_reducible assumption) _ _ _ _ | with_reducible refine below_alloc hbf ?_ _ | with_reducible refine Below.drew ?_ | with_reducible refine Below.setCell ?_ (by with_reducible assumption) _ | with_reducible refine Has.fresh (by first | rfl | (simp; done) | fail) (by first | (simp; done) | fail) | with_reducible refine Has.alloc ?_ _ | with_reducible refine Has.drew ?_ | with_reducible refine Has.keep ?_ hb3 | with_reducible refine Hold.keep ?_ hb3 | with_reducible refine Blank.keep ?_ hb3 | with_reducible refine below_then hbf ?_ hb3 | with_reducible refine Has.keep ?_ hb2 | with_reducible refine Hold.keep ?_ hb2 | with_reducible refine Blank.keep ?_ hb2 | with_reducible refine below_then hbf ?_ hb2 | with_reducible refine Has.keep ?_ hb1 | with_reducible refine Hold.keep ?_ hb1 | with_reducible refine Blank.keep ?_ hb1 | with_reducible refine below_then hbf ?_ hb1)
  rintro _ W1 ⟨bs, B, hR, hS, rfl⟩
  subst hbf
  clear BB HR gX lx lr geB M1 B1 S1 W
  have gS := hS.cells
  go_wp2_with fail
  with_reducible refine (B2.out _).mono ?_
  rintro e w1 ⟨rfl, hb⟩
  replace B := B.trans (hb.mono B.size)
  replace hR := hR.keep hb
  clear hb gS hS
  have gR := hR.1.all4; have fR := hR.2.all4
  go_wp2
  simp [bodyPost, results, Tryz.results174, go_sem, gR]
  exact below_set4 B o3 _ _ _ _

set_option maxRecDepth 100000 in
set_option maxHeartbeats 4000000 in
theorem rpower_any {k n m : Int} (hn : Num n) (hm : Num m) (w : World) :
    Calls Tryz.prog 149 #[.int .i64 k, .agg #[.int .u64 (l0 n), .int .u64 (l1 n), .int .u64 (l2 n), .int .u64 (l3 n)], .agg #[.int .u64 (l0 m), .int .u64 (l1 m), .int .u64 (l2 m), .int .u64 (l3 m)]] w fun e w' => e = .returned (.agg #[.int .u64 (l0 (powN (rM k) n m)), .int .u64 (l1 (powN (rM k) n m)), .int .u64 (l2 (powN (rM k) n m)), .int .u64 (l3 (powN (rM k) n m))]) ∧ Below w.heap.size w w' := by
  have hf := rfit k
  have hT : Hid (∀ {x y : Int}, Num x → Num y → ∀ w, Calls Tryz.prog 145 #[.int .i64 k, .agg #[.int .u64 (l0 x), .int .u64 (l1 x), .int .u64 (l2 x), .int .u64 (l3 x)], .agg #[.int .u64 (l0 y), .int .u64 (l1 y), .int .u64 (l2 y), .int .u64 (l3 y)]] w fun e w' => e = .returned (.agg #[.int .u64 (l0 (modN (rM k) (x * y))), .int .u64 (l1 (modN (rM k) (x * y))), .int .u64 (l2 (modN (rM k) (x * y))), .int .u64 (l3 (modN (rM k) (x * y)))]) ∧ Below w.heap.size w w') := fun hx hy w => rtimes_any hx hy w
  generalize rM k = q at *
  generalize rC k = c at *
  have one : Word 1 := ⟨by decide, by decide⟩
  go_enter Tryz.func149, Tryz.ntmps149
  go_wp2_with fail
  refine calls_world (fun W => Below w.heap.size w W ∧ Hold W w.heap.size n ∧ Hold W (w.heap.size + 1) m ∧ Blank W (w.heap.size + 1 + 1)) ⟨?_, ?_, ?_, ?_⟩ ?_
  · repeat (first | with_reducible exact Below.refl _ _ | with_reducible refine Below.alloc ?_ (by first | omega | (simp; done) | (simp; omega)) _)
  · exact ((Hold.fresh (by simp)).alloc _).alloc _
  · exact (Hold.fresh (by simp)).alloc _
  · exact Blank.new (by simp)
  rintro W ⟨B, hX, hY, hR⟩
  have o1 : w.heap.size ≤ w.heap.size + 1 + 1 := by omega
  generalize w.heap.size + 1 + 1 = br at *
  generalize w.heap.size + 1 = bw at *
  refine (rfrom_any one W).mono ?_
  rintro e w1 ⟨rfl, hb⟩
  replace B := B.trans (hb.mono B.size)
  replace hX := hX.keep hb; replace hY := hY.keep hb; replace hR := hR.keep hb
  clear hb W
  have gY := hY.allocs
  go_wp2_with fail
  have c1 : w1.heap.size ≠ w.heap.size := by have := hX.row.lt (by simp); omega
  have c2 : w1.heap.size ≠ bw := by have := hY.row.lt (by simp); omega
  have c3 : w1.heap.size ≠ br := by have := hR.1.lt (by simp); omega
  have o2 : w.heap.size ≤ w1.heap.size := B.size
  refine calls_world (fun W => Below w.heap.size w W ∧ Hold W w.heap.size n ∧ Hold W bw m ∧ Blank W br ∧ Var W w1.heap.size 1) ⟨B.alloc B.size _, hX.alloc _, hY.alloc _, hR.alloc _, Var.new rfl⟩ ?_
  clear B hX hY hR gY
  rintro W ⟨B, hX, hY, hR, hP⟩
  generalize w1.heap.size = bp at *
  refine (rlen_any hm W).mono ?_
  rintro e w2 ⟨rfl, hb⟩
  replace B := B.trans (hb.mono B.size)
  replace hX := hX.keep hb; replace hY := hY.keep hb; replace hR := hR.keep hb; replace hP := hP.keep hb
  clear hb W
  obtain ⟨j0, ej, hj0, _, ez⟩ := lenN_bound hm
  rw [ej]
  have hP0 : Var w2 bp (powN q n (m / 2 ^ j0)) := by rw [ez, powN_zero hf]; exact hP
  clear hP ez ej
  go_wp2_with fail
  go_loopw [8] (fun a wr => ∃ j : Nat, j ≤ 256 ∧ a = .int .i64 ((j : Int) - 1) ∧ Below w.heap.size w wr ∧ Hold wr w.heap.size n ∧ Hold wr bw m ∧ Blank wr br ∧ Var wr bp (powN q n (m / 2 ^ j))) (fun a _ => (intOf a + 1).toNat)
  case atStart => exact ⟨j0, hj0, by go_num, B, hX, hY, hR, hP0⟩
  case round =>
    clear B hX hY hR hP0
    obtain ⟨j, hj, rfl, B, hX, hY, hR, hP⟩ := hrel
    by_cases hz : j = 0
    · subst hz
      rw [show m / 2 ^ 0 = m by simp] at hP
      have gP := hP.1.cells; have gR := hR.1.all4; have fR := hR.2.all4
      go_wp2
      simp [bodyPost, results, Tryz.results149, go_sem, gR]
      exact below_set4 B o1 _ _ _ _
    · obtain ⟨i, rfl⟩ : ∃ i, j = i + 1 := ⟨j - 1, by omega⟩
      have e1 : ((i + 1 : Nat) : Int) - 1 = i := by omega
      have hd := half_bit m i
      have eb := bitN_eq m (show i < 256 by omega)
      have q0 : 0 ≤ m / 2 ^ (i + 1) := Int.ediv_nonneg hm.1 (Int.le_of_lt (Int.pow_pos (by decide)))
      have bt : bitN m i = 0 ∨ bitN m i = 1 := by rw [eb]; omega
      rw [← eb] at hd
      have HD : Hid (m / 2 ^ i = 2 * (m / 2 ^ (i + 1)) + bitN m i) := hd
      have M1 : Hid (∀ W, Calls Tryz.prog 145 #[.int .i64 k, .agg #[.int .u64 (l0 (powN q n (m / 2 ^ (i + 1)))), .int .u64 (l1 (powN q n (m / 2 ^ (i + 1)))), .int .u64 (l2 (powN q n (m / 2 ^ (i + 1)))), .int .u64 (l3 (powN q n (m / 2 ^ (i + 1))))], .agg #[.int .u64 (l0 (powN q n (m / 2 ^ (i + 1)))), .int .u64 (l1 (powN q n (m / 2 ^ (i + 1)))), .int .u64 (l2 (powN q n (m / 2 ^ (i + 1)))), .int .u64 (l3 (powN q n (m / 2 ^ (i + 1))))]] W fun e w' => e = .returned (.agg #[.int .u64 (l0 (powN q n (2 * (m / 2 ^ (i + 1))))), .int .u64 (l1 (powN q n (2 * (m / 2 ^ (i + 1))))), .int .u64 (l2 (powN q n (2 * (m / 2 ^ (i + 1))))), .int .u64 (l3 (powN q n (2 * (m / 2 ^ (i + 1)))))]) ∧ Below W.heap.size W w') := fun W => by
        have := hT.out (powN_Num hf n (m / 2 ^ (i + 1))) (powN_Num hf n (m / 2 ^ (i + 1))) W
        rw [powN_twice q n q0] at this
        exact this
      have M2 : Hid (∀ W, Calls Tryz.prog 145 #[.int .i64 k, .agg #[.int .u64 (l0 (powN q n (2 * (m / 2 ^ (i + 1))))), .int .u64 (l1 (powN q n (2 * (m / 2 ^ (i + 1))))), .int .u64 (l2 (powN q n (2 * (m / 2 ^ (i + 1))))), .int .u64 (l3 (powN q n (2 * (m / 2 ^ (i + 1)))))], .agg #[.int .u64 (l0 n), .int .u64 (l1 n), .int .u64 (l2 n), .int .u64 (l3 n)]] W fun e w' => e = .returned (.agg #[.int .u64 (l0 (powN q n (2 * (m / 2 ^ (i + 1)) + 1))), .int .u64 (l1 (powN q n (2 * (m / 2 ^ (i + 1)) + 1))), .int .u64 (l2 (powN q n (2 * (m / 2 ^ (i + 1)) + 1))), .int .u64 (l3 (powN q n (2 * (m / 2 ^ (i + 1)) + 1)))]) ∧ Below W.heap.size W w') := fun W => by
        have := hT.out (powN_Num hf n (2 * (m / 2 ^ (i + 1)))) hn W
        rw [powN_next q n (by omega)] at this
        exact this
      have ea : Hid (((i + 1 : Nat) : Int) - 1 = i) := e1
      rw [e1]
      clear e1 eb hd
      generalize m / 2 ^ (i + 1) = E at *
      have gP := hP.1.cells
      go_wp2_with fail
      with_reducible refine (M1.out _).mono ?_
      rintro e w3 ⟨rfl, hb⟩
      replace B := B.trans (hb.mono B.size)
      replace hX := hX.keep hb; replace hY := hY.keep hb; replace hR := hR.keep hb; replace hP := hP.keep hb
      clear hb gP
      have gP := hP.1.cells; have fP := hP.2.all4; have gY := hY.cells
      go_wp2_with fail
      refine calls_world (fun W => Below w.heap.size w W ∧ Hold W w.heap.size n ∧ Hold W bw m ∧ Blank W br ∧ Var W bp (powN q n (2 * E))) ⟨below_set4 B o2 _ _ _ _, hX.set4 c1 _ _ _ _, hY.set4 c2 _ _ _ _, hR.set4 c3 _ _ _ _, hP.sets _⟩ ?_
      clear B hX hY hR hP gP fP gY
      rintro W ⟨B, hX, hY, hR, hP⟩
      refine (rbit_any hm W).mono ?_
      rintro e w4 ⟨rfl, hb⟩
      replace B := B.trans (hb.mono B.size)
      replace hX := hX.keep hb; replace hY := hY.keep hb; replace hR := hR.keep hb; replace hP := hP.keep hb
      clear hb W
      rcases bt with bt | bt
      · have hP' : Var w4 bp (powN q n (m / 2 ^ i)) := by rw [HD.out, bt, Int.add_zero]; exact hP
        clear hP HD
        go_wp2
        go_roundw
        case rel => exact ⟨i, by omega, by go_num, B, hX, hY, hR, hP'⟩
        case measure => first | (simp [intOf]; done) | (simp [intOf]; omega)
      · have gP := hP.1.cells; have gX := hX.cells
        have ee : Hid (m / 2 ^ i = 2 * E + 1) := by have := HD.out; rw [bt] at this; exact this
        clear HD
        go_wp2_with fail
        with_reducible refine (M2.out _).mono ?_
        rintro e w5 ⟨rfl, hb⟩
        replace B := B.trans (hb.mono B.size)
        replace hX := hX.keep hb; replace hY := hY.keep hb; replace hR := hR.keep hb; replace hP := hP.keep hb
        clear hb gP gX
        have gP := hP.1.cells; have fP := hP.2.all4
        go_wp2
        go_roundw
        case rel => exact ⟨i, by omega, by go_num, below_set4 B o2 _ _ _ _, hX.set4 c1 _ _ _ _, hY.set4 c2 _ _ _ _, hR.set4 c3 _ _ _ _, by rw [ee.out]; exact hP.sets _⟩
        case measure => first | (simp [intOf]; done) | (simp [intOf]; omega)

set_option maxHeartbeats 2000000 in
theorem rAdd_good {k x y : Int} (hk : k = 0 ∨ k = 1) (hx : Num x) (hy : Num y) (w : World) :
    Calls Tryz.prog 126 #[.int .i64 k, .agg #[.int .u64 (l0 x), .int .u64 (l1 x), .int .u64 (l2 x), .int .u64 (l3 x)], .agg #[.int .u64 (l0 y), .int .u64 (l1 y), .int .u64 (l2 y), .int .u64 (l3 y)]] w fun e w' => e = .returned (.tuple #[.agg #[.int .u64 (l0 (modN (rM k) (x + y))), .int .u64 (l1 (modN (rM k) (x + y))), .int .u64 (l2 (modN (rM k) (x + y))), .int .u64 (l3 (modN (rM k) (x + y)))], .int .i64 0]) ∧ Below w.heap.size w w' := by
  have G : Hid (∀ w, Calls Tryz.prog 117 #[.int .i64 k] w fun e w' => e = .returned (.bool true) ∧ Below w.heap.size w w') := rgood_yes hk
  have C : Hid (∀ w, Calls Tryz.prog 146 #[.int .i64 k, .agg #[.int .u64 (l0 x), .int .u64 (l1 x), .int .u64 (l2 x), .int .u64 (l3 x)], .agg #[.int .u64 (l0 y), .int .u64 (l1 y), .int .u64 (l2 y), .int .u64 (l3 y)]] w fun e w' => e = .returned (.agg #[.int .u64 (l0 (modN (rM k) (x + y))), .int .u64 (l1 (modN (rM k) (x + y))), .int .u64 (l2 (modN (rM k) (x + y))), .int .u64 (l3 (modN (rM k) (x + y)))]) ∧ Below w.heap.size w w') := rplus_any hx hy
  generalize (modN (rM k) (x + y)) = r at *
  clear hk
  go_enter Tryz.func126, Tryz.ntmps126
  go_wp2_with fail
  refine calls_world (fun W => Below w.heap.size w W ∧ Hold W (w.heap.size) x ∧ Hold W (w.heap.size + 1) y ∧ Blank W (w.heap.size + 1 + 1)) ⟨by repeat (first | with_reducible exact Below.refl _ _ | with_reducible refine Below.alloc ?_ (by first | omega | (simp; done) | (simp; omega)) _), ((Hold.fresh (by simp)).alloc _).alloc _, (Hold.fresh (by simp)).alloc _, Blank.new (by simp)⟩ ?_
  rintro W ⟨B, hX, hY, hR⟩
  have o3 : w.heap.size ≤ w.heap.size + 1 + 1 := by omega
  generalize w.heap.size + 1 + 1 = br at *
  generalize w.heap.size + 1 = bw at *
  with_reducible refine (G.out _).mono ?_
  rintro e w1 ⟨rfl, hb⟩
  replace B := B.trans (hb.mono B.size)
  replace hX := hX.keep hb; replace hY := hY.keep hb; replace hR := hR.keep hb
  clear hb W
  have gX := hX.cells
  have gY := hY.cells
  go_wp2_with fail
  with_reducible refine (C.out _).mono ?_
  rintro e w2 ⟨rfl, hb⟩
  replace B := B.trans (hb.mono B.size)
  replace hR := hR.keep hb
  clear hb hX hY gX gY w1
  have gR := hR.1.all4; have fR := hR.2.all4
  go_wp2
  simp [bodyPost, results, Tryz.results126, go_sem, gR]
  exact below_set4 B o3 _ _ _ _

set_option maxHeartbeats 2000000 in
theorem rModulus_good {k : Int} (hk : k = 0 ∨ k = 1) (w : World) :
    Calls Tryz.prog 94 #[.int .i64 k] w fun e w' => e = .returned (.tuple #[.agg #[.int .u64 (l0 (rM k)), .int .u64 (l1 (rM k)), .int .u64 (l2 (rM k)), .int .u64 (l3 (rM k))], .int .i64 0]) ∧ Below w.heap.size w w' := by
  have G : Hid (∀ w, Calls Tryz.prog 117 #[.int .i64 k] w fun e w' => e = .returned (.bool true) ∧ Below w.heap.size w w') := rgood_yes hk
  have C : Hid (∀ w, Calls Tryz.prog 118 #[.int .i64 k] w fun e w' => e = .returned (.agg #[.int .u64 (l0 (rM k)), .int .u64 (l1 (rM k)), .int .u64 (l2 (rM k)), .int .u64 (l3 (rM k))]) ∧ Below w.heap.size w w') := rmodulus_any k
  generalize rM k = r at *
  clear hk
  go_enter Tryz.func94, Tryz.ntmps94
  go_wp2_with fail
  refine calls_world (fun W => Below w.heap.size w W ∧ Blank W w.heap.size) ⟨by repeat (first | with_reducible exact Below.refl _ _ | with_reducible refine Below.alloc ?_ (by first | omega | (simp; done) | (simp; omega)) _), Blank.new (by simp)⟩ ?_
  rintro W ⟨B, hR⟩
  have o3 : w.heap.size ≤ w.heap.size := by omega
  with_reducible refine (G.out _).mono ?_
  rintro e w1 ⟨rfl, hb⟩
  replace B := B.trans (hb.mono B.size)
  replace hR := hR.keep hb
  clear hb W
  go_wp2_with fail
  with_reducible refine (C.out _).mono ?_
  rintro e w2 ⟨rfl, hb⟩
  replace B := B.trans (hb.mono B.size)
  replace hR := hR.keep hb
  clear hb w1
  have gR := hR.1.all4; have fR := hR.2.all4
  go_wp2
  simp [bodyPost, results, Tryz.results94, go_sem, gR]
  exact below_set4 B o3 _ _ _ _

theorem sub_num' {m c : Int} (_hf : Fit m c) (x y : Int) : modN m (x + modN m (0 - y)) = modN m (x - y) := by
  unfold modN
  rw [Int.add_emod, Int.emod_emod_of_dvd _ (Int.dvd_refl m), ← Int.add_emod]
  congr 1; omega
set_option maxHeartbeats 2000000 in
theorem rSub_good {k x y : Int} (hk : k = 0 ∨ k = 1) (hx : Num x) (hy : Num y) (w : World) :
    Calls Tryz.prog 168 #[.int .i64 k, .agg #[.int .u64 (l0 x), .int .u64 (l1 x), .int .u64 (l2 x), .int .u64 (l3 x)], .agg #[.int .u64 (l0 y), .int .u64 (l1 y), .int .u64 (l2 y), .int .u64 (l3 y)]] w fun e w' => e = .returned (.tuple #[.agg #[.int .u64 (l0 (modN (rM k) (x - y))), .int .u64 (l1 (modN (rM k) (x - y))), .int .u64 (l2 (modN (rM k) (x - y))), .int .u64 (l3 (modN (rM k) (x - y)))], .int .i64 0]) ∧ Below w.heap.size w w' := by
  have G : Hid (∀ w, Calls Tryz.prog 117 #[.int .i64 k] w fun e w' => e = .returned (.bool true) ∧ Below w.heap.size w w') := rgood_yes hk
  have L1 : Hid (∀ w, Calls Tryz.prog 174 #[.int .i64 k, .agg #[.int .u64 (l0 y), .int .u64 (l1 y), .int .u64 (l2 y), .int .u64 (l3 y)]] w fun e w' => e = .returned (.agg #[.int .u64 (l0 (modN (rM k) (0 - y))), .int .u64 (l1 (modN (rM k) (0 - y))), .int .u64 (l2 (modN (rM k) (0 - y))), .int .u64 (l3 (modN (rM k) (0 - y)))]) ∧ Below w.heap.size w w') := rless_any hy
  have P1 : Hid (∀ w, Calls Tryz.prog 146 #[.int .i64 k, .agg #[.int .u64 (l0 x), .int .u64 (l1 x), .int .u64 (l2 x), .int .u64 (l3 x)], .agg #[.int .u64 (l0 (modN (rM k) (0 - y))), .int .u64 (l1 (modN (rM k) (0 - y))), .int .u64 (l2 (modN (rM k) (0 - y))), .int .u64 (l3 (modN (rM k) (0 - y)))]] w fun e w' => e = .returned (.agg #[.int .u64 (l0 (modN (rM k) (x - y))), .int .u64 (l1 (modN (rM k) (x - y))), .int .u64 (l2 (modN (rM k) (x - y))), .int .u64 (l3 (modN (rM k) (x - y)))]) ∧ Below w.heap.size w w') := fun w => by
    have := rplus_any (k := k) hx (modN_Num (rfit k) (0 - y)) w; rw [sub_num' (rfit k)] at this; exact this
  generalize modN (rM k) (x - y) = R at *
  generalize modN (rM k) (0 - y) = D at *
  clear hk hx hy
  go_enter Tryz.func168, Tryz.ntmps168
  go_wp2_with fail
  refine calls_world (fun W => Below w.heap.size w W ∧ Hold W w.heap.size x ∧ Hold W (w.heap.size + 1) y ∧ Blank W (w.heap.size + 1 + 1)) ⟨by repeat (first | with_reducible exact Below.refl _ _ | with_reducible refine Below.alloc ?_ (by first | omega | (simp; done) | (simp; omega)) _), ((Hold.fresh (by simp)).alloc _).alloc _, (Hold.fresh (by simp)).alloc _, Blank.new (by simp)⟩ ?_
  rintro W ⟨B, hX, hY, hR⟩
  have o3 : w.heap.size ≤ w.heap.size + 1 + 1 := by omega
  generalize w.heap.size + 1 + 1 = br at *
  generalize w.heap.size + 1 = bw at *
  with_reducible refine (G.out _).mono ?_
  rintro e w1 ⟨rfl, hb⟩
  replace B := B.trans (hb.mono B.size)
  replace hX := hX.keep hb; replace hY := hY.keep hb; replace hR := hR.keep hb
  clear hb W
  go_wp2_with fail
  have gX := hX.grown; have gY := hY.grown
  refine below_tail 6 (by kernel_rfl) (by kernel_rfl) ?_
  simp only [List.take_succ_cons, List.take_zero, List.drop_succ_cons, List.drop_zero]
  repeat
    first
      | go_big_quiet_skip
      | (go_big_quiet_want; go_big_quiet_op; go_big_quiet_on)
      | (go_big_quiet_want
         go_big_quiet_op
         apply Exists.intro
         refine ⟨fun p => ?_, ?_⟩
         · (first | (go_at_call 174; with_reducible exact Calls.regrown_of (L1.out _)) | (go_at_call 146; with_reducible exact Calls.regrown_of (P1.out _)))
         go_big_quiet_on)
  refine wpQuiet_nil ?_
  rintro w2 ⟨p, rfl⟩
  have hb := below_regrown w1 p.d p.os
  generalize grow (redrawn w1 p.d) p.os = w2 at *
  replace B := B.trans (hb.mono B.size)
  replace hR := hR.keep hb
  clear hb hX hY gX gY w1
  have gR := hR.1.all4; have fR := hR.2.all4
  go_wp2
  simp [bodyPost, results, Tryz.results168, go_sem, gR]
  exact below_set4 B o3 _ _ _ _

end Go.Proofs.YtncpjgpioajbeaaGreatDoor

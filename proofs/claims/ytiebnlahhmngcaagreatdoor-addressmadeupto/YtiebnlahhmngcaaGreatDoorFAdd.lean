import Derived.Test.YtiebnlahhmngcaaGreatDoorFReduce
import Derived.Deep.RegionHeld3
namespace Go.Proofs.YtiebnlahhmngcaaGreatDoor
open Go.RowKit Go.Sort

theorem fadd_num {m c x y : Int} (hf : Fit m c) :
    (carN (modN m x) (modN m y) = 0 ∧ modN m (x + y) = modN m (sumN (modN m x) (modN m y))) ∨ (carN (modN m x) (modN m y) = 1 ∧ modN m (x + y) = difN (sumN (modN m x) (modN m y)) m) := by
  obtain ⟨a0, a1⟩ := modN_lt hf x
  obtain ⟨b0, b1⟩ := modN_lt hf y
  obtain ⟨h1, h2, h3⟩ := hf
  have e : modN m (x + y) = (modN m x + modN m y) % m := by unfold modN; rw [← Int.add_emod]
  rw [e]
  generalize modN m x = a at *
  generalize modN m y = b at *
  by_cases h : a + b < 115792089237316195423570985008687907853269984665640564039457584007913129639936
  · left
    have es : sumN a b = a + b := by unfold sumN; omega
    refine ⟨by unfold carN; omega, ?_⟩
    rw [es]; rfl
  · right
    refine ⟨by unfold carN; omega, ?_⟩
    have e2 : (a + b) % m = a + b - m := by
      rw [show a + b = a + b - m + m * 1 by omega, Int.add_mul_emod_self_left]
      rw [Int.emod_eq_of_lt (by omega) (by omega)]; omega
    rw [e2]; unfold difN sumN; omega
theorem fsub_num {m c x y : Int} (hf : Fit m c) :
    (borN (modN m x) (modN m y) = 0 ∧ modN m (x - y) = difN (modN m x) (modN m y)) ∨ (borN (modN m x) (modN m y) = 1 ∧ modN m (x - y) = sumN (difN (modN m x) (modN m y)) m) := by
  obtain ⟨a0, a1⟩ := modN_lt hf x
  obtain ⟨b0, b1⟩ := modN_lt hf y
  obtain ⟨h1, h2, h3⟩ := hf
  have e : modN m (x - y) = (modN m x - modN m y) % m := by unfold modN; rw [← Int.sub_emod]
  rw [e]
  generalize modN m x = a at *
  generalize modN m y = b at *
  by_cases h : b ≤ a
  · left
    refine ⟨by unfold borN; rw [if_neg (by omega)], ?_⟩
    rw [Int.emod_eq_of_lt (by omega) (by omega)]; unfold difN; omega
  · right
    refine ⟨by unfold borN; rw [if_pos (by omega)], ?_⟩
    have e2 : (a - b) % m = a - b + m := by
      rw [show a - b = a - b + m + m * (-1) by omega, Int.add_mul_emod_self_left]
      rw [Int.emod_eq_of_lt (by omega) (by omega)]; omega
    rw [e2]; unfold difN sumN; omega


set_option maxHeartbeats 4000000 in
theorem fadd_walk {m c x y a b s r k z : Int} (K1 : Hid (∀ w, Calls Tryz.prog 68 #[.agg #[.int .u64 (l0 m), .int .u64 (l1 m), .int .u64 (l2 m), .int .u64 (l3 m), .int .u64 (l0 c), .int .u64 (l1 c), .int .u64 (l2 c), .int .u64 (l3 c)], .agg #[.int .u64 (l0 x), .int .u64 (l1 x), .int .u64 (l2 x), .int .u64 (l3 x)]] w fun e w' => e = .returned (.agg #[.int .u64 (l0 a), .int .u64 (l1 a), .int .u64 (l2 a), .int .u64 (l3 a)]) ∧ Below w.heap.size w w')) (K2 : Hid (∀ w, Calls Tryz.prog 68 #[.agg #[.int .u64 (l0 m), .int .u64 (l1 m), .int .u64 (l2 m), .int .u64 (l3 m), .int .u64 (l0 c), .int .u64 (l1 c), .int .u64 (l2 c), .int .u64 (l3 c)], .agg #[.int .u64 (l0 y), .int .u64 (l1 y), .int .u64 (l2 y), .int .u64 (l3 y)]] w fun e w' => e = .returned (.agg #[.int .u64 (l0 b), .int .u64 (l1 b), .int .u64 (l2 b), .int .u64 (l3 b)]) ∧ Below w.heap.size w w')) (K3 : Hid (∀ w, Calls Tryz.prog 101 #[.agg #[.int .u64 (l0 a), .int .u64 (l1 a), .int .u64 (l2 a), .int .u64 (l3 a)], .agg #[.int .u64 (l0 b), .int .u64 (l1 b), .int .u64 (l2 b), .int .u64 (l3 b)]] w fun e w' => e = .returned (.tuple #[.agg #[.int .u64 (l0 s), .int .u64 (l1 s), .int .u64 (l2 s), .int .u64 (l3 s)], .int .u64 k]) ∧ Below w.heap.size w w')) (K4 : Hid ((k = 0 ∧ Hid (∀ w, Calls Tryz.prog 68 #[.agg #[.int .u64 (l0 m), .int .u64 (l1 m), .int .u64 (l2 m), .int .u64 (l3 m), .int .u64 (l0 c), .int .u64 (l1 c), .int .u64 (l2 c), .int .u64 (l3 c)], .agg #[.int .u64 (l0 s), .int .u64 (l1 s), .int .u64 (l2 s), .int .u64 (l3 s)]] w fun e w' => e = .returned (.agg #[.int .u64 (l0 r), .int .u64 (l1 r), .int .u64 (l2 r), .int .u64 (l3 r)]) ∧ Below w.heap.size w w')) ∨ (k = 1 ∧ Hid (∀ w, Calls Tryz.prog 79 #[.agg #[.int .u64 (l0 s), .int .u64 (l1 s), .int .u64 (l2 s), .int .u64 (l3 s)], .agg #[.int .u64 (l0 m), .int .u64 (l1 m), .int .u64 (l2 m), .int .u64 (l3 m)]] w fun e w' => e = .returned (.tuple #[.agg #[.int .u64 (l0 r), .int .u64 (l1 r), .int .u64 (l2 r), .int .u64 (l3 r)], .int .u64 z]) ∧ Below w.heap.size w w')))) (w : World) :
    Calls Tryz.prog 92 #[.agg #[.int .u64 (l0 m), .int .u64 (l1 m), .int .u64 (l2 m), .int .u64 (l3 m), .int .u64 (l0 c), .int .u64 (l1 c), .int .u64 (l2 c), .int .u64 (l3 c)], .agg #[.int .u64 (l0 x), .int .u64 (l1 x), .int .u64 (l2 x), .int .u64 (l3 x)], .agg #[.int .u64 (l0 y), .int .u64 (l1 y), .int .u64 (l2 y), .int .u64 (l3 y)]] w fun e w' => e = .returned (.agg #[.int .u64 (l0 r), .int .u64 (l1 r), .int .u64 (l2 r), .int .u64 (l3 r)]) ∧ Below w.heap.size w w' := by
  go_enter Tryz.func92, Tryz.ntmps92
  go_wp2_with fail
  refine wp_world (fun W => Below w.heap.size w W ∧ HoldM W w.heap.size m c ∧ Hold W (w.heap.size + 1) x ∧ Hold W (w.heap.size + 1 + 1) y ∧ Blank W (w.heap.size + 1 + 1 + 1)) ⟨by repeat (first | with_reducible exact Below.refl _ _ | with_reducible refine Below.alloc ?_ (by first | omega | (simp; done) | (simp; omega)) _), (((HoldM.new w m c _).alloc _).alloc _).alloc _, ((Hold.fresh (by simp)).alloc _).alloc _, (Hold.fresh (by simp)).alloc _, Blank.new (by simp)⟩ ?_
  rintro W ⟨B, hF, hX, hY, hR⟩
  have o3 : w.heap.size ≤ w.heap.size + 1 + 1 + 1 := by omega
  generalize w.heap.size + 1 + 1 + 1 = br at *
  generalize w.heap.size + 1 + 1 = bw at *
  generalize w.heap.size + 1 = bx at *
  generalize hbf : w.heap.size = bf at *
  have gF := hF.cells; have gX := hX.cells; have gY := hY.cells
  have lf : bf < W.heap.size := hF.lt
  have lx : bx < W.heap.size := World.block_lt_of_cell? W _ hX.1
  have ly : bw < W.heap.size := World.block_lt_of_cell? W _ hY.1
  have lr : br < W.heap.size := hR.1.lt (by simp)
  have BB : Hid (Below bf w W) := B
  have HF : Hid (HoldM W bf m c) := hF
  have HR : Hid (Blank W br) := hR
  have geB : bf ≤ W.heap.size := by omega
  clear B hF hX hY hR
  refine wp_out (fun a' W' => ∃ bs, Below bf w W' ∧ HoldM W' bf m c ∧ Blank W' br ∧ Hold W' bs s ∧ a' = { tmps := #[.agg #[.int .u64 (l0 m), .int .u64 (l1 m), .int .u64 (l2 m), .int .u64 (l3 m), .int .u64 (l0 c), .int .u64 (l1 c), .int .u64 (l2 c), .int .u64 (l3 c)], .agg #[.int .u64 (l0 x), .int .u64 (l1 x), .int .u64 (l2 x), .int .u64 (l3 x)], .agg #[.int .u64 (l0 y), .int .u64 (l1 y), .int .u64 (l2 y), .int .u64 (l3 y)], .pointer (some { block := bf, off := 0 }), .pointer (some { block := bx, off := 0 }), .pointer (some { block := bw, off := 0 }), .pointer (some { block := br, off := 0 }), .pointer (some { block := bs, off := 0 }), .int .u64 k, Go.undef, Go.undef, .tuple #[.agg #[.int .u64 (l0 s), .int .u64 (l1 s), .int .u64 (l2 s), .int .u64 (l3 s)], .int .u64 k], .agg #[.int .u64 (l0 m), .int .u64 (l1 m), .int .u64 (l2 m), .int .u64 (l3 m), .int .u64 (l0 c), .int .u64 (l1 c), .int .u64 (l2 c), .int .u64 (l3 c)], .agg #[.int .u64 (l0 x), .int .u64 (l1 x), .int .u64 (l2 x), .int .u64 (l3 x)], .agg #[.int .u64 (l0 a), .int .u64 (l1 a), .int .u64 (l2 a), .int .u64 (l3 a)], .agg #[.int .u64 (l0 m), .int .u64 (l1 m), .int .u64 (l2 m), .int .u64 (l3 m), .int .u64 (l0 c), .int .u64 (l1 c), .int .u64 (l2 c), .int .u64 (l3 c)], .agg #[.int .u64 (l0 y), .int .u64 (l1 y), .int .u64 (l2 y), .int .u64 (l3 y)], .agg #[.int .u64 (l0 b), .int .u64 (l1 b), .int .u64 (l2 b), .int .u64 (l3 b)], .tuple #[.agg #[.int .u64 (l0 s), .int .u64 (l1 s), .int .u64 (l2 s), .int .u64 (l3 s)], .int .u64 k], .agg #[.int .u64 (l0 s), .int .u64 (l1 s), .int .u64 (l2 s), .int .u64 (l3 s)], .int .u64 k, Go.undef, Go.undef, Go.undef, Go.undef, Go.undef, Go.undef, Go.undef, Go.undef, Go.undef, Go.undef, Go.undef, Go.undef, Go.undef], defers := [] }) ?_ ?_
  · have dz : W.drew.heap.size = W.heap.size := rfl
    clear K4
    have _ : bf < W.heap.size := by omega
    have _ : bf ≤ W.heap.size := by omega
    have _ : bf < W.heap.size + 1 := by omega
    have _ : bf < W.heap.size + 1 + 1 := by omega
    have _ : bf ≠ W.heap.size := by omega
    have _ : W.heap.size ≠ bf := by omega
    have _ : bf ≠ W.heap.size + 1 := by omega
    have _ : W.heap.size + 1 ≠ bf := by omega
    have _ : bx < W.heap.size := by omega
    have _ : bx ≤ W.heap.size := by omega
    have _ : bx < W.heap.size + 1 := by omega
    have _ : bx < W.heap.size + 1 + 1 := by omega
    have _ : bx ≠ W.heap.size := by omega
    have _ : W.heap.size ≠ bx := by omega
    have _ : bx ≠ W.heap.size + 1 := by omega
    have _ : W.heap.size + 1 ≠ bx := by omega
    have _ : bw < W.heap.size := by omega
    have _ : bw ≤ W.heap.size := by omega
    have _ : bw < W.heap.size + 1 := by omega
    have _ : bw < W.heap.size + 1 + 1 := by omega
    have _ : bw ≠ W.heap.size := by omega
    have _ : W.heap.size ≠ bw := by omega
    have _ : bw ≠ W.heap.size + 1 := by omega
    have _ : W.heap.size + 1 ≠ bw := by omega
    have _ : br < W.heap.size := by omega
    have _ : br ≤ W.heap.size := by omega
    have _ : br < W.heap.size + 1 := by omega
    have _ : br < W.heap.size + 1 + 1 := by omega
    have _ : br ≠ W.heap.size := by omega
    have _ : W.heap.size ≠ br := by omega
    have _ : br ≠ W.heap.size + 1 := by omega
    have _ : W.heap.size + 1 ≠ br := by omega
    go_region_held3 (fun w' => w'.cell? ⟨bf, 0, none⟩ = some (.int .u64 (l0 m)) ∧ w'.cell? ⟨bf, 1, none⟩ = some (.int .u64 (l1 m)) ∧ w'.cell? ⟨bf, 2, none⟩ = some (.int .u64 (l2 m)) ∧ w'.cell? ⟨bf, 3, none⟩ = some (.int .u64 (l3 m)) ∧ w'.cell? ⟨bf, 4, none⟩ = some (.int .u64 (l0 c)) ∧ w'.cell? ⟨bf, 5, none⟩ = some (.int .u64 (l1 c)) ∧ w'.cell? ⟨bf, 6, none⟩ = some (.int .u64 (l2 c)) ∧ w'.cell? ⟨bf, 7, none⟩ = some (.int .u64 (l3 c)) ∧ w'.cell? ⟨bx, 0, none⟩ = some (.int .u64 (l0 x)) ∧ w'.cell? ⟨bx, 1, none⟩ = some (.int .u64 (l1 x)) ∧ w'.cell? ⟨bx, 2, none⟩ = some (.int .u64 (l2 x)) ∧ w'.cell? ⟨bx, 3, none⟩ = some (.int .u64 (l3 x)) ∧ w'.cell? ⟨bw, 0, none⟩ = some (.int .u64 (l0 y)) ∧ w'.cell? ⟨bw, 1, none⟩ = some (.int .u64 (l1 y)) ∧ w'.cell? ⟨bw, 2, none⟩ = some (.int .u64 (l2 y)) ∧ w'.cell? ⟨bw, 3, none⟩ = some (.int .u64 (l3 y))) (((try dsimp only); (repeat' (apply And.intro)); (all_goals repeat (first | with_reducible assumption | with_reducible apply cell_keep hb3 | with_reducible apply cell_keep hb2 | with_reducible apply cell_keep hb1 | with_reducible apply cell_alloc | (with_reducible refine cell_set ?_ (by with_reducible assumption)) | (simp [go_sem, *]; done)))))
      (first
        | (go_at_call 68; with_reducible refine (K1.out _).mono ?_; rintro e w1 ⟨rfl, hb1⟩; have hc1 := oldCells hb1; have hz1 := hb1.size; (try simp at hz1); (try (have := fun j => oldCells hb1 (W.heap.size) j (by first | omega | (simp; done) | (simp; omega)))); (try (have := fun j => oldCells hb1 (W.heap.size + 1) j (by first | omega | (simp; done) | (simp; omega)))); have _ : bf < w1.heap.size := (by omega); have _ : bf ≤ w1.heap.size := (by omega); have _ : bf < w1.heap.size + 1 := (by omega); have _ : bf < w1.heap.size + 1 + 1 := (by omega); have _ : bf ≠ w1.heap.size := (by omega); have _ : w1.heap.size ≠ bf := (by omega); have _ : bf ≠ w1.heap.size + 1 := (by omega); have _ : w1.heap.size + 1 ≠ bf := (by omega); have _ : bx < w1.heap.size := (by omega); have _ : bx ≤ w1.heap.size := (by omega); have _ : bx < w1.heap.size + 1 := (by omega); have _ : bx < w1.heap.size + 1 + 1 := (by omega); have _ : bx ≠ w1.heap.size := (by omega); have _ : w1.heap.size ≠ bx := (by omega); have _ : bx ≠ w1.heap.size + 1 := (by omega); have _ : w1.heap.size + 1 ≠ bx := (by omega); have _ : bw < w1.heap.size := (by omega); have _ : bw ≤ w1.heap.size := (by omega); have _ : bw < w1.heap.size + 1 := (by omega); have _ : bw < w1.heap.size + 1 + 1 := (by omega); have _ : bw ≠ w1.heap.size := (by omega); have _ : w1.heap.size ≠ bw := (by omega); have _ : bw ≠ w1.heap.size + 1 := (by omega); have _ : w1.heap.size + 1 ≠ bw := (by omega); have _ : br < w1.heap.size := (by omega); have _ : br ≤ w1.heap.size := (by omega); have _ : br < w1.heap.size + 1 := (by omega); have _ : br < w1.heap.size + 1 + 1 := (by omega); have _ : br ≠ w1.heap.size := (by omega); have _ : w1.heap.size ≠ br := (by omega); have _ : br ≠ w1.heap.size + 1 := (by omega); have _ : w1.heap.size + 1 ≠ br := (by omega); (try (have _ : W.heap.size < w1.heap.size := (by omega))); (try (have _ : W.heap.size ≤ w1.heap.size := (by omega))); (try (have _ : W.heap.size ≠ w1.heap.size := (by omega))); (try (have _ : w1.heap.size ≠ W.heap.size := (by omega))); (try (have _ : W.heap.size < w1.heap.size + 1 := (by omega))); (try (have _ : W.heap.size + 1 < w1.heap.size := (by omega))); (try (have _ : W.heap.size + 1 ≤ w1.heap.size := (by omega))); (try (have _ : W.heap.size + 1 ≠ w1.heap.size := (by omega))); (try (have _ : w1.heap.size ≠ W.heap.size + 1 := (by omega))); (try (have _ : W.heap.size + 1 < w1.heap.size + 1 := (by omega))))
        | (go_at_call 68; with_reducible refine (K2.out _).mono ?_; rintro e w2 ⟨rfl, hb2⟩; have hc2 := oldCells hb2; have hz2 := hb2.size; (try simp at hz2); (try (have := fun j => oldCells hb2 (W.heap.size) j (by first | omega | (simp; done) | (simp; omega)))); (try (have := fun j => oldCells hb2 (W.heap.size + 1) j (by first | omega | (simp; done) | (simp; omega)))); (try (have := fun j => oldCells hb2 (w1.heap.size) j (by first | omega | (simp; done) | (simp; omega)))); (try (have := fun j => oldCells hb2 (w1.heap.size + 1) j (by first | omega | (simp; done) | (simp; omega)))); have _ : bf < w2.heap.size := (by omega); have _ : bf ≤ w2.heap.size := (by omega); have _ : bf < w2.heap.size + 1 := (by omega); have _ : bf < w2.heap.size + 1 + 1 := (by omega); have _ : bf ≠ w2.heap.size := (by omega); have _ : w2.heap.size ≠ bf := (by omega); have _ : bf ≠ w2.heap.size + 1 := (by omega); have _ : w2.heap.size + 1 ≠ bf := (by omega); have _ : bx < w2.heap.size := (by omega); have _ : bx ≤ w2.heap.size := (by omega); have _ : bx < w2.heap.size + 1 := (by omega); have _ : bx < w2.heap.size + 1 + 1 := (by omega); have _ : bx ≠ w2.heap.size := (by omega); have _ : w2.heap.size ≠ bx := (by omega); have _ : bx ≠ w2.heap.size + 1 := (by omega); have _ : w2.heap.size + 1 ≠ bx := (by omega); have _ : bw < w2.heap.size := (by omega); have _ : bw ≤ w2.heap.size := (by omega); have _ : bw < w2.heap.size + 1 := (by omega); have _ : bw < w2.heap.size + 1 + 1 := (by omega); have _ : bw ≠ w2.heap.size := (by omega); have _ : w2.heap.size ≠ bw := (by omega); have _ : bw ≠ w2.heap.size + 1 := (by omega); have _ : w2.heap.size + 1 ≠ bw := (by omega); have _ : br < w2.heap.size := (by omega); have _ : br ≤ w2.heap.size := (by omega); have _ : br < w2.heap.size + 1 := (by omega); have _ : br < w2.heap.size + 1 + 1 := (by omega); have _ : br ≠ w2.heap.size := (by omega); have _ : w2.heap.size ≠ br := (by omega); have _ : br ≠ w2.heap.size + 1 := (by omega); have _ : w2.heap.size + 1 ≠ br := (by omega); (try (have _ : W.heap.size < w2.heap.size := (by omega))); (try (have _ : W.heap.size ≤ w2.heap.size := (by omega))); (try (have _ : W.heap.size ≠ w2.heap.size := (by omega))); (try (have _ : w2.heap.size ≠ W.heap.size := (by omega))); (try (have _ : W.heap.size < w2.heap.size + 1 := (by omega))); (try (have _ : W.heap.size + 1 < w2.heap.size := (by omega))); (try (have _ : W.heap.size + 1 ≤ w2.heap.size := (by omega))); (try (have _ : W.heap.size + 1 ≠ w2.heap.size := (by omega))); (try (have _ : w2.heap.size ≠ W.heap.size + 1 := (by omega))); (try (have _ : W.heap.size + 1 < w2.heap.size + 1 := (by omega))); (try (have _ : w1.heap.size < w2.heap.size := (by omega))); (try (have _ : w1.heap.size ≤ w2.heap.size := (by omega))); (try (have _ : w1.heap.size ≠ w2.heap.size := (by omega))); (try (have _ : w2.heap.size ≠ w1.heap.size := (by omega))); (try (have _ : w1.heap.size < w2.heap.size + 1 := (by omega))); (try (have _ : w1.heap.size + 1 < w2.heap.size := (by omega))); (try (have _ : w1.heap.size + 1 ≤ w2.heap.size := (by omega))); (try (have _ : w1.heap.size + 1 ≠ w2.heap.size := (by omega))); (try (have _ : w2.heap.size ≠ w1.heap.size + 1 := (by omega))); (try (have _ : w1.heap.size + 1 < w2.heap.size + 1 := (by omega))))
        | (go_at_call 101; with_reducible refine (K3.out _).mono ?_; rintro e w3 ⟨rfl, hb3⟩; have hc3 := oldCells hb3; have hz3 := hb3.size; (try simp at hz3); (try (have := fun j => oldCells hb3 (W.heap.size) j (by first | omega | (simp; done) | (simp; omega)))); (try (have := fun j => oldCells hb3 (W.heap.size + 1) j (by first | omega | (simp; done) | (simp; omega)))); (try (have := fun j => oldCells hb3 (w1.heap.size) j (by first | omega | (simp; done) | (simp; omega)))); (try (have := fun j => oldCells hb3 (w1.heap.size + 1) j (by first | omega | (simp; done) | (simp; omega)))); (try (have := fun j => oldCells hb3 (w2.heap.size) j (by first | omega | (simp; done) | (simp; omega)))); (try (have := fun j => oldCells hb3 (w2.heap.size + 1) j (by first | omega | (simp; done) | (simp; omega)))); have _ : bf < w3.heap.size := (by omega); have _ : bf ≤ w3.heap.size := (by omega); have _ : bf < w3.heap.size + 1 := (by omega); have _ : bf < w3.heap.size + 1 + 1 := (by omega); have _ : bf ≠ w3.heap.size := (by omega); have _ : w3.heap.size ≠ bf := (by omega); have _ : bf ≠ w3.heap.size + 1 := (by omega); have _ : w3.heap.size + 1 ≠ bf := (by omega); have _ : bx < w3.heap.size := (by omega); have _ : bx ≤ w3.heap.size := (by omega); have _ : bx < w3.heap.size + 1 := (by omega); have _ : bx < w3.heap.size + 1 + 1 := (by omega); have _ : bx ≠ w3.heap.size := (by omega); have _ : w3.heap.size ≠ bx := (by omega); have _ : bx ≠ w3.heap.size + 1 := (by omega); have _ : w3.heap.size + 1 ≠ bx := (by omega); have _ : bw < w3.heap.size := (by omega); have _ : bw ≤ w3.heap.size := (by omega); have _ : bw < w3.heap.size + 1 := (by omega); have _ : bw < w3.heap.size + 1 + 1 := (by omega); have _ : bw ≠ w3.heap.size := (by omega); have _ : w3.heap.size ≠ bw := (by omega); have _ : bw ≠ w3.heap.size + 1 := (by omega); have _ : w3.heap.size + 1 ≠ bw := (by omega); have _ : br < w3.heap.size := (by omega); have _ : br ≤ w3.heap.size := (by omega); have _ : br < w3.heap.size + 1 := (by omega); have _ : br < w3.heap.size + 1 + 1 := (by omega); have _ : br ≠ w3.heap.size := (by omega); have _ : w3.heap.size ≠ br := (by omega); have _ : br ≠ w3.heap.size + 1 := (by omega); have _ : w3.heap.size + 1 ≠ br := (by omega); (try (have _ : W.heap.size < w3.heap.size := (by omega))); (try (have _ : W.heap.size ≤ w3.heap.size := (by omega))); (try (have _ : W.heap.size ≠ w3.heap.size := (by omega))); (try (have _ : w3.heap.size ≠ W.heap.size := (by omega))); (try (have _ : W.heap.size < w3.heap.size + 1 := (by omega))); (try (have _ : W.heap.size + 1 < w3.heap.size := (by omega))); (try (have _ : W.heap.size + 1 ≤ w3.heap.size := (by omega))); (try (have _ : W.heap.size + 1 ≠ w3.heap.size := (by omega))); (try (have _ : w3.heap.size ≠ W.heap.size + 1 := (by omega))); (try (have _ : W.heap.size + 1 < w3.heap.size + 1 := (by omega))); (try (have _ : w1.heap.size < w3.heap.size := (by omega))); (try (have _ : w1.heap.size ≤ w3.heap.size := (by omega))); (try (have _ : w1.heap.size ≠ w3.heap.size := (by omega))); (try (have _ : w3.heap.size ≠ w1.heap.size := (by omega))); (try (have _ : w1.heap.size < w3.heap.size + 1 := (by omega))); (try (have _ : w1.heap.size + 1 < w3.heap.size := (by omega))); (try (have _ : w1.heap.size + 1 ≤ w3.heap.size := (by omega))); (try (have _ : w1.heap.size + 1 ≠ w3.heap.size := (by omega))); (try (have _ : w3.heap.size ≠ w1.heap.size + 1 := (by omega))); (try (have _ : w1.heap.size + 1 < w3.heap.size + 1 := (by omega))); (try (have _ : w2.heap.size < w3.heap.size := (by omega))); (try (have _ : w2.heap.size ≤ w3.heap.size := (by omega))); (try (have _ : w2.heap.size ≠ w3.heap.size := (by omega))); (try (have _ : w3.heap.size ≠ w2.heap.size := (by omega))); (try (have _ : w2.heap.size < w3.heap.size + 1 := (by omega))); (try (have _ : w2.heap.size + 1 < w3.heap.size := (by omega))); (try (have _ : w2.heap.size + 1 ≤ w3.heap.size := (by omega))); (try (have _ : w2.heap.size + 1 ≠ w3.heap.size := (by omega))); (try (have _ : w3.heap.size ≠ w2.heap.size + 1 := (by omega))); (try (have _ : w2.heap.size + 1 < w3.heap.size + 1 := (by omega)))))
    all_goals (refine OutQ.intro ⟨_, ?_, ?_, ?_, ?_, rfl⟩)
    all_goals repeat (first | with_reducible exact BB.out | with_reducible exact HF.out | with_reducible exact HR.out | with_reducible refine Hold.fresh (by first | rfl | (simp; done) | fail) | with_reducible refine Hold.sets4 ?_ | with_reducible refine Hold.alloc ?_ _ | with_reducible refine Hold.drew ?_ | with_reducible refine HoldM.alloc ?_ _ | with_reducible refine HoldM.drew ?_ | with_reducible refine HoldM.set4 ?_ (by with_reducible assumption) _ _ _ _ | with_reducible refine Blank.alloc ?_ _ | with_reducible refine Blank.drew ?_ | with_reducible refine Blank.set4 ?_ (by with_reducible assumption) _ _ _ _ | with_reducible refine below_alloc hbf ?_ _ | with_reducible refine Below.drew ?_ | with_reducible refine Below.setCell ?_ (by with_reducible assumption) _ | with_reducible refine Has.fresh (by first | rfl | (simp; done) | fail) (by first | (simp; done) | fail) | with_reducible refine Has.alloc ?_ _ | with_reducible refine Has.drew ?_ | with_reducible refine Has.keep ?_ hb3 | with_reducible refine Hold.keep ?_ hb3 | with_reducible refine HoldM.keep ?_ hb3 | with_reducible refine Blank.keep ?_ hb3 | with_reducible refine below_then hbf ?_ hb3 | with_reducible refine Has.keep ?_ hb2 | with_reducible refine Hold.keep ?_ hb2 | with_reducible refine HoldM.keep ?_ hb2 | with_reducible refine Blank.keep ?_ hb2 | with_reducible refine below_then hbf ?_ hb2 | with_reducible refine Has.keep ?_ hb1 | with_reducible refine Hold.keep ?_ hb1 | with_reducible refine HoldM.keep ?_ hb1 | with_reducible refine Blank.keep ?_ hb1 | with_reducible refine below_then hbf ?_ hb1)
  rintro _ W1 ⟨bs, B, hF, hR, hS, rfl⟩
  subst hbf
  clear BB HF HR gF gX gY lf lx ly lr geB K1 K2 K3 W
  have gF := hF.cells; have gS := hS.cells
  rcases K4.out with ⟨rfl, K5⟩ | ⟨rfl, K5⟩
  · go_wp2_with fail
    with_reducible refine (K5.out _).mono ?_
    rintro e w1 ⟨rfl, hb⟩
    replace B := B.trans (hb.mono B.size)
    replace hR := hR.keep hb
    clear hb gF gS hF hS
    have gR := hR.1.all4; have fR := hR.2.all4
    go_wp2
    simp [bodyPost, results, Tryz.results92, go_sem, gR]
    exact below_set4 B o3 _ _ _ _
  · go_wp2_with fail
    with_reducible refine (K5.out _).mono ?_
    rintro e w1 ⟨rfl, hb⟩
    replace B := B.trans (hb.mono B.size)
    replace hR := hR.keep hb
    clear hb gF gS hF hS
    have gR := fun o => (hR.alloc o).1.all4
    have fR := fun o => (hR.alloc o).2.all4
    have BB : Hid (∀ o, Below w.heap.size w (w1.alloc o)) := fun o => B.alloc B.size o
    clear B hR
    go_wp2
    simp [bodyPost, results, Tryz.results92, go_sem, *]
    repeat (first | with_reducible exact BB.out _ | with_reducible refine Below.drew ?_ | with_reducible refine Below.setCell ?_ (by with_reducible assumption) _)

theorem fadd_any {m c x y : Int} (hf : Fit m c) (hx : Num x) (hy : Num y) (w : World) :
    Calls Tryz.prog 92 #[.agg #[.int .u64 (l0 m), .int .u64 (l1 m), .int .u64 (l2 m), .int .u64 (l3 m), .int .u64 (l0 c), .int .u64 (l1 c), .int .u64 (l2 c), .int .u64 (l3 c)], .agg #[.int .u64 (l0 x), .int .u64 (l1 x), .int .u64 (l2 x), .int .u64 (l3 x)], .agg #[.int .u64 (l0 y), .int .u64 (l1 y), .int .u64 (l2 y), .int .u64 (l3 y)]] w fun e w' => e = .returned (.agg #[.int .u64 (l0 (modN m (x + y))), .int .u64 (l1 (modN m (x + y))), .int .u64 (l2 (modN m (x + y))), .int .u64 (l3 (modN m (x + y)))]) ∧ Below w.heap.size w w' := by
  have na := modN_Num hf x
  have nb := modN_Num hf y
  have T : ∀ w, Calls Tryz.prog 101 #[.agg #[.int .u64 (l0 (modN m x)), .int .u64 (l1 (modN m x)), .int .u64 (l2 (modN m x)), .int .u64 (l3 (modN m x))], .agg #[.int .u64 (l0 (modN m y)), .int .u64 (l1 (modN m y)), .int .u64 (l2 (modN m y)), .int .u64 (l3 (modN m y))]] w fun e w' => e = .returned (.tuple #[.agg #[.int .u64 (l0 (sumN (modN m x) (modN m y))), .int .u64 (l1 (sumN (modN m x) (modN m y))), .int .u64 (l2 (sumN (modN m x) (modN m y))), .int .u64 (l3 (sumN (modN m x) (modN m y)))], .int .u64 (carN (modN m x) (modN m y))]) ∧ Below w.heap.size w w' := fun w => add_any na nb w
  refine fadd_walk (z := borN (sumN (modN m x) (modN m y)) m) (once_any hf hx) (once_any hf hy) T ?_ w
  rcases fadd_num (x := x) (y := y) hf with ⟨k1, k2⟩ | ⟨k1, k2⟩
  · exact .inl ⟨k1, by rw [k2]; exact once_any hf (sumN_Num _ _)⟩
  · exact .inr ⟨k1, by rw [k2]; exact fun w => sub_any (sumN_Num _ _) hf.num w⟩

set_option maxHeartbeats 4000000 in
theorem fsub_walk {m c x y a b s r k z : Int} (K1 : Hid (∀ w, Calls Tryz.prog 68 #[.agg #[.int .u64 (l0 m), .int .u64 (l1 m), .int .u64 (l2 m), .int .u64 (l3 m), .int .u64 (l0 c), .int .u64 (l1 c), .int .u64 (l2 c), .int .u64 (l3 c)], .agg #[.int .u64 (l0 x), .int .u64 (l1 x), .int .u64 (l2 x), .int .u64 (l3 x)]] w fun e w' => e = .returned (.agg #[.int .u64 (l0 a), .int .u64 (l1 a), .int .u64 (l2 a), .int .u64 (l3 a)]) ∧ Below w.heap.size w w')) (K2 : Hid (∀ w, Calls Tryz.prog 68 #[.agg #[.int .u64 (l0 m), .int .u64 (l1 m), .int .u64 (l2 m), .int .u64 (l3 m), .int .u64 (l0 c), .int .u64 (l1 c), .int .u64 (l2 c), .int .u64 (l3 c)], .agg #[.int .u64 (l0 y), .int .u64 (l1 y), .int .u64 (l2 y), .int .u64 (l3 y)]] w fun e w' => e = .returned (.agg #[.int .u64 (l0 b), .int .u64 (l1 b), .int .u64 (l2 b), .int .u64 (l3 b)]) ∧ Below w.heap.size w w')) (K3 : Hid (∀ w, Calls Tryz.prog 79 #[.agg #[.int .u64 (l0 a), .int .u64 (l1 a), .int .u64 (l2 a), .int .u64 (l3 a)], .agg #[.int .u64 (l0 b), .int .u64 (l1 b), .int .u64 (l2 b), .int .u64 (l3 b)]] w fun e w' => e = .returned (.tuple #[.agg #[.int .u64 (l0 s), .int .u64 (l1 s), .int .u64 (l2 s), .int .u64 (l3 s)], .int .u64 k]) ∧ Below w.heap.size w w')) (K4 : Hid ((k = 0 ∧ s = r) ∨ (k = 1 ∧ Hid (∀ w, Calls Tryz.prog 101 #[.agg #[.int .u64 (l0 s), .int .u64 (l1 s), .int .u64 (l2 s), .int .u64 (l3 s)], .agg #[.int .u64 (l0 m), .int .u64 (l1 m), .int .u64 (l2 m), .int .u64 (l3 m)]] w fun e w' => e = .returned (.tuple #[.agg #[.int .u64 (l0 r), .int .u64 (l1 r), .int .u64 (l2 r), .int .u64 (l3 r)], .int .u64 z]) ∧ Below w.heap.size w w')))) (w : World) :
    Calls Tryz.prog 93 #[.agg #[.int .u64 (l0 m), .int .u64 (l1 m), .int .u64 (l2 m), .int .u64 (l3 m), .int .u64 (l0 c), .int .u64 (l1 c), .int .u64 (l2 c), .int .u64 (l3 c)], .agg #[.int .u64 (l0 x), .int .u64 (l1 x), .int .u64 (l2 x), .int .u64 (l3 x)], .agg #[.int .u64 (l0 y), .int .u64 (l1 y), .int .u64 (l2 y), .int .u64 (l3 y)]] w fun e w' => e = .returned (.agg #[.int .u64 (l0 r), .int .u64 (l1 r), .int .u64 (l2 r), .int .u64 (l3 r)]) ∧ Below w.heap.size w w' := by
  go_enter Tryz.func93, Tryz.ntmps93
  go_wp2_with fail
  refine wp_world (fun W => Below w.heap.size w W ∧ HoldM W w.heap.size m c ∧ Hold W (w.heap.size + 1) x ∧ Hold W (w.heap.size + 1 + 1) y ∧ Blank W (w.heap.size + 1 + 1 + 1)) ⟨by repeat (first | with_reducible exact Below.refl _ _ | with_reducible refine Below.alloc ?_ (by first | omega | (simp; done) | (simp; omega)) _), (((HoldM.new w m c _).alloc _).alloc _).alloc _, ((Hold.fresh (by simp)).alloc _).alloc _, (Hold.fresh (by simp)).alloc _, Blank.new (by simp)⟩ ?_
  rintro W ⟨B, hF, hX, hY, hR⟩
  have o3 : w.heap.size ≤ w.heap.size + 1 + 1 + 1 := by omega
  generalize w.heap.size + 1 + 1 + 1 = br at *
  generalize w.heap.size + 1 + 1 = bw at *
  generalize w.heap.size + 1 = bx at *
  generalize hbf : w.heap.size = bf at *
  have gF := hF.cells; have gX := hX.cells; have gY := hY.cells
  have lf : bf < W.heap.size := hF.lt
  have lx : bx < W.heap.size := World.block_lt_of_cell? W _ hX.1
  have ly : bw < W.heap.size := World.block_lt_of_cell? W _ hY.1
  have lr : br < W.heap.size := hR.1.lt (by simp)
  have BB : Hid (Below bf w W) := B
  have HF : Hid (HoldM W bf m c) := hF
  have HR : Hid (Blank W br) := hR
  have geB : bf ≤ W.heap.size := by omega
  clear B hF hX hY hR
  refine wp_out (fun a' W' => ∃ bs, Below bf w W' ∧ HoldM W' bf m c ∧ Blank W' br ∧ Hold W' bs s ∧ a' = { tmps := #[.agg #[.int .u64 (l0 m), .int .u64 (l1 m), .int .u64 (l2 m), .int .u64 (l3 m), .int .u64 (l0 c), .int .u64 (l1 c), .int .u64 (l2 c), .int .u64 (l3 c)], .agg #[.int .u64 (l0 x), .int .u64 (l1 x), .int .u64 (l2 x), .int .u64 (l3 x)], .agg #[.int .u64 (l0 y), .int .u64 (l1 y), .int .u64 (l2 y), .int .u64 (l3 y)], .pointer (some { block := bf, off := 0 }), .pointer (some { block := bx, off := 0 }), .pointer (some { block := bw, off := 0 }), .pointer (some { block := br, off := 0 }), .pointer (some { block := bs, off := 0 }), .int .u64 k, Go.undef, Go.undef, .tuple #[.agg #[.int .u64 (l0 s), .int .u64 (l1 s), .int .u64 (l2 s), .int .u64 (l3 s)], .int .u64 k], .agg #[.int .u64 (l0 m), .int .u64 (l1 m), .int .u64 (l2 m), .int .u64 (l3 m), .int .u64 (l0 c), .int .u64 (l1 c), .int .u64 (l2 c), .int .u64 (l3 c)], .agg #[.int .u64 (l0 x), .int .u64 (l1 x), .int .u64 (l2 x), .int .u64 (l3 x)], .agg #[.int .u64 (l0 a), .int .u64 (l1 a), .int .u64 (l2 a), .int .u64 (l3 a)], .agg #[.int .u64 (l0 m), .int .u64 (l1 m), .int .u64 (l2 m), .int .u64 (l3 m), .int .u64 (l0 c), .int .u64 (l1 c), .int .u64 (l2 c), .int .u64 (l3 c)], .agg #[.int .u64 (l0 y), .int .u64 (l1 y), .int .u64 (l2 y), .int .u64 (l3 y)], .agg #[.int .u64 (l0 b), .int .u64 (l1 b), .int .u64 (l2 b), .int .u64 (l3 b)], .tuple #[.agg #[.int .u64 (l0 s), .int .u64 (l1 s), .int .u64 (l2 s), .int .u64 (l3 s)], .int .u64 k], .agg #[.int .u64 (l0 s), .int .u64 (l1 s), .int .u64 (l2 s), .int .u64 (l3 s)], .int .u64 k, Go.undef, Go.undef, Go.undef, Go.undef, Go.undef, Go.undef, Go.undef, Go.undef, Go.undef, Go.undef, Go.undef], defers := [] }) ?_ ?_
  · have dz : W.drew.heap.size = W.heap.size := rfl
    clear K4
    have _ : bf < W.heap.size := by omega
    have _ : bf ≤ W.heap.size := by omega
    have _ : bf < W.heap.size + 1 := by omega
    have _ : bf < W.heap.size + 1 + 1 := by omega
    have _ : bf ≠ W.heap.size := by omega
    have _ : W.heap.size ≠ bf := by omega
    have _ : bf ≠ W.heap.size + 1 := by omega
    have _ : W.heap.size + 1 ≠ bf := by omega
    have _ : bx < W.heap.size := by omega
    have _ : bx ≤ W.heap.size := by omega
    have _ : bx < W.heap.size + 1 := by omega
    have _ : bx < W.heap.size + 1 + 1 := by omega
    have _ : bx ≠ W.heap.size := by omega
    have _ : W.heap.size ≠ bx := by omega
    have _ : bx ≠ W.heap.size + 1 := by omega
    have _ : W.heap.size + 1 ≠ bx := by omega
    have _ : bw < W.heap.size := by omega
    have _ : bw ≤ W.heap.size := by omega
    have _ : bw < W.heap.size + 1 := by omega
    have _ : bw < W.heap.size + 1 + 1 := by omega
    have _ : bw ≠ W.heap.size := by omega
    have _ : W.heap.size ≠ bw := by omega
    have _ : bw ≠ W.heap.size + 1 := by omega
    have _ : W.heap.size + 1 ≠ bw := by omega
    have _ : br < W.heap.size := by omega
    have _ : br ≤ W.heap.size := by omega
    have _ : br < W.heap.size + 1 := by omega
    have _ : br < W.heap.size + 1 + 1 := by omega
    have _ : br ≠ W.heap.size := by omega
    have _ : W.heap.size ≠ br := by omega
    have _ : br ≠ W.heap.size + 1 := by omega
    have _ : W.heap.size + 1 ≠ br := by omega
    go_region_held3 (fun w' => w'.cell? ⟨bf, 0, none⟩ = some (.int .u64 (l0 m)) ∧ w'.cell? ⟨bf, 1, none⟩ = some (.int .u64 (l1 m)) ∧ w'.cell? ⟨bf, 2, none⟩ = some (.int .u64 (l2 m)) ∧ w'.cell? ⟨bf, 3, none⟩ = some (.int .u64 (l3 m)) ∧ w'.cell? ⟨bf, 4, none⟩ = some (.int .u64 (l0 c)) ∧ w'.cell? ⟨bf, 5, none⟩ = some (.int .u64 (l1 c)) ∧ w'.cell? ⟨bf, 6, none⟩ = some (.int .u64 (l2 c)) ∧ w'.cell? ⟨bf, 7, none⟩ = some (.int .u64 (l3 c)) ∧ w'.cell? ⟨bx, 0, none⟩ = some (.int .u64 (l0 x)) ∧ w'.cell? ⟨bx, 1, none⟩ = some (.int .u64 (l1 x)) ∧ w'.cell? ⟨bx, 2, none⟩ = some (.int .u64 (l2 x)) ∧ w'.cell? ⟨bx, 3, none⟩ = some (.int .u64 (l3 x)) ∧ w'.cell? ⟨bw, 0, none⟩ = some (.int .u64 (l0 y)) ∧ w'.cell? ⟨bw, 1, none⟩ = some (.int .u64 (l1 y)) ∧ w'.cell? ⟨bw, 2, none⟩ = some (.int .u64 (l2 y)) ∧ w'.cell? ⟨bw, 3, none⟩ = some (.int .u64 (l3 y))) (((try dsimp only); (repeat' (apply And.intro)); (all_goals repeat (first | with_reducible assumption | with_reducible apply cell_keep hb3 | with_reducible apply cell_keep hb2 | with_reducible apply cell_keep hb1 | with_reducible apply cell_alloc | (with_reducible refine cell_set ?_ (by with_reducible assumption)) | (simp [go_sem, *]; done)))))
      (first
        | (go_at_call 68; with_reducible refine (K1.out _).mono ?_; rintro e w1 ⟨rfl, hb1⟩; have hc1 := oldCells hb1; have hz1 := hb1.size; (try simp at hz1); (try (have := fun j => oldCells hb1 (W.heap.size) j (by first | omega | (simp; done) | (simp; omega)))); (try (have := fun j => oldCells hb1 (W.heap.size + 1) j (by first | omega | (simp; done) | (simp; omega)))); have _ : bf < w1.heap.size := (by omega); have _ : bf ≤ w1.heap.size := (by omega); have _ : bf < w1.heap.size + 1 := (by omega); have _ : bf < w1.heap.size + 1 + 1 := (by omega); have _ : bf ≠ w1.heap.size := (by omega); have _ : w1.heap.size ≠ bf := (by omega); have _ : bf ≠ w1.heap.size + 1 := (by omega); have _ : w1.heap.size + 1 ≠ bf := (by omega); have _ : bx < w1.heap.size := (by omega); have _ : bx ≤ w1.heap.size := (by omega); have _ : bx < w1.heap.size + 1 := (by omega); have _ : bx < w1.heap.size + 1 + 1 := (by omega); have _ : bx ≠ w1.heap.size := (by omega); have _ : w1.heap.size ≠ bx := (by omega); have _ : bx ≠ w1.heap.size + 1 := (by omega); have _ : w1.heap.size + 1 ≠ bx := (by omega); have _ : bw < w1.heap.size := (by omega); have _ : bw ≤ w1.heap.size := (by omega); have _ : bw < w1.heap.size + 1 := (by omega); have _ : bw < w1.heap.size + 1 + 1 := (by omega); have _ : bw ≠ w1.heap.size := (by omega); have _ : w1.heap.size ≠ bw := (by omega); have _ : bw ≠ w1.heap.size + 1 := (by omega); have _ : w1.heap.size + 1 ≠ bw := (by omega); have _ : br < w1.heap.size := (by omega); have _ : br ≤ w1.heap.size := (by omega); have _ : br < w1.heap.size + 1 := (by omega); have _ : br < w1.heap.size + 1 + 1 := (by omega); have _ : br ≠ w1.heap.size := (by omega); have _ : w1.heap.size ≠ br := (by omega); have _ : br ≠ w1.heap.size + 1 := (by omega); have _ : w1.heap.size + 1 ≠ br := (by omega); (try (have _ : W.heap.size < w1.heap.size := (by omega))); (try (have _ : W.heap.size ≤ w1.heap.size := (by omega))); (try (have _ : W.heap.size ≠ w1.heap.size := (by omega))); (try (have _ : w1.heap.size ≠ W.heap.size := (by omega))); (try (have _ : W.heap.size < w1.heap.size + 1 := (by omega))); (try (have _ : W.heap.size + 1 < w1.heap.size := (by omega))); (try (have _ : W.heap.size + 1 ≤ w1.heap.size := (by omega))); (try (have _ : W.heap.size + 1 ≠ w1.heap.size := (by omega))); (try (have _ : w1.heap.size ≠ W.heap.size + 1 := (by omega))); (try (have _ : W.heap.size + 1 < w1.heap.size + 1 := (by omega))))
        | (go_at_call 68; with_reducible refine (K2.out _).mono ?_; rintro e w2 ⟨rfl, hb2⟩; have hc2 := oldCells hb2; have hz2 := hb2.size; (try simp at hz2); (try (have := fun j => oldCells hb2 (W.heap.size) j (by first | omega | (simp; done) | (simp; omega)))); (try (have := fun j => oldCells hb2 (W.heap.size + 1) j (by first | omega | (simp; done) | (simp; omega)))); (try (have := fun j => oldCells hb2 (w1.heap.size) j (by first | omega | (simp; done) | (simp; omega)))); (try (have := fun j => oldCells hb2 (w1.heap.size + 1) j (by first | omega | (simp; done) | (simp; omega)))); have _ : bf < w2.heap.size := (by omega); have _ : bf ≤ w2.heap.size := (by omega); have _ : bf < w2.heap.size + 1 := (by omega); have _ : bf < w2.heap.size + 1 + 1 := (by omega); have _ : bf ≠ w2.heap.size := (by omega); have _ : w2.heap.size ≠ bf := (by omega); have _ : bf ≠ w2.heap.size + 1 := (by omega); have _ : w2.heap.size + 1 ≠ bf := (by omega); have _ : bx < w2.heap.size := (by omega); have _ : bx ≤ w2.heap.size := (by omega); have _ : bx < w2.heap.size + 1 := (by omega); have _ : bx < w2.heap.size + 1 + 1 := (by omega); have _ : bx ≠ w2.heap.size := (by omega); have _ : w2.heap.size ≠ bx := (by omega); have _ : bx ≠ w2.heap.size + 1 := (by omega); have _ : w2.heap.size + 1 ≠ bx := (by omega); have _ : bw < w2.heap.size := (by omega); have _ : bw ≤ w2.heap.size := (by omega); have _ : bw < w2.heap.size + 1 := (by omega); have _ : bw < w2.heap.size + 1 + 1 := (by omega); have _ : bw ≠ w2.heap.size := (by omega); have _ : w2.heap.size ≠ bw := (by omega); have _ : bw ≠ w2.heap.size + 1 := (by omega); have _ : w2.heap.size + 1 ≠ bw := (by omega); have _ : br < w2.heap.size := (by omega); have _ : br ≤ w2.heap.size := (by omega); have _ : br < w2.heap.size + 1 := (by omega); have _ : br < w2.heap.size + 1 + 1 := (by omega); have _ : br ≠ w2.heap.size := (by omega); have _ : w2.heap.size ≠ br := (by omega); have _ : br ≠ w2.heap.size + 1 := (by omega); have _ : w2.heap.size + 1 ≠ br := (by omega); (try (have _ : W.heap.size < w2.heap.size := (by omega))); (try (have _ : W.heap.size ≤ w2.heap.size := (by omega))); (try (have _ : W.heap.size ≠ w2.heap.size := (by omega))); (try (have _ : w2.heap.size ≠ W.heap.size := (by omega))); (try (have _ : W.heap.size < w2.heap.size + 1 := (by omega))); (try (have _ : W.heap.size + 1 < w2.heap.size := (by omega))); (try (have _ : W.heap.size + 1 ≤ w2.heap.size := (by omega))); (try (have _ : W.heap.size + 1 ≠ w2.heap.size := (by omega))); (try (have _ : w2.heap.size ≠ W.heap.size + 1 := (by omega))); (try (have _ : W.heap.size + 1 < w2.heap.size + 1 := (by omega))); (try (have _ : w1.heap.size < w2.heap.size := (by omega))); (try (have _ : w1.heap.size ≤ w2.heap.size := (by omega))); (try (have _ : w1.heap.size ≠ w2.heap.size := (by omega))); (try (have _ : w2.heap.size ≠ w1.heap.size := (by omega))); (try (have _ : w1.heap.size < w2.heap.size + 1 := (by omega))); (try (have _ : w1.heap.size + 1 < w2.heap.size := (by omega))); (try (have _ : w1.heap.size + 1 ≤ w2.heap.size := (by omega))); (try (have _ : w1.heap.size + 1 ≠ w2.heap.size := (by omega))); (try (have _ : w2.heap.size ≠ w1.heap.size + 1 := (by omega))); (try (have _ : w1.heap.size + 1 < w2.heap.size + 1 := (by omega))))
        | (go_at_call 79; with_reducible refine (K3.out _).mono ?_; rintro e w3 ⟨rfl, hb3⟩; have hc3 := oldCells hb3; have hz3 := hb3.size; (try simp at hz3); (try (have := fun j => oldCells hb3 (W.heap.size) j (by first | omega | (simp; done) | (simp; omega)))); (try (have := fun j => oldCells hb3 (W.heap.size + 1) j (by first | omega | (simp; done) | (simp; omega)))); (try (have := fun j => oldCells hb3 (w1.heap.size) j (by first | omega | (simp; done) | (simp; omega)))); (try (have := fun j => oldCells hb3 (w1.heap.size + 1) j (by first | omega | (simp; done) | (simp; omega)))); (try (have := fun j => oldCells hb3 (w2.heap.size) j (by first | omega | (simp; done) | (simp; omega)))); (try (have := fun j => oldCells hb3 (w2.heap.size + 1) j (by first | omega | (simp; done) | (simp; omega)))); have _ : bf < w3.heap.size := (by omega); have _ : bf ≤ w3.heap.size := (by omega); have _ : bf < w3.heap.size + 1 := (by omega); have _ : bf < w3.heap.size + 1 + 1 := (by omega); have _ : bf ≠ w3.heap.size := (by omega); have _ : w3.heap.size ≠ bf := (by omega); have _ : bf ≠ w3.heap.size + 1 := (by omega); have _ : w3.heap.size + 1 ≠ bf := (by omega); have _ : bx < w3.heap.size := (by omega); have _ : bx ≤ w3.heap.size := (by omega); have _ : bx < w3.heap.size + 1 := (by omega); have _ : bx < w3.heap.size + 1 + 1 := (by omega); have _ : bx ≠ w3.heap.size := (by omega); have _ : w3.heap.size ≠ bx := (by omega); have _ : bx ≠ w3.heap.size + 1 := (by omega); have _ : w3.heap.size + 1 ≠ bx := (by omega); have _ : bw < w3.heap.size := (by omega); have _ : bw ≤ w3.heap.size := (by omega); have _ : bw < w3.heap.size + 1 := (by omega); have _ : bw < w3.heap.size + 1 + 1 := (by omega); have _ : bw ≠ w3.heap.size := (by omega); have _ : w3.heap.size ≠ bw := (by omega); have _ : bw ≠ w3.heap.size + 1 := (by omega); have _ : w3.heap.size + 1 ≠ bw := (by omega); have _ : br < w3.heap.size := (by omega); have _ : br ≤ w3.heap.size := (by omega); have _ : br < w3.heap.size + 1 := (by omega); have _ : br < w3.heap.size + 1 + 1 := (by omega); have _ : br ≠ w3.heap.size := (by omega); have _ : w3.heap.size ≠ br := (by omega); have _ : br ≠ w3.heap.size + 1 := (by omega); have _ : w3.heap.size + 1 ≠ br := (by omega); (try (have _ : W.heap.size < w3.heap.size := (by omega))); (try (have _ : W.heap.size ≤ w3.heap.size := (by omega))); (try (have _ : W.heap.size ≠ w3.heap.size := (by omega))); (try (have _ : w3.heap.size ≠ W.heap.size := (by omega))); (try (have _ : W.heap.size < w3.heap.size + 1 := (by omega))); (try (have _ : W.heap.size + 1 < w3.heap.size := (by omega))); (try (have _ : W.heap.size + 1 ≤ w3.heap.size := (by omega))); (try (have _ : W.heap.size + 1 ≠ w3.heap.size := (by omega))); (try (have _ : w3.heap.size ≠ W.heap.size + 1 := (by omega))); (try (have _ : W.heap.size + 1 < w3.heap.size + 1 := (by omega))); (try (have _ : w1.heap.size < w3.heap.size := (by omega))); (try (have _ : w1.heap.size ≤ w3.heap.size := (by omega))); (try (have _ : w1.heap.size ≠ w3.heap.size := (by omega))); (try (have _ : w3.heap.size ≠ w1.heap.size := (by omega))); (try (have _ : w1.heap.size < w3.heap.size + 1 := (by omega))); (try (have _ : w1.heap.size + 1 < w3.heap.size := (by omega))); (try (have _ : w1.heap.size + 1 ≤ w3.heap.size := (by omega))); (try (have _ : w1.heap.size + 1 ≠ w3.heap.size := (by omega))); (try (have _ : w3.heap.size ≠ w1.heap.size + 1 := (by omega))); (try (have _ : w1.heap.size + 1 < w3.heap.size + 1 := (by omega))); (try (have _ : w2.heap.size < w3.heap.size := (by omega))); (try (have _ : w2.heap.size ≤ w3.heap.size := (by omega))); (try (have _ : w2.heap.size ≠ w3.heap.size := (by omega))); (try (have _ : w3.heap.size ≠ w2.heap.size := (by omega))); (try (have _ : w2.heap.size < w3.heap.size + 1 := (by omega))); (try (have _ : w2.heap.size + 1 < w3.heap.size := (by omega))); (try (have _ : w2.heap.size + 1 ≤ w3.heap.size := (by omega))); (try (have _ : w2.heap.size + 1 ≠ w3.heap.size := (by omega))); (try (have _ : w3.heap.size ≠ w2.heap.size + 1 := (by omega))); (try (have _ : w2.heap.size + 1 < w3.heap.size + 1 := (by omega)))))
    all_goals (refine OutQ.intro ⟨_, ?_, ?_, ?_, ?_, rfl⟩)
    all_goals repeat (first | with_reducible exact BB.out | with_reducible exact HF.out | with_reducible exact HR.out | with_reducible refine Hold.fresh (by first | rfl | (simp; done) | fail) | with_reducible refine Hold.sets4 ?_ | with_reducible refine Hold.alloc ?_ _ | with_reducible refine Hold.drew ?_ | with_reducible refine HoldM.alloc ?_ _ | with_reducible refine HoldM.drew ?_ | with_reducible refine HoldM.set4 ?_ (by with_reducible assumption) _ _ _ _ | with_reducible refine Blank.alloc ?_ _ | with_reducible refine Blank.drew ?_ | with_reducible refine Blank.set4 ?_ (by with_reducible assumption) _ _ _ _ | with_reducible refine below_alloc hbf ?_ _ | with_reducible refine Below.drew ?_ | with_reducible refine Below.setCell ?_ (by with_reducible assumption) _ | with_reducible refine Has.fresh (by first | rfl | (simp; done) | fail) (by first | (simp; done) | fail) | with_reducible refine Has.alloc ?_ _ | with_reducible refine Has.drew ?_ | with_reducible refine Has.keep ?_ hb3 | with_reducible refine Hold.keep ?_ hb3 | with_reducible refine HoldM.keep ?_ hb3 | with_reducible refine Blank.keep ?_ hb3 | with_reducible refine below_then hbf ?_ hb3 | with_reducible refine Has.keep ?_ hb2 | with_reducible refine Hold.keep ?_ hb2 | with_reducible refine HoldM.keep ?_ hb2 | with_reducible refine Blank.keep ?_ hb2 | with_reducible refine below_then hbf ?_ hb2 | with_reducible refine Has.keep ?_ hb1 | with_reducible refine Hold.keep ?_ hb1 | with_reducible refine HoldM.keep ?_ hb1 | with_reducible refine Blank.keep ?_ hb1 | with_reducible refine below_then hbf ?_ hb1)
  rintro _ W1 ⟨bs, B, hF, hR, hS, rfl⟩
  subst hbf
  clear BB HF HR gF gX gY lf lx ly lr geB K1 K2 K3 W
  have gF := hF.cells; have gS := hS.cells
  rcases K4.out with ⟨rfl, K5⟩ | ⟨rfl, K5⟩
  · subst K5
    have gR := hR.1.all4; have fR := hR.2.all4
    clear gF hF
    go_wp2
    simp [bodyPost, results, Tryz.results93, go_sem, gR]
    exact below_set4 B o3 _ _ _ _
  · go_wp2_with fail
    with_reducible refine (K5.out _).mono ?_
    rintro e w1 ⟨rfl, hb⟩
    replace B := B.trans (hb.mono B.size)
    replace hR := hR.keep hb
    clear hb gF gS hF hS
    have gR := fun o => (hR.alloc o).1.all4
    have fR := fun o => (hR.alloc o).2.all4
    have BB : Hid (∀ o, Below w.heap.size w (w1.alloc o)) := fun o => B.alloc B.size o
    clear B hR
    go_wp2
    simp [bodyPost, results, Tryz.results93, go_sem, *]
    repeat (first | with_reducible exact BB.out _ | with_reducible refine Below.drew ?_ | with_reducible refine Below.setCell ?_ (by with_reducible assumption) _)

theorem fsub_any {m c x y : Int} (hf : Fit m c) (hx : Num x) (hy : Num y) (w : World) :
    Calls Tryz.prog 93 #[.agg #[.int .u64 (l0 m), .int .u64 (l1 m), .int .u64 (l2 m), .int .u64 (l3 m), .int .u64 (l0 c), .int .u64 (l1 c), .int .u64 (l2 c), .int .u64 (l3 c)], .agg #[.int .u64 (l0 x), .int .u64 (l1 x), .int .u64 (l2 x), .int .u64 (l3 x)], .agg #[.int .u64 (l0 y), .int .u64 (l1 y), .int .u64 (l2 y), .int .u64 (l3 y)]] w fun e w' => e = .returned (.agg #[.int .u64 (l0 (modN m (x - y))), .int .u64 (l1 (modN m (x - y))), .int .u64 (l2 (modN m (x - y))), .int .u64 (l3 (modN m (x - y)))]) ∧ Below w.heap.size w w' := by
  have na := modN_Num hf x
  have nb := modN_Num hf y
  have T : ∀ w, Calls Tryz.prog 79 #[.agg #[.int .u64 (l0 (modN m x)), .int .u64 (l1 (modN m x)), .int .u64 (l2 (modN m x)), .int .u64 (l3 (modN m x))], .agg #[.int .u64 (l0 (modN m y)), .int .u64 (l1 (modN m y)), .int .u64 (l2 (modN m y)), .int .u64 (l3 (modN m y))]] w fun e w' => e = .returned (.tuple #[.agg #[.int .u64 (l0 (difN (modN m x) (modN m y))), .int .u64 (l1 (difN (modN m x) (modN m y))), .int .u64 (l2 (difN (modN m x) (modN m y))), .int .u64 (l3 (difN (modN m x) (modN m y)))], .int .u64 (borN (modN m x) (modN m y))]) ∧ Below w.heap.size w w' := fun w => sub_any na nb w
  refine fsub_walk (z := carN (difN (modN m x) (modN m y)) m) (once_any hf hx) (once_any hf hy) T ?_ w
  rcases fsub_num (x := x) (y := y) hf with ⟨k1, k2⟩ | ⟨k1, k2⟩
  · exact .inl ⟨k1, k2.symm⟩
  · exact .inr ⟨k1, by rw [k2]; exact fun w => add_any (difN_Num _ _) hf.num w⟩
end Go.Proofs.YtiebnlahhmngcaaGreatDoor

import Derived.Test.YtmegdnalpaddmaaFeN
import Derived.Test.YtmegdnalpaddmaaQAlloc
import Derived.Test.YtmegdnalpaddmaaMul2
import Derived.Test.YtmegdnalpaddmaaShl
import Derived.Deep.RegionHeld3
namespace Go.Proofs.Ytmegdnalpaddmaa
open Go.RowKit Go.Sort

theorem Num_one : Num 1 := ⟨by decide, by decide⟩
theorem Word.num {v : Int} (h : Word v) : Num v := ⟨h.1, by have := h.2; omega⟩

set_option maxHeartbeats 2000000 in
theorem plus_yes {x y : Int} (A : Hid (∀ w, Calls Try.prog 9 #[.agg #[.int .u64 (l0 x), .int .u64 (l1 x), .int .u64 (l2 x), .int .u64 (l3 x)], .agg #[.int .u64 (l0 y), .int .u64 (l1 y), .int .u64 (l2 y), .int .u64 (l3 y)]] w fun e w' => e = .returned (.tuple #[.agg #[.int .u64 (l0 (x + y)), .int .u64 (l1 (x + y)), .int .u64 (l2 (x + y)), .int .u64 (l3 (x + y))], .int .u64 0]) ∧ Below w.heap.size w w')) (w : World) :
    Calls Try.prog 18 #[.agg #[.int .u64 (l0 x), .int .u64 (l1 x), .int .u64 (l2 x), .int .u64 (l3 x)], .agg #[.int .u64 (l0 y), .int .u64 (l1 y), .int .u64 (l2 y), .int .u64 (l3 y)]] w fun e w' => e = .returned (.tuple #[.agg #[.int .u64 (l0 (x + y)), .int .u64 (l1 (x + y)), .int .u64 (l2 (x + y)), .int .u64 (l3 (x + y))], .int .i64 0]) ∧ Below w.heap.size w w' := by
  have hz := build_zero
  go_enter Try.func18, Try.ntmps18
  go_wp2_with fail
  refine calls_world (fun W => Below w.heap.size w W ∧ Blank W (w.heap.size + 1 + 1)) ⟨by repeat (first | with_reducible exact Below.refl _ _ | with_reducible refine Below.alloc ?_ (by first | omega | (simp; done) | (simp; omega)) _), Blank.new (by simp)⟩ ?_
  rintro W ⟨B, hR⟩
  have o1 : w.heap.size ≤ w.heap.size + 1 + 1 := by omega
  generalize w.heap.size + 1 + 1 = br at *
  with_reducible refine (A.out _).mono ?_
  rintro e w1 ⟨rfl, hb⟩
  replace B := B.trans (hb.mono B.size)
  replace hR := hR.keep hb
  clear hb W
  have gR := fun o => (hR.alloc o).1.all4; have fR := fun o => (hR.alloc o).2.all4
  have c1 : br ≠ w1.heap.size := by have := hR.1.lt (by simp); omega
  have c2 := c1.symm
  go_wp2
  simp [bodyPost, results, Try.results18, go_sem, gR]
  repeat (first | with_reducible exact B | with_reducible refine Below.drew ?_ | with_reducible refine Below.setCell ?_ o1 _ | with_reducible refine Below.setCell ?_ o2 _ | with_reducible refine Below.alloc ?_ (by first | exact B.size | omega | (simp; done) | (simp; omega)) _)

set_option maxHeartbeats 2000000 in
theorem plus_no {x y : Int} (A : Hid (∀ w, Calls Try.prog 9 #[.agg #[.int .u64 (l0 x), .int .u64 (l1 x), .int .u64 (l2 x), .int .u64 (l3 x)], .agg #[.int .u64 (l0 y), .int .u64 (l1 y), .int .u64 (l2 y), .int .u64 (l3 y)]] w fun e w' => e = .returned (.tuple #[.agg #[.int .u64 (l0 (sumN x y)), .int .u64 (l1 (sumN x y)), .int .u64 (l2 (sumN x y)), .int .u64 (l3 (sumN x y))], .int .u64 1]) ∧ Below w.heap.size w w')) (w : World) :
    Calls Try.prog 18 #[.agg #[.int .u64 (l0 x), .int .u64 (l1 x), .int .u64 (l2 x), .int .u64 (l3 x)], .agg #[.int .u64 (l0 y), .int .u64 (l1 y), .int .u64 (l2 y), .int .u64 (l3 y)]] w fun e w' => e = .returned (.tuple #[.agg #[.int .u64 0, .int .u64 0, .int .u64 0, .int .u64 0], .int .i64 183]) ∧ Below w.heap.size w w' := by
  have hz := build_zero
  go_enter Try.func18, Try.ntmps18
  go_wp2_with fail
  refine calls_world (fun W => Below w.heap.size w W ∧ Blank W (w.heap.size + 1 + 1)) ⟨by repeat (first | with_reducible exact Below.refl _ _ | with_reducible refine Below.alloc ?_ (by first | omega | (simp; done) | (simp; omega)) _), Blank.new (by simp)⟩ ?_
  rintro W ⟨B, hR⟩
  have o1 : w.heap.size ≤ w.heap.size + 1 + 1 := by omega
  generalize w.heap.size + 1 + 1 = br at *
  with_reducible refine (A.out _).mono ?_
  rintro e w1 ⟨rfl, hb⟩
  replace B := B.trans (hb.mono B.size)
  replace hR := hR.keep hb
  clear hb W
  have gR := fun o => (hR.alloc o).1.all4; have fR := fun o => (hR.alloc o).2.all4
  have c1 : br ≠ w1.heap.size := by have := hR.1.lt (by simp); omega
  have c2 := c1.symm
  go_wp2
  simp [bodyPost, results, Try.results18, go_sem, gR]
  repeat (first | with_reducible exact B | with_reducible refine Below.drew ?_ | with_reducible refine Below.setCell ?_ o1 _ | with_reducible refine Below.setCell ?_ o2 _ | with_reducible refine Below.alloc ?_ (by first | exact B.size | omega | (simp; done) | (simp; omega)) _)

theorem plus_any {x y : Int} (hx : Num x) (hy : Num y) (w : World) :
    Calls Try.prog 18 #[.agg #[.int .u64 (l0 x), .int .u64 (l1 x), .int .u64 (l2 x), .int .u64 (l3 x)], .agg #[.int .u64 (l0 y), .int .u64 (l1 y), .int .u64 (l2 y), .int .u64 (l3 y)]] w fun e w' => e = .returned (.tuple #[.agg #[.int .u64 (l0 (wideV (x + y))), .int .u64 (l1 (wideV (x + y))), .int .u64 (l2 (wideV (x + y))), .int .u64 (l3 (wideV (x + y)))], .int .i64 (wideE (x + y))]) ∧ Below w.heap.size w w' := by
  obtain ⟨x0, x1⟩ := hx; obtain ⟨y0, y1⟩ := hy
  by_cases c : x + y < 115792089237316195423570985008687907853269984665640564039457584007913129639936
  · rw [show wideV (x + y) = x + y from if_pos c, show wideE (x + y) = 0 from if_pos c]
    refine plus_yes (fun w => ?_) w
    have := add_any ⟨x0, x1⟩ ⟨y0, y1⟩ w
    rw [show sumN x y = x + y from Int.emod_eq_of_lt (by omega) c, show carN x y = 0 by unfold carN; omega] at this
    exact this
  · rw [show wideV (x + y) = 0 from if_neg c, show wideE (x + y) = 183 from if_neg c]
    obtain ⟨z0, z1, z2, z3⟩ := zero_limbs
    rw [z0, z1, z2, z3]
    refine plus_no (fun w => ?_) w
    have := add_any ⟨x0, x1⟩ ⟨y0, y1⟩ w
    rw [show carN x y = 1 by unfold carN; omega] at this
    exact this

set_option maxRecDepth 100000 in
set_option maxHeartbeats 4000000 in
theorem step_walk {b o t q : Int} (ho : Word o) (ht : Word t) (M : Hid (∀ w, Calls Try.prog 26 #[.agg #[.int .u64 (l0 8), .int .u64 (l1 8), .int .u64 (l2 8), .int .u64 (l3 8)], .agg #[.int .u64 (l0 t), .int .u64 (l1 t), .int .u64 (l2 t), .int .u64 (l3 t)]] w fun e w' => e = .returned (.tuple #[.agg #[.int .u64 (l0 0), .int .u64 (l1 0), .int .u64 (l2 0), .int .u64 (l3 0)], .agg #[.int .u64 (l0 (8 * t)), .int .u64 (l1 (8 * t)), .int .u64 (l2 (8 * t)), .int .u64 (l3 (8 * t))]]) ∧ Below w.heap.size w w'))
    (VM : Hid (∀ w, Calls Try.prog 27 #[.agg #[.int .u64 (l0 b), .int .u64 (l1 b), .int .u64 (l2 b), .int .u64 (l3 b)], .agg #[.int .u64 (l0 o), .int .u64 (l1 o), .int .u64 (l2 o), .int .u64 (l3 o)], .agg #[.int .u64 (l0 (8 * t)), .int .u64 (l1 (8 * t)), .int .u64 (l2 (8 * t)), .int .u64 (l3 (8 * t))]] w fun e w' => e = .returned (.tuple #[.agg #[.int .u64 (l0 q), .int .u64 (l1 q), .int .u64 (l2 q), .int .u64 (l3 q)], .int .i64 0]) ∧ Below w.heap.size w w')) (w : World) :
    Calls Try.prog 20 #[.agg #[.int .u64 (l0 b), .int .u64 (l1 b), .int .u64 (l2 b), .int .u64 (l3 b)], .int .u64 o, .int .u64 t] w fun e w' => e = .returned (.agg #[.int .u64 (l0 q), .int .u64 (l1 q), .int .u64 (l2 q), .int .u64 (l3 q)]) ∧ Below w.heap.size w w' := by
  have we : Word 8 := ⟨by decide, by decide⟩
  go_enter Try.func20, Try.ntmps20
  go_wp2_with fail
  refine calls_world (fun W => Below w.heap.size w W ∧ Hold W w.heap.size b ∧ Blank W (w.heap.size + 1)) ⟨by repeat (first | with_reducible exact Below.refl _ _ | with_reducible refine Below.alloc ?_ (by first | omega | (simp; done) | (simp; omega)) _), (Hold.fresh rfl).alloc _, Blank.new (by simp)⟩ ?_
  rintro W ⟨B, hX, hR⟩
  have o1 : w.heap.size ≤ w.heap.size + 1 := by omega
  generalize w.heap.size + 1 = br at *
  with_reducible refine (from_any we _).mono ?_
  rintro e w1 ⟨rfl, hb⟩
  replace B := B.trans (hb.mono B.size)
  replace hX := hX.keep hb; replace hR := hR.keep hb
  clear hb W
  go_wp2_with fail
  refine calls_world (fun W => Below w.heap.size w W ∧ Hold W w.heap.size b ∧ Blank W br) ⟨B, hX, hR⟩ ?_
  clear B hX hR 
  rintro W ⟨B, hX, hR⟩
  with_reducible refine (from_any ht _).mono ?_
  rintro e w2 ⟨rfl, hb⟩
  replace B := B.trans (hb.mono B.size)
  replace hX := hX.keep hb; replace hR := hR.keep hb
  clear hb W
  go_wp2_with fail
  refine calls_world (fun W => Below w.heap.size w W ∧ Hold W w.heap.size b ∧ Blank W br) ⟨B, hX, hR⟩ ?_
  clear B hX hR 
  rintro W ⟨B, hX, hR⟩
  with_reducible refine (M.out _).mono ?_
  rintro e w3 ⟨rfl, hb⟩
  replace B := B.trans (hb.mono B.size)
  replace hX := hX.keep hb; replace hR := hR.keep hb
  clear hb W
  go_wp2_with fail
  refine wp_world (fun W => Below w.heap.size w W ∧ Hold W w.heap.size b ∧ Blank W br ∧ Hold W w3.heap.size 0 ∧ Hold W (w3.heap.size + 1) (8 * t)) ⟨(B.alloc B.size _).alloc (by have := B.size; simp; omega) _, (hX.alloc _).alloc _, (hR.alloc _).alloc _, (Hold.new _ _ _).alloc _, Hold.fresh (by simp)⟩ ?_
  clear B hX hR 
  rintro W ⟨B, hX, hR, hZ, hD⟩
  generalize w3.heap.size + 1 = bd at *
  generalize w3.heap.size = bz at *
  clear hZ
  have ghX := hX.cells
  have lthX : w.heap.size < W.heap.size := World.block_lt_of_cell? W _ hX.1
  have lthR : br < W.heap.size := hR.1.lt (by simp)
  have ghD := hD.cells
  have lthD : bd < W.heap.size := World.block_lt_of_cell? W _ hD.1
  have BB : Hid (Below w.heap.size w W) := B
  have QhX : Hid (Hold W w.heap.size b) := hX
  have QhR : Hid (Blank W br) := hR
  have QhD : Hid (Hold W bd (8 * t)) := hD
  have geB : w.heap.size ≤ W.heap.size := B.size
  clear B hX hR hD
  generalize hbx : w.heap.size = bx at *
  refine wp_out (fun a' W' => ∃ bs, Below bx w W' ∧ Hold W' bx b ∧ Blank W' br ∧ Hold W' bd (8 * t) ∧ Hold W' bs q ∧ a' = { tmps := #[.agg #[.int .u64 (l0 b), .int .u64 (l1 b), .int .u64 (l2 b), .int .u64 (l3 b)], .int .u64 o, .int .u64 t, .pointer (some { block := bx, off := 0 }), Go.undef, Go.undef, .pointer (some { block := br, off := 0 }), .pointer (some { block := bz, off := 0 }), .pointer (some { block := bd, off := 0 }), .pointer (some { block := bs, off := 0 }), .int .i64 0, .tuple #[.agg #[.int .u64 (l0 0), .int .u64 (l1 0), .int .u64 (l2 0), .int .u64 (l3 0)], .agg #[.int .u64 (l0 (8 * t)), .int .u64 (l1 (8 * t)), .int .u64 (l2 (8 * t)), .int .u64 (l3 (8 * t))]], .agg #[.int .u64 (l0 8), .int .u64 (l1 8), .int .u64 (l2 8), .int .u64 (l3 8)], .int .u64 t, .agg #[.int .u64 (l0 t), .int .u64 (l1 t), .int .u64 (l2 t), .int .u64 (l3 t)], .tuple #[.agg #[.int .u64 (l0 0), .int .u64 (l1 0), .int .u64 (l2 0), .int .u64 (l3 0)], .agg #[.int .u64 (l0 (8 * t)), .int .u64 (l1 (8 * t)), .int .u64 (l2 (8 * t)), .int .u64 (l3 (8 * t))]], .agg #[.int .u64 (l0 0), .int .u64 (l1 0), .int .u64 (l2 0), .int .u64 (l3 0)], .agg #[.int .u64 (l0 (8 * t)), .int .u64 (l1 (8 * t)), .int .u64 (l2 (8 * t)), .int .u64 (l3 (8 * t))], .tuple #[.agg #[.int .u64 (l0 q), .int .u64 (l1 q), .int .u64 (l2 q), .int .u64 (l3 q)], .int .i64 0], .agg #[.int .u64 (l0 b), .int .u64 (l1 b), .int .u64 (l2 b), .int .u64 (l3 b)], .int .u64 o, .agg #[.int .u64 (l0 o), .int .u64 (l1 o), .int .u64 (l2 o), .int .u64 (l3 o)], .agg #[.int .u64 (l0 (8 * t)), .int .u64 (l1 (8 * t)), .int .u64 (l2 (8 * t)), .int .u64 (l3 (8 * t))], .tuple #[.agg #[.int .u64 (l0 q), .int .u64 (l1 q), .int .u64 (l2 q), .int .u64 (l3 q)], .int .i64 0], .agg #[.int .u64 (l0 q), .int .u64 (l1 q), .int .u64 (l2 q), .int .u64 (l3 q)], .int .i64 0, Go.undef], defers := [] }) ?_ ?_
  · have dz : W.drew.heap.size = W.heap.size := rfl
    have lo0 : bx < W.heap.size := by omega
    have _ := Nat.ne_of_lt lo0
    have _ := Nat.ne_of_gt lo0
    have lo1 : br < W.heap.size := by omega
    have _ := Nat.ne_of_lt lo1
    have _ := Nat.ne_of_gt lo1
    have lo2 : bd < W.heap.size := by omega
    have _ := Nat.ne_of_lt lo2
    have _ := Nat.ne_of_gt lo2
    go_region_held3 (fun w' => w'.cell? ⟨bx, 0, none⟩ = some (.int .u64 (l0 b)) ∧ w'.cell? ⟨bx, 1, none⟩ = some (.int .u64 (l1 b)) ∧ w'.cell? ⟨bx, 2, none⟩ = some (.int .u64 (l2 b)) ∧ w'.cell? ⟨bx, 3, none⟩ = some (.int .u64 (l3 b)) ∧ w'.cell? ⟨bd, 0, none⟩ = some (.int .u64 (l0 (8 * t))) ∧ w'.cell? ⟨bd, 1, none⟩ = some (.int .u64 (l1 (8 * t))) ∧ w'.cell? ⟨bd, 2, none⟩ = some (.int .u64 (l2 (8 * t))) ∧ w'.cell? ⟨bd, 3, none⟩ = some (.int .u64 (l3 (8 * t)))) (((try dsimp only); (repeat' (apply And.intro)); (all_goals repeat (first | with_reducible assumption | with_reducible apply cell_keep hb2 | with_reducible apply cell_keep hb1 | with_reducible apply cell_alloc | (with_reducible refine cell_set ?_ (by with_reducible assumption)) | (simp [go_sem, *]; done)))))
      (first
        | (go_at_call 25; with_reducible refine (from_any ho _).mono ?_; rintro e w1 ⟨rfl, hb1⟩; have hc1 := oldCells hb1; have hz1 := hb1.size; (try simp at hz1); have hW1 : W.heap.size ≤ w1.heap.size := (by omega); have _ := Nat.le_trans geB hW1; (try (have := fun j => oldCells hb1 (W.heap.size) j (by first | omega | (simp; done) | (simp; omega)))); have lo0_1 := Nat.lt_of_lt_of_le lo0 hW1; have _ := Nat.ne_of_lt lo0_1; have _ := Nat.ne_of_gt lo0_1; have lo1_1 := Nat.lt_of_lt_of_le lo1 hW1; have _ := Nat.ne_of_lt lo1_1; have _ := Nat.ne_of_gt lo1_1; have lo2_1 := Nat.lt_of_lt_of_le lo2 hW1; have _ := Nat.ne_of_lt lo2_1; have _ := Nat.ne_of_gt lo2_1; (try (have hv : W.heap.size < w1.heap.size := (by omega); have _ := Nat.ne_of_lt hv; have _ := Nat.ne_of_gt hv)))
        | (go_at_call 27; with_reducible refine (VM.out _).mono ?_; rintro e w2 ⟨rfl, hb2⟩; have hc2 := oldCells hb2; have hz2 := hb2.size; (try simp at hz2); have hW2 : W.heap.size ≤ w2.heap.size := (by omega); have _ := Nat.le_trans geB hW2; (try (have := fun j => oldCells hb2 (W.heap.size) j (by first | omega | (simp; done) | (simp; omega)))); (try (have := fun j => oldCells hb2 (w1.heap.size) j (by first | omega | (simp; done) | (simp; omega)))); have lo0_2 := Nat.lt_of_lt_of_le lo0 hW2; have _ := Nat.ne_of_lt lo0_2; have _ := Nat.ne_of_gt lo0_2; have lo1_2 := Nat.lt_of_lt_of_le lo1 hW2; have _ := Nat.ne_of_lt lo1_2; have _ := Nat.ne_of_gt lo1_2; have lo2_2 := Nat.lt_of_lt_of_le lo2 hW2; have _ := Nat.ne_of_lt lo2_2; have _ := Nat.ne_of_gt lo2_2; (try (have hv : W.heap.size < w2.heap.size := (by omega); have _ := Nat.ne_of_lt hv; have _ := Nat.ne_of_gt hv)); (try (have hv : w1.heap.size < w2.heap.size := (by omega); have _ := Nat.ne_of_lt hv; have _ := Nat.ne_of_gt hv))))
    all_goals (refine OutQ.intro ⟨_, ?_, ?_, ?_, ?_, ?_, rfl⟩)
    all_goals repeat (first | with_reducible exact BB.out | with_reducible exact QhX.out | with_reducible exact QhR.out | with_reducible exact QhD.out | with_reducible refine Hold.fresh (by first | rfl | (simp; done) | fail) | with_reducible refine Hold.sets4 ?_ | with_reducible refine Var.new (by first | rfl | (simp; done) | fail) | with_reducible refine Hold.alloc ?_ _ | with_reducible refine Hold.drew ?_ | with_reducible refine Hold.set4 ?_ (by with_reducible assumption) _ _ _ _ | with_reducible refine HoldM.alloc ?_ _ | with_reducible refine HoldM.drew ?_ | with_reducible refine HoldM.set4 ?_ (by with_reducible assumption) _ _ _ _ | with_reducible refine Blank.alloc ?_ _ | with_reducible refine Blank.drew ?_ | with_reducible refine Blank.set4 ?_ (by with_reducible assumption) _ _ _ _ | with_reducible refine Mds.alloc ?_ _ | with_reducible refine Mds.drew ?_ | with_reducible refine Mds.set4 ?_ (by with_reducible assumption) _ _ _ _ | with_reducible refine Var.alloc ?_ _ | with_reducible refine Var.set4 ?_ (by with_reducible assumption) _ _ _ _ | with_reducible refine below_alloc hbx ?_ _ | with_reducible refine Below.drew ?_ | with_reducible refine Below.setCell ?_ (by with_reducible assumption) _ | with_reducible refine Has.fresh (by first | rfl | (simp; done) | fail) (by first | (simp; done) | fail) | with_reducible refine Has.alloc ?_ _ | with_reducible refine Has.drew ?_ | with_reducible refine Has.keep ?_ hb2 | with_reducible refine Hold.keep ?_ hb2 | with_reducible refine HoldM.keep ?_ hb2 | with_reducible refine Blank.keep ?_ hb2 | with_reducible refine Mds.keep ?_ hb2 | with_reducible refine Var.keep ?_ hb2 | with_reducible refine below_then hbx ?_ hb2 | with_reducible refine Has.keep ?_ hb1 | with_reducible refine Hold.keep ?_ hb1 | with_reducible refine HoldM.keep ?_ hb1 | with_reducible refine Blank.keep ?_ hb1 | with_reducible refine Mds.keep ?_ hb1 | with_reducible refine Var.keep ?_ hb1 | with_reducible refine below_then hbx ?_ hb1)
  rintro _ W ⟨bs, B, hX, hR, hD, hS, rfl⟩
  subst hbx
  clear BB geB QhX QhR QhD ghX ghD lthX lthR lthD
  have ghS := hS.cells; have ghR := hR.1.all4; have qhR := hR.2.all4
  go_wp2
  simp [bodyPost, results, Try.results20, go_sem, *]
  repeat (first | with_reducible exact B | with_reducible refine Below.setCell ?_ o1 _)


set_option maxHeartbeats 4000000 in
theorem rise_one {b o t q : Int} (ST : Hid (∀ w, Calls Try.prog 20 #[.agg #[.int .u64 (l0 b), .int .u64 (l1 b), .int .u64 (l2 b), .int .u64 (l3 b)], .int .u64 o, .int .u64 t] w fun e w' => e = .returned (.agg #[.int .u64 (l0 q), .int .u64 (l1 q), .int .u64 (l2 q), .int .u64 (l3 q)]) ∧ Below w.heap.size w w')) (he : ∀ w, (Op.equalIn 10000 24 (.agg #[.int .u64 (l0 q), .int .u64 (l1 q), .int .u64 (l2 q), .int .u64 (l3 q)]) (.agg #[.int .u64 0, .int .u64 0, .int .u64 0, .int .u64 0])).run Try.prog w = .ok true w) (w : World) :
    Calls Try.prog 19 #[.agg #[.int .u64 (l0 b), .int .u64 (l1 b), .int .u64 (l2 b), .int .u64 (l3 b)], .int .u64 o, .int .u64 t] w fun e w' => e = .returned (.agg #[.int .u64 (l0 1), .int .u64 (l1 1), .int .u64 (l2 1), .int .u64 (l3 1)]) ∧ Below w.heap.size w w' := by
  have hz := build_zero
  have w1 : Word 1 := ⟨by decide, by decide⟩
  go_enter Try.func19, Try.ntmps19
  go_wp2_with fail
  refine calls_world (fun W => Below w.heap.size w W ∧ Blank W (w.heap.size + 1)) ⟨by repeat (first | with_reducible exact Below.refl _ _ | with_reducible refine Below.alloc ?_ (by first | omega | (simp; done) | (simp; omega)) _), Blank.new (by simp)⟩ ?_
  rintro W ⟨B, hR⟩
  have o1 : w.heap.size ≤ w.heap.size + 1 := by omega
  generalize w.heap.size + 1 = br at *
  with_reducible refine (ST.out _).mono ?_
  rintro e w2 ⟨rfl, hb⟩
  replace B := B.trans (hb.mono B.size)
  replace hR := hR.keep hb
  clear hb W
  have gR := fun o => (hR.alloc o).1.all4; have fR := fun o => (hR.alloc o).2.all4
  have c1 : br ≠ w2.heap.size := by have := hR.1.lt (by simp); omega
  have c2 := c1.symm
  go_wp2_with fail
  replace B := B.alloc B.size (.cells #[.int .u64 (l0 q), .int .u64 (l1 q), .int .u64 (l2 q), .int .u64 (l3 q)] 24)
  replace hR := hR.alloc (.cells #[.int .u64 (l0 q), .int .u64 (l1 q), .int .u64 (l2 q), .int .u64 (l3 q)] 24)
  refine calls_world (fun W => Below w.heap.size w W ∧ Blank W br) ⟨B, hR⟩ ?_
  clear B hR gR fR c1 c2
  rintro W ⟨B, hR⟩
  with_reducible refine (from_any w1 _).mono ?_
  rintro e w3 ⟨rfl, hb⟩
  replace B := B.trans (hb.mono B.size)
  replace hR := hR.keep hb
  clear hb W
  have gR := hR.1.all4; have fR := hR.2.all4
  go_wp2
  simp [bodyPost, results, Try.results19, go_sem, gR]
  repeat (first | with_reducible exact B | with_reducible refine Below.drew ?_ | with_reducible refine Below.setCell ?_ o1 _ | with_reducible refine Below.setCell ?_ o2 _ | with_reducible refine Below.alloc ?_ (by first | exact B.size | omega | (simp; done) | (simp; omega)) _)

set_option maxHeartbeats 4000000 in
theorem rise_more {b o t q : Int} (ST : Hid (∀ w, Calls Try.prog 20 #[.agg #[.int .u64 (l0 b), .int .u64 (l1 b), .int .u64 (l2 b), .int .u64 (l3 b)], .int .u64 o, .int .u64 t] w fun e w' => e = .returned (.agg #[.int .u64 (l0 q), .int .u64 (l1 q), .int .u64 (l2 q), .int .u64 (l3 q)]) ∧ Below w.heap.size w w')) (he : ∀ w, (Op.equalIn 10000 24 (.agg #[.int .u64 (l0 q), .int .u64 (l1 q), .int .u64 (l2 q), .int .u64 (l3 q)]) (.agg #[.int .u64 0, .int .u64 0, .int .u64 0, .int .u64 0])).run Try.prog w = .ok false w) (w : World) :
    Calls Try.prog 19 #[.agg #[.int .u64 (l0 b), .int .u64 (l1 b), .int .u64 (l2 b), .int .u64 (l3 b)], .int .u64 o, .int .u64 t] w fun e w' => e = .returned (.agg #[.int .u64 (l0 q), .int .u64 (l1 q), .int .u64 (l2 q), .int .u64 (l3 q)]) ∧ Below w.heap.size w w' := by
  have hz := build_zero
  have w1 : Word 1 := ⟨by decide, by decide⟩
  go_enter Try.func19, Try.ntmps19
  go_wp2_with fail
  refine calls_world (fun W => Below w.heap.size w W ∧ Blank W (w.heap.size + 1)) ⟨by repeat (first | with_reducible exact Below.refl _ _ | with_reducible refine Below.alloc ?_ (by first | omega | (simp; done) | (simp; omega)) _), Blank.new (by simp)⟩ ?_
  rintro W ⟨B, hR⟩
  have o1 : w.heap.size ≤ w.heap.size + 1 := by omega
  generalize w.heap.size + 1 = br at *
  with_reducible refine (ST.out _).mono ?_
  rintro e w2 ⟨rfl, hb⟩
  replace B := B.trans (hb.mono B.size)
  replace hR := hR.keep hb
  clear hb W
  have gR := fun o => (hR.alloc o).1.all4; have fR := fun o => (hR.alloc o).2.all4
  have c1 : br ≠ w2.heap.size := by have := hR.1.lt (by simp); omega
  have c2 := c1.symm
  go_wp2
  simp [bodyPost, results, Try.results19, go_sem, gR]
  repeat (first | with_reducible exact B | with_reducible refine Below.drew ?_ | with_reducible refine Below.setCell ?_ o1 _ | with_reducible refine Below.setCell ?_ o2 _ | with_reducible refine Below.alloc ?_ (by first | exact B.size | omega | (simp; done) | (simp; omega)) _)

set_option maxRecDepth 100000 in
set_option maxHeartbeats 4000000 in
theorem nb_low {b l u : Int} (c : l < 2) (w : World) :
    Calls Try.prog 7 #[.agg #[.int .u64 (l0 b), .int .u64 (l1 b), .int .u64 (l2 b), .int .u64 (l3 b)], .int .u64 l, .int .u64 u] w fun e w' => e = .returned (.tuple #[.agg #[.int .u64 0, .int .u64 0, .int .u64 0, .int .u64 0], .int .i64 1]) ∧ Below w.heap.size w w' := by
  have hz := build_zero
  go_enter Try.func7, Try.ntmps7
  go_wp2
  simp [bodyPost, results, Try.results7, go_sem]
  repeat (first | with_reducible exact Below.refl _ _ | with_reducible refine Below.drew ?_ | with_reducible refine Below.alloc ?_ (by first | omega | (simp; done) | (simp; omega)) _)

set_option maxRecDepth 100000 in
set_option maxHeartbeats 4000000 in
theorem nb_over {b l u : Int} (c : ¬ l < 2) (c2 : l < u) (w : World) :
    Calls Try.prog 7 #[.agg #[.int .u64 (l0 b), .int .u64 (l1 b), .int .u64 (l2 b), .int .u64 (l3 b)], .int .u64 l, .int .u64 u] w fun e w' => e = .returned (.tuple #[.agg #[.int .u64 0, .int .u64 0, .int .u64 0, .int .u64 0], .int .i64 184]) ∧ Below w.heap.size w w' := by
  have hz := build_zero
  go_enter Try.func7, Try.ntmps7
  go_wp2
  simp [bodyPost, results, Try.results7, go_sem]
  repeat (first | with_reducible exact Below.refl _ _ | with_reducible refine Below.drew ?_ | with_reducible refine Below.alloc ?_ (by first | omega | (simp; done) | (simp; omega)) _)

set_option maxRecDepth 100000 in
set_option maxHeartbeats 4000000 in
theorem nb_same {b l u : Int} (hl : 0 ≤ l) (hl2 : l < 18446744073709551616) (c : ¬ l < 2) (c2 : ¬ l < u) (c3 : ¬ l / 2 < u) (c4 : ¬ u < l / 2) (w : World) :
    Calls Try.prog 7 #[.agg #[.int .u64 (l0 b), .int .u64 (l1 b), .int .u64 (l2 b), .int .u64 (l3 b)], .int .u64 l, .int .u64 u] w fun e w' => e = .returned (.tuple #[.agg #[.int .u64 (l0 b), .int .u64 (l1 b), .int .u64 (l2 b), .int .u64 (l3 b)], .int .i64 0]) ∧ Below w.heap.size w w' := by
  have hz := build_zero
  go_enter Try.func7, Try.ntmps7
  go_wp2
  simp [bodyPost, results, Try.results7, go_sem]
  repeat (first | with_reducible exact Below.refl _ _ | with_reducible refine Below.drew ?_ | with_reducible refine Below.alloc ?_ (by first | omega | (simp; done) | (simp; omega)) _)

set_option maxRecDepth 100000 in
set_option maxHeartbeats 4000000 in
theorem nb_rise {b l u q r er : Int} (hl : 0 ≤ l) (hl2 : l < 18446744073709551616) (hu : 0 ≤ u) (hu2 : u < 18446744073709551616) (c : ¬ l < 2) (c2 : ¬ l < u) (c3 : l / 2 < u) (RS : Hid (∀ w, Calls Try.prog 19 #[.agg #[.int .u64 (l0 b), .int .u64 (l1 b), .int .u64 (l2 b), .int .u64 (l3 b)], .int .u64 (u - l / 2), .int .u64 (l / 2)] w fun e w' => e = .returned (.agg #[.int .u64 (l0 q), .int .u64 (l1 q), .int .u64 (l2 q), .int .u64 (l3 q)]) ∧ Below w.heap.size w w')) (PL : Hid (∀ w, Calls Try.prog 18 #[.agg #[.int .u64 (l0 b), .int .u64 (l1 b), .int .u64 (l2 b), .int .u64 (l3 b)], .agg #[.int .u64 (l0 q), .int .u64 (l1 q), .int .u64 (l2 q), .int .u64 (l3 q)]] w fun e w' => e = .returned (.tuple #[.agg #[.int .u64 (l0 r), .int .u64 (l1 r), .int .u64 (l2 r), .int .u64 (l3 r)], .int .i64 er]) ∧ Below w.heap.size w w')) (w : World) :
    Calls Try.prog 7 #[.agg #[.int .u64 (l0 b), .int .u64 (l1 b), .int .u64 (l2 b), .int .u64 (l3 b)], .int .u64 l, .int .u64 u] w fun e w' => e = .returned (.tuple #[.agg #[.int .u64 (l0 r), .int .u64 (l1 r), .int .u64 (l2 r), .int .u64 (l3 r)], .int .i64 er]) ∧ Below w.heap.size w w' := by
  have hz := build_zero
  go_enter Try.func7, Try.ntmps7
  have d0 : 0 ≤ u - l / 2 := by omega
  have d1 : u - l / 2 < 18446744073709551616 := by omega
  go_wp2_with fail
  refine wp_world (fun W => Below w.heap.size w W ∧ Hold W w.heap.size b ∧ Blank W (w.heap.size + 1)) ⟨by repeat (first | with_reducible exact Below.refl _ _ | with_reducible refine Below.alloc ?_ (by first | omega | (simp; done) | (simp; omega)) _), (Hold.fresh rfl).alloc _, Blank.new (by simp)⟩ ?_
  rintro W ⟨B, hX, hR⟩
  have o1 : w.heap.size ≤ w.heap.size + 1 := by omega
  generalize w.heap.size + 1 = br at *
  have ghX := hX.grown
  refine below_tail 10 (by kernel_rfl) (by kernel_rfl) ?_
  simp only [List.take_succ_cons, List.take_zero, List.drop_succ_cons, List.drop_zero]
  repeat
    first
      | go_big_quiet_skip
      | (go_big_quiet_want; go_big_quiet_op; go_big_quiet_on)
      | (go_big_quiet_want
         go_big_quiet_op
         apply Exists.intro
         refine ⟨fun p => ?_, ?_⟩
         · (first | (go_at_call 19; with_reducible exact Calls.regrown_of (RS.out _)) | (go_at_call 18; with_reducible exact Calls.regrown_of (PL.out _)))
         go_big_quiet_on)
  refine wpQuiet_nil ?_
  rintro w1 ⟨p, rfl⟩
  have hb := below_regrown W p.d p.os
  generalize grow (redrawn W p.d) p.os = w1 at *
  replace B := B.trans (hb.mono B.size)
  replace hX := hX.keep hb; replace hR := hR.keep hb
  clear hb W ghX 
  have gR := hR.1.all4; have fR := hR.2.all4
  go_wp2
  simp [bodyPost, results, Try.results7, go_sem, *]
  repeat (first | with_reducible exact B | with_reducible refine Below.setCell ?_ o1 _)

set_option maxRecDepth 100000 in
set_option maxHeartbeats 4000000 in
theorem nb_fall {b l u q r er : Int} (hl : 0 ≤ l) (hl2 : l < 18446744073709551616) (hu : 0 ≤ u) (hu2 : u < 18446744073709551616) (c : ¬ l < 2) (c2 : ¬ l < u) (c3 : ¬ l / 2 < u) (c4 : u < l / 2) (ST : Hid (∀ w, Calls Try.prog 20 #[.agg #[.int .u64 (l0 b), .int .u64 (l1 b), .int .u64 (l2 b), .int .u64 (l3 b)], .int .u64 (l / 2 - u), .int .u64 (l / 2)] w fun e w' => e = .returned (.agg #[.int .u64 (l0 q), .int .u64 (l1 q), .int .u64 (l2 q), .int .u64 (l3 q)]) ∧ Below w.heap.size w w')) (SU : Hid (∀ w, Calls Try.prog 10 #[.agg #[.int .u64 (l0 b), .int .u64 (l1 b), .int .u64 (l2 b), .int .u64 (l3 b)], .agg #[.int .u64 (l0 q), .int .u64 (l1 q), .int .u64 (l2 q), .int .u64 (l3 q)]] w fun e w' => e = .returned (.tuple #[.agg #[.int .u64 (l0 r), .int .u64 (l1 r), .int .u64 (l2 r), .int .u64 (l3 r)], .int .u64 er]) ∧ Below w.heap.size w w')) (w : World) :
    Calls Try.prog 7 #[.agg #[.int .u64 (l0 b), .int .u64 (l1 b), .int .u64 (l2 b), .int .u64 (l3 b)], .int .u64 l, .int .u64 u] w fun e w' => e = .returned (.tuple #[.agg #[.int .u64 (l0 r), .int .u64 (l1 r), .int .u64 (l2 r), .int .u64 (l3 r)], .int .i64 0]) ∧ Below w.heap.size w w' := by
  have hz := build_zero
  go_enter Try.func7, Try.ntmps7
  have d0 : 0 ≤ l / 2 - u := by omega
  have d1 : l / 2 - u < 18446744073709551616 := by omega
  have wq : IntKind.u64.wrap (l / 2 - u) = l / 2 - u := by rw [IntKind.wrap_u64]; omega
  go_wp2_with fail
  refine wp_world (fun W => Below w.heap.size w W ∧ Hold W w.heap.size b ∧ Blank W (w.heap.size + 1)) ⟨by repeat (first | with_reducible exact Below.refl _ _ | with_reducible refine Below.alloc ?_ (by first | omega | (simp; done) | (simp; omega)) _), (Hold.fresh rfl).alloc _, Blank.new (by simp)⟩ ?_
  rintro W ⟨B, hX, hR⟩
  have o1 : w.heap.size ≤ w.heap.size + 1 := by omega
  generalize w.heap.size + 1 = br at *
  have ghX := hX.cells
  have lthX : w.heap.size < W.heap.size := World.block_lt_of_cell? W _ hX.1
  have lthR : br < W.heap.size := hR.1.lt (by simp)
  have BB : Hid (Below w.heap.size w W) := B
  have QhX : Hid (Hold W w.heap.size b) := hX
  have QhR : Hid (Blank W br) := hR
  have geB : w.heap.size ≤ W.heap.size := B.size
  clear B hX hR
  generalize hbx : w.heap.size = bx at *
  refine wp_out (fun a' W' => ∃ bs, Below bx w W' ∧ Hold W' bx b ∧ Blank W' br ∧ Hold W' bs r ∧ a' = { tmps := #[.agg #[.int .u64 (l0 b), .int .u64 (l1 b), .int .u64 (l2 b), .int .u64 (l3 b)], .int .u64 l, .int .u64 u, .pointer (some { block := bx, off := 0 }), Go.undef, Go.undef, .pointer (some { block := br, off := 0 }), .int .i64 0, .int .u64 (l / 2), .pointer (some { block := bs, off := 0 }), .int .u64 er, .int .u64 l, .bool false, Go.undef, .int .u64 u, .int .u64 l, .bool false, Go.undef, .int .u64 l, .int .u64 (l / 2), .bool false, .int .u64 u, .int .u64 (l / 2), .bool false, Go.undef, Go.undef, Go.undef, Go.undef, Go.undef, Go.undef, Go.undef, Go.undef, Go.undef, Go.undef, .bool true, .int .u64 u, .int .u64 (l / 2), .bool true, .tuple #[.agg #[.int .u64 (l0 r), .int .u64 (l1 r), .int .u64 (l2 r), .int .u64 (l3 r)], .int .u64 er], .agg #[.int .u64 (l0 b), .int .u64 (l1 b), .int .u64 (l2 b), .int .u64 (l3 b)], .agg #[.int .u64 (l0 b), .int .u64 (l1 b), .int .u64 (l2 b), .int .u64 (l3 b)], .int .u64 (l / 2), .int .u64 u, .int .u64 (l / 2 - u), .int .u64 (l / 2), .agg #[.int .u64 (l0 q), .int .u64 (l1 q), .int .u64 (l2 q), .int .u64 (l3 q)], .tuple #[.agg #[.int .u64 (l0 r), .int .u64 (l1 r), .int .u64 (l2 r), .int .u64 (l3 r)], .int .u64 er], .agg #[.int .u64 (l0 r), .int .u64 (l1 r), .int .u64 (l2 r), .int .u64 (l3 r)], .int .u64 er, Go.undef, Go.undef], defers := [] }) ?_ ?_
  · have dz : W.drew.heap.size = W.heap.size := rfl
    have lo0 : bx < W.heap.size := by omega
    have _ := Nat.ne_of_lt lo0
    have _ := Nat.ne_of_gt lo0
    have lo1 : br < W.heap.size := by omega
    have _ := Nat.ne_of_lt lo1
    have _ := Nat.ne_of_gt lo1
    go_region_held3 (fun w' => w'.cell? ⟨bx, 0, none⟩ = some (.int .u64 (l0 b)) ∧ w'.cell? ⟨bx, 1, none⟩ = some (.int .u64 (l1 b)) ∧ w'.cell? ⟨bx, 2, none⟩ = some (.int .u64 (l2 b)) ∧ w'.cell? ⟨bx, 3, none⟩ = some (.int .u64 (l3 b))) (((try dsimp only); (repeat' (apply And.intro)); (all_goals repeat (first | with_reducible assumption | with_reducible apply cell_keep hb2 | with_reducible apply cell_keep hb1 | with_reducible apply cell_alloc | (with_reducible refine cell_set ?_ (by with_reducible assumption)) | (simp [go_sem, *]; done)))))
      (first
        | (go_at_call 20; with_reducible refine (ST.out _).mono ?_; rintro e w1 ⟨rfl, hb1⟩; have hc1 := oldCells hb1; have hz1 := hb1.size; (try simp at hz1); have hW1 : W.heap.size ≤ w1.heap.size := (by omega); have _ := Nat.le_trans geB hW1; (try (have := fun j => oldCells hb1 (W.heap.size) j (by first | omega | (simp; done) | (simp; omega)))); have lo0_1 := Nat.lt_of_lt_of_le lo0 hW1; have _ := Nat.ne_of_lt lo0_1; have _ := Nat.ne_of_gt lo0_1; have lo1_1 := Nat.lt_of_lt_of_le lo1 hW1; have _ := Nat.ne_of_lt lo1_1; have _ := Nat.ne_of_gt lo1_1; (try (have hv : W.heap.size < w1.heap.size := (by omega); have _ := Nat.ne_of_lt hv; have _ := Nat.ne_of_gt hv)))
        | (go_at_call 10; with_reducible refine (SU.out _).mono ?_; rintro e w2 ⟨rfl, hb2⟩; have hc2 := oldCells hb2; have hz2 := hb2.size; (try simp at hz2); have hW2 : W.heap.size ≤ w2.heap.size := (by omega); have _ := Nat.le_trans geB hW2; (try (have := fun j => oldCells hb2 (W.heap.size) j (by first | omega | (simp; done) | (simp; omega)))); (try (have := fun j => oldCells hb2 (w1.heap.size) j (by first | omega | (simp; done) | (simp; omega)))); have lo0_2 := Nat.lt_of_lt_of_le lo0 hW2; have _ := Nat.ne_of_lt lo0_2; have _ := Nat.ne_of_gt lo0_2; have lo1_2 := Nat.lt_of_lt_of_le lo1 hW2; have _ := Nat.ne_of_lt lo1_2; have _ := Nat.ne_of_gt lo1_2; (try (have hv : W.heap.size < w2.heap.size := (by omega); have _ := Nat.ne_of_lt hv; have _ := Nat.ne_of_gt hv)); (try (have hv : w1.heap.size < w2.heap.size := (by omega); have _ := Nat.ne_of_lt hv; have _ := Nat.ne_of_gt hv))))
    all_goals (refine OutQ.intro ⟨_, ?_, ?_, ?_, ?_, rfl⟩)
    all_goals repeat (first | with_reducible exact BB.out | with_reducible exact QhX.out | with_reducible exact QhR.out | with_reducible refine Hold.fresh (by first | rfl | (simp; done) | fail) | with_reducible refine Hold.sets4 ?_ | with_reducible refine Var.new (by first | rfl | (simp; done) | fail) | with_reducible refine Hold.alloc ?_ _ | with_reducible refine Hold.drew ?_ | with_reducible refine Hold.set4 ?_ (by with_reducible assumption) _ _ _ _ | with_reducible refine HoldM.alloc ?_ _ | with_reducible refine HoldM.drew ?_ | with_reducible refine HoldM.set4 ?_ (by with_reducible assumption) _ _ _ _ | with_reducible refine Blank.alloc ?_ _ | with_reducible refine Blank.drew ?_ | with_reducible refine Blank.set4 ?_ (by with_reducible assumption) _ _ _ _ | with_reducible refine Mds.alloc ?_ _ | with_reducible refine Mds.drew ?_ | with_reducible refine Mds.set4 ?_ (by with_reducible assumption) _ _ _ _ | with_reducible refine Var.alloc ?_ _ | with_reducible refine Var.set4 ?_ (by with_reducible assumption) _ _ _ _ | with_reducible refine below_alloc hbx ?_ _ | with_reducible refine Below.drew ?_ | with_reducible refine Below.setCell ?_ (by with_reducible assumption) _ | with_reducible refine Has.fresh (by first | rfl | (simp; done) | fail) (by first | (simp; done) | fail) | with_reducible refine Has.alloc ?_ _ | with_reducible refine Has.drew ?_ | with_reducible refine Has.keep ?_ hb2 | with_reducible refine Hold.keep ?_ hb2 | with_reducible refine HoldM.keep ?_ hb2 | with_reducible refine Blank.keep ?_ hb2 | with_reducible refine Mds.keep ?_ hb2 | with_reducible refine Var.keep ?_ hb2 | with_reducible refine below_then hbx ?_ hb2 | with_reducible refine Has.keep ?_ hb1 | with_reducible refine Hold.keep ?_ hb1 | with_reducible refine HoldM.keep ?_ hb1 | with_reducible refine Blank.keep ?_ hb1 | with_reducible refine Mds.keep ?_ hb1 | with_reducible refine Var.keep ?_ hb1 | with_reducible refine below_then hbx ?_ hb1)
  rintro _ W ⟨bs, B, hX, hR, hS, rfl⟩
  subst hbx
  clear BB geB QhX QhR ghX lthX lthR
  have ghS := hS.cells; have ghR := hR.1.all4; have qhR := hR.2.all4
  go_wp2
  simp [bodyPost, results, Try.results7, go_sem, *]
  repeat (first | with_reducible exact B | with_reducible refine Below.setCell ?_ o1 _)

end Go.Proofs.Ytmegdnalpaddmaa

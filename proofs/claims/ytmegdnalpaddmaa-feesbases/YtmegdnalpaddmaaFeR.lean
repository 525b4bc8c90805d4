import Derived.Test.YtmegdnalpaddmaaFeA
import Derived.Test.YtmegdnalpaddmaaRefDivs
import Derived.Test.YtmegdnalpaddmaaRefShl
import Derived.Test.YtmegdnalpaddmaaRefAddSub
namespace Go.Proofs.Ytmegdnalpaddmaa
open Go.RowKit Go.Sort

theorem Var.drewF {W : World} {b : Nat} {n : Int} (h : Var W b n) : Var W.drew b n := h
theorem Var.setsF {W : World} {b : Nat} (h : Var W b 0) (k : Int) : Var ((((W.setCell ⟨b, 0, none⟩ (.int .u64 (l0 k))).setCell ⟨b, 1, none⟩ (.int .u64 (l1 k))).setCell ⟨b, 2, none⟩ (.int .u64 (l2 k))).setCell ⟨b, 3, none⟩ (.int .u64 (l3 k))) b k := h.sets k

set_option maxHeartbeats 2000000 in
theorem rsum_walk {x y s k : Int} {t : Bool} (A : Hid (∀ w, Calls Try.prog 35 #[.agg #[.int .u64 (l0 x), .int .u64 (l1 x), .int .u64 (l2 x), .int .u64 (l3 x)], .agg #[.int .u64 (l0 y), .int .u64 (l1 y), .int .u64 (l2 y), .int .u64 (l3 y)]] w fun e w' => e = .returned (.tuple #[.agg #[.int .u64 (l0 s), .int .u64 (l1 s), .int .u64 (l2 s), .int .u64 (l3 s)], .int .u64 k]) ∧ Below w.heap.size w w')) (hk : (k == 0) = t) (w : World) :
    Calls Try.prog 34 #[.agg #[.int .u64 (l0 x), .int .u64 (l1 x), .int .u64 (l2 x), .int .u64 (l3 x)], .agg #[.int .u64 (l0 y), .int .u64 (l1 y), .int .u64 (l2 y), .int .u64 (l3 y)]] w fun e w' => e = .returned (.tuple #[.agg #[.int .u64 (l0 s), .int .u64 (l1 s), .int .u64 (l2 s), .int .u64 (l3 s)], .bool t]) ∧ Below w.heap.size w w' := by
  go_enter Try.func34, Try.ntmps34
  go_wp2_with fail
  refine calls_world (fun W => Below w.heap.size w W ∧ Blank W (w.heap.size + 1 + 1)) ⟨by repeat (first | with_reducible exact Below.refl _ _ | with_reducible refine Below.alloc ?_ (by first | omega | (simp; done) | (simp; omega)) _), Blank.new (by simp)⟩ ?_
  rintro W ⟨B, hR⟩
  have o1 : w.heap.size ≤ w.heap.size + 1 + 1 := by omega
  generalize w.heap.size + 1 + 1 = br at *
  with_reducible refine (A.out _).mono ?_
  rintro e w1 ⟨rfl, hb⟩
  replace B := B.trans (hb.mono B.size)
  replace hR := hR.keep hb
  clear hb W
  have gR := fun o => (hR.alloc o).1.all4; have fR := fun o => (hR.alloc o).2.all4
  have c1 : br ≠ w1.heap.size := by have := hR.1.lt (by simp); omega
  have c2 := c1.symm
  subst hk
  go_wp2
  simp [bodyPost, results, Try.results34, go_sem, gR]
  repeat (first | with_reducible exact B | with_reducible refine Below.drew ?_ | with_reducible refine Below.setCell ?_ o1 _ | with_reducible refine Below.alloc ?_ (by first | exact B.size | omega | (simp; done) | (simp; omega)) _)

theorem rsum_yes {x y : Int} (hx : Num x) (hy : Num y) (c : x + y < 115792089237316195423570985008687907853269984665640564039457584007913129639936) (w : World) :
    Calls Try.prog 34 #[.agg #[.int .u64 (l0 x), .int .u64 (l1 x), .int .u64 (l2 x), .int .u64 (l3 x)], .agg #[.int .u64 (l0 y), .int .u64 (l1 y), .int .u64 (l2 y), .int .u64 (l3 y)]] w fun e w' => e = .returned (.tuple #[.agg #[.int .u64 (l0 (x + y)), .int .u64 (l1 (x + y)), .int .u64 (l2 (x + y)), .int .u64 (l3 (x + y))], .bool true]) ∧ Below w.heap.size w w' := by
  obtain ⟨x0, x1⟩ := hx; obtain ⟨y0, y1⟩ := hy
  refine rsum_walk (k := 0) (fun w => ?_) rfl w
  have := radd_any ⟨x0, x1⟩ ⟨y0, y1⟩ w
  rw [show sumN x y = x + y from Int.emod_eq_of_lt (by omega) c, show carN x y = 0 by unfold carN; omega] at this
  exact this
theorem rsum_no {x y : Int} (hx : Num x) (hy : Num y) (c : ¬ x + y < 115792089237316195423570985008687907853269984665640564039457584007913129639936) (w : World) :
    Calls Try.prog 34 #[.agg #[.int .u64 (l0 x), .int .u64 (l1 x), .int .u64 (l2 x), .int .u64 (l3 x)], .agg #[.int .u64 (l0 y), .int .u64 (l1 y), .int .u64 (l2 y), .int .u64 (l3 y)]] w fun e w' => e = .returned (.tuple #[.agg #[.int .u64 (l0 (sumN x y)), .int .u64 (l1 (sumN x y)), .int .u64 (l2 (sumN x y)), .int .u64 (l3 (sumN x y))], .bool false]) ∧ Below w.heap.size w w' := by
  obtain ⟨x0, x1⟩ := hx; obtain ⟨y0, y1⟩ := hy
  refine rsum_walk (k := 1) (fun w => ?_) rfl w
  have := radd_any ⟨x0, x1⟩ ⟨y0, y1⟩ w
  rw [show carN x y = 1 by unfold carN; omega] at this
  exact this

set_option maxRecDepth 100000 in
set_option maxHeartbeats 4000000 in
theorem rnb_low {b l u : Int} (c : l < 2) (w : World) :
    Calls Try.prog 14 #[.agg #[.int .u64 (l0 b), .int .u64 (l1 b), .int .u64 (l2 b), .int .u64 (l3 b)], .int .u64 l, .int .u64 u] w fun e w' => e = .returned (.tuple #[.agg #[.int .u64 0, .int .u64 0, .int .u64 0, .int .u64 0], .int .i64 1]) ∧ Below w.heap.size w w' := by
  have hz := build_zero
  go_enter Try.func14, Try.ntmps14
  go_wp2
  simp [bodyPost, results, Try.results14, go_sem]
  repeat (first | with_reducible exact Below.refl _ _ | with_reducible refine Below.drew ?_ | with_reducible refine Below.alloc ?_ (by first | omega | (simp; done) | (simp; omega)) _)

set_option maxRecDepth 100000 in
set_option maxHeartbeats 4000000 in
theorem rnb_over {b l u : Int} (c : ¬ l < 2) (c2 : l < u) (w : World) :
    Calls Try.prog 14 #[.agg #[.int .u64 (l0 b), .int .u64 (l1 b), .int .u64 (l2 b), .int .u64 (l3 b)], .int .u64 l, .int .u64 u] w fun e w' => e = .returned (.tuple #[.agg #[.int .u64 0, .int .u64 0, .int .u64 0, .int .u64 0], .int .i64 184]) ∧ Below w.heap.size w w' := by
  have hz := build_zero
  go_enter Try.func14, Try.ntmps14
  go_wp2
  simp [bodyPost, results, Try.results14, go_sem]
  repeat (first | with_reducible exact Below.refl _ _ | with_reducible refine Below.drew ?_ | with_reducible refine Below.alloc ?_ (by first | omega | (simp; done) | (simp; omega)) _)

set_option maxRecDepth 100000 in
set_option maxHeartbeats 4000000 in
theorem rnb_same {b l u g : Int} (hl : 0 ≤ l) (hl2 : l < 18446744073709551616) (c : ¬ l < 2) (c2 : ¬ l < u) (c3 : u = l / 2) (ht : Word (l / 2)) (SL : Hid (∀ w, Calls Try.prog 30 #[.agg #[.int .u64 (l0 (l / 2)), .int .u64 (l1 (l / 2)), .int .u64 (l2 (l / 2)), .int .u64 (l3 (l / 2))], .int .i64 3] w fun e w' => e = .returned (.agg #[.int .u64 (l0 g), .int .u64 (l1 g), .int .u64 (l2 g), .int .u64 (l3 g)]) ∧ Below w.heap.size w w'))  (w : World) :
    Calls Try.prog 14 #[.agg #[.int .u64 (l0 b), .int .u64 (l1 b), .int .u64 (l2 b), .int .u64 (l3 b)], .int .u64 l, .int .u64 u] w fun e w' => e = .returned (.tuple #[.agg #[.int .u64 (l0 b), .int .u64 (l1 b), .int .u64 (l2 b), .int .u64 (l3 b)], .int .i64 0]) ∧ Below w.heap.size w w' := by
  subst c3
  have hz := build_zero
  go_enter Try.func14, Try.ntmps14
  go_wp2_with fail
  refine calls_world (fun W => Below w.heap.size w W ∧ Hold W w.heap.size b ∧ Blank W (w.heap.size + 1)) ⟨by repeat (first | with_reducible exact Below.refl _ _ | with_reducible refine Below.alloc ?_ (by first | omega | (simp; done) | (simp; omega)) _), (Hold.fresh rfl).alloc _, Blank.new (by simp)⟩ ?_
  rintro W ⟨B, hX, hR⟩
  have o1 : w.heap.size ≤ w.heap.size + 1 := by omega
  have nx : w.heap.size + 1 ≠ w.heap.size := by omega
  generalize w.heap.size + 1 = br at *
  with_reducible refine (rfrom_any ht _).mono ?_
  rintro e w1 ⟨rfl, hb⟩
  replace B := B.trans (hb.mono B.size)
  replace hX := hX.keep hb; replace hR := hR.keep hb
  clear hb W
  go_wp2_with fail
  refine calls_world (fun W => Below w.heap.size w W ∧ Hold W w.heap.size b ∧ Blank W br) ⟨B, hX, hR⟩ ?_
  clear B hX hR 
  rintro W ⟨B, hX, hR⟩
  with_reducible refine (SL.out _).mono ?_
  rintro e w9 ⟨rfl, hb⟩
  replace B := B.trans (hb.mono B.size)
  replace hX := hX.keep hb; replace hR := hR.keep hb
  clear hb W
  have gX := hX.allocs; have gR := fun o => (hR.alloc o).1.all4; have fR := fun o => (hR.alloc o).2.all4
  go_wp2
  simp [bodyPost, results, Try.results14, go_sem, *]
  repeat (first | with_reducible exact B | with_reducible refine Below.setCell ?_ o1 _ | with_reducible refine Below.alloc ?_ (by first | exact B.size | omega) _)

set_option maxRecDepth 100000 in
set_option maxHeartbeats 4000000 in
theorem rnb_fall {b l u g q r er : Int} (hl : 0 ≤ l) (hl2 : l < 18446744073709551616) (hu : 0 ≤ u) (hu2 : u < 18446744073709551616) (c : ¬ l < 2) (c2 : ¬ l < u) (c4 : u < l / 2) (ht : Word (l / 2)) (SL : Hid (∀ w, Calls Try.prog 30 #[.agg #[.int .u64 (l0 (l / 2)), .int .u64 (l1 (l / 2)), .int .u64 (l2 (l / 2)), .int .u64 (l3 (l / 2))], .int .i64 3] w fun e w' => e = .returned (.agg #[.int .u64 (l0 g), .int .u64 (l1 g), .int .u64 (l2 g), .int .u64 (l3 g)]) ∧ Below w.heap.size w w')) (ho : Word (l / 2 - u)) (VM : Hid (∀ w, Calls Try.prog 32 #[.agg #[.int .u64 (l0 b), .int .u64 (l1 b), .int .u64 (l2 b), .int .u64 (l3 b)], .agg #[.int .u64 (l0 (l / 2 - u)), .int .u64 (l1 (l / 2 - u)), .int .u64 (l2 (l / 2 - u)), .int .u64 (l3 (l / 2 - u))], .agg #[.int .u64 (l0 g), .int .u64 (l1 g), .int .u64 (l2 g), .int .u64 (l3 g)]] w fun e w' => e = .returned (.tuple #[.agg #[.int .u64 (l0 q), .int .u64 (l1 q), .int .u64 (l2 q), .int .u64 (l3 q)], .int .i64 0]) ∧ Below w.heap.size w w')) (SU : Hid (∀ w, Calls Try.prog 33 #[.agg #[.int .u64 (l0 b), .int .u64 (l1 b), .int .u64 (l2 b), .int .u64 (l3 b)], .agg #[.int .u64 (l0 q), .int .u64 (l1 q), .int .u64 (l2 q), .int .u64 (l3 q)]] w fun e w' => e = .returned (.tuple #[.agg #[.int .u64 (l0 r), .int .u64 (l1 r), .int .u64 (l2 r), .int .u64 (l3 r)], .int .u64 er]) ∧ Below w.heap.size w w')) (w : World) :
    Calls Try.prog 14 #[.agg #[.int .u64 (l0 b), .int .u64 (l1 b), .int .u64 (l2 b), .int .u64 (l3 b)], .int .u64 l, .int .u64 u] w fun e w' => e = .returned (.tuple #[.agg #[.int .u64 (l0 r), .int .u64 (l1 r), .int .u64 (l2 r), .int .u64 (l3 r)], .int .i64 0]) ∧ Below w.heap.size w w' := by
  have d0 : 0 ≤ l / 2 - u := by omega
  have d1 : l / 2 - u < 18446744073709551616 := by omega
  have wq : IntKind.u64.wrap (l / 2 - u) = l / 2 - u := by rw [IntKind.wrap_u64]; omega
  have hz := build_zero
  go_enter Try.func14, Try.ntmps14
  go_wp2_with fail
  refine calls_world (fun W => Below w.heap.size w W ∧ Hold W w.heap.size b ∧ Blank W (w.heap.size + 1)) ⟨by repeat (first | with_reducible exact Below.refl _ _ | with_reducible refine Below.alloc ?_ (by first | omega | (simp; done) | (simp; omega)) _), (Hold.fresh rfl).alloc _, Blank.new (by simp)⟩ ?_
  rintro W ⟨B, hX, hR⟩
  have o1 : w.heap.size ≤ w.heap.size + 1 := by omega
  have nx : w.heap.size + 1 ≠ w.heap.size := by omega
  generalize w.heap.size + 1 = br at *
  with_reducible refine (rfrom_any ht _).mono ?_
  rintro e w1 ⟨rfl, hb⟩
  replace B := B.trans (hb.mono B.size)
  replace hX := hX.keep hb; replace hR := hR.keep hb
  clear hb W
  go_wp2_with fail
  refine calls_world (fun W => Below w.heap.size w W ∧ Hold W w.heap.size b ∧ Blank W br) ⟨B, hX, hR⟩ ?_
  clear B hX hR 
  rintro W ⟨B, hX, hR⟩
  with_reducible refine (SL.out _).mono ?_
  rintro e w2 ⟨rfl, hb⟩
  replace B := B.trans (hb.mono B.size)
  replace hX := hX.keep hb; replace hR := hR.keep hb
  clear hb W
  have ghX := hX.allocs
  go_wp2_with fail
  refine wp_world (fun W => Below w.heap.size w W ∧ Hold W w.heap.size b ∧ Blank W br ∧ Hold W w2.heap.size g) ⟨B.alloc B.size _, hX.alloc _, hR.alloc _, Hold.new _ _ _⟩ ?_
  clear B hX hR ghX
  rintro W ⟨B, hX, hR, hE⟩
  generalize w2.heap.size = be at *
  have ghX := hX.cells
  have lthX : w.heap.size < W.heap.size := World.block_lt_of_cell? W _ hX.1
  have lthR : br < W.heap.size := hR.1.lt (by simp)
  have ghE := hE.cells
  have lthE : be < W.heap.size := World.block_lt_of_cell? W _ hE.1
  have BB : Hid (Below w.heap.size w W) := B
  have QhX : Hid (Hold W w.heap.size b) := hX
  have QhR : Hid (Blank W br) := hR
  have QhE : Hid (Hold W be g) := hE
  have geB : w.heap.size ≤ W.heap.size := B.size
  clear B hX hR hE
  generalize hbx : w.heap.size = bx at *
  refine wp_out (fun a' W' => ∃ bd, Below bx w W' ∧ Hold W' bx b ∧ Blank W' br ∧ Hold W' be g ∧ Hold W' bd q ∧ a' = { tmps := #[.agg #[.int .u64 (l0 b), .int .u64 (l1 b), .int .u64 (l2 b), .int .u64 (l3 b)], .int .u64 l, .int .u64 u, .pointer (some { block := bx, off := 0 }), Go.undef, Go.undef, .pointer (some { block := br, off := 0 }), .int .i64 0, .int .u64 (l / 2), .pointer (some { block := be, off := 0 }), .pointer (some { block := bd, off := 0 }), .int .i64 0, Go.undef, Go.undef, Go.undef, Go.undef, Go.undef, Go.undef, .int .u64 l, .bool false, Go.undef, .int .u64 u, .int .u64 l, .bool false, Go.undef, .int .u64 l, .int .u64 (l / 2), .int .u64 (l / 2), .agg #[.int .u64 (l0 (l / 2)), .int .u64 (l1 (l / 2)), .int .u64 (l2 (l / 2)), .int .u64 (l3 (l / 2))], .agg #[.int .u64 (l0 g), .int .u64 (l1 g), .int .u64 (l2 g), .int .u64 (l3 g)], .int .u64 u, .int .u64 (l / 2), .bool false, Go.undef, .int .u64 u, .int .u64 (l / 2), .bool true, .tuple #[.agg #[.int .u64 (l0 q), .int .u64 (l1 q), .int .u64 (l2 q), .int .u64 (l3 q)], .int .i64 0], .agg #[.int .u64 (l0 b), .int .u64 (l1 b), .int .u64 (l2 b), .int .u64 (l3 b)], .int .u64 (l / 2), .int .u64 u, .int .u64 (l / 2 - u), .agg #[.int .u64 (l0 (l / 2 - u)), .int .u64 (l1 (l / 2 - u)), .int .u64 (l2 (l / 2 - u)), .int .u64 (l3 (l / 2 - u))], .agg #[.int .u64 (l0 g), .int .u64 (l1 g), .int .u64 (l2 g), .int .u64 (l3 g)], .tuple #[.agg #[.int .u64 (l0 q), .int .u64 (l1 q), .int .u64 (l2 q), .int .u64 (l3 q)], .int .i64 0], .agg #[.int .u64 (l0 q), .int .u64 (l1 q), .int .u64 (l2 q), .int .u64 (l3 q)], .int .i64 0, Go.undef, Go.undef, Go.undef, Go.undef, Go.undef, Go.undef, Go.undef, Go.undef, Go.undef, Go.undef, Go.undef, Go.undef, Go.undef, Go.undef, Go.undef, Go.undef, Go.undef, Go.undef, Go.undef, Go.undef, Go.undef, Go.undef, Go.undef, Go.undef, Go.undef, Go.undef, Go.undef, Go.undef, Go.undef, Go.undef, Go.undef, Go.undef, Go.undef, Go.undef], defers := [] }) ?_ ?_
  · have dz : W.drew.heap.size = W.heap.size := rfl
    have lo0 : bx < W.heap.size := by omega
    have _ := Nat.ne_of_lt lo0
    have _ := Nat.ne_of_gt lo0
    have lo1 : br < W.heap.size := by omega
    have _ := Nat.ne_of_lt lo1
    have _ := Nat.ne_of_gt lo1
    have lo2 : be < W.heap.size := by omega
    have _ := Nat.ne_of_lt lo2
    have _ := Nat.ne_of_gt lo2
    go_region_held3 (fun w' => w'.cell? ⟨bx, 0, none⟩ = some (.int .u64 (l0 b)) ∧ w'.cell? ⟨bx, 1, none⟩ = some (.int .u64 (l1 b)) ∧ w'.cell? ⟨bx, 2, none⟩ = some (.int .u64 (l2 b)) ∧ w'.cell? ⟨bx, 3, none⟩ = some (.int .u64 (l3 b)) ∧ w'.cell? ⟨be, 0, none⟩ = some (.int .u64 (l0 g)) ∧ w'.cell? ⟨be, 1, none⟩ = some (.int .u64 (l1 g)) ∧ w'.cell? ⟨be, 2, none⟩ = some (.int .u64 (l2 g)) ∧ w'.cell? ⟨be, 3, none⟩ = some (.int .u64 (l3 g))) (((try dsimp only); (repeat' (apply And.intro)); (all_goals repeat (first | with_reducible assumption | with_reducible apply cell_keep hb2 | with_reducible apply cell_keep hb1 | with_reducible apply cell_alloc | (with_reducible refine cell_set ?_ (by with_reducible assumption)) | (simp [go_sem, *]; done)))))
      (first
        | (go_at_call 31; with_reducible refine (rfrom_any ho _).mono ?_; rintro e w1 ⟨rfl, hb1⟩; have hc1 := oldCells hb1; have hz1 := hb1.size; (try simp at hz1); have hW1 : W.heap.size ≤ w1.heap.size := (by omega); have _ := Nat.le_trans geB hW1; (try (have := fun j => oldCells hb1 (W.heap.size) j (by first | omega | (simp; done) | (simp; omega)))); have lo0_1 := Nat.lt_of_lt_of_le lo0 hW1; have _ := Nat.ne_of_lt lo0_1; have _ := Nat.ne_of_gt lo0_1; have lo1_1 := Nat.lt_of_lt_of_le lo1 hW1; have _ := Nat.ne_of_lt lo1_1; have _ := Nat.ne_of_gt lo1_1; have lo2_1 := Nat.lt_of_lt_of_le lo2 hW1; have _ := Nat.ne_of_lt lo2_1; have _ := Nat.ne_of_gt lo2_1; (try (have hv : W.heap.size < w1.heap.size := (by omega); have _ := Nat.ne_of_lt hv; have _ := Nat.ne_of_gt hv)))
        | (go_at_call 32; with_reducible refine (VM.out _).mono ?_; rintro e w2 ⟨rfl, hb2⟩; have hc2 := oldCells hb2; have hz2 := hb2.size; (try simp at hz2); have hW2 : W.heap.size ≤ w2.heap.size := (by omega); have _ := Nat.le_trans geB hW2; (try (have := fun j => oldCells hb2 (W.heap.size) j (by first | omega | (simp; done) | (simp; omega)))); (try (have := fun j => oldCells hb2 (w1.heap.size) j (by first | omega | (simp; done) | (simp; omega)))); have lo0_2 := Nat.lt_of_lt_of_le lo0 hW2; have _ := Nat.ne_of_lt lo0_2; have _ := Nat.ne_of_gt lo0_2; have lo1_2 := Nat.lt_of_lt_of_le lo1 hW2; have _ := Nat.ne_of_lt lo1_2; have _ := Nat.ne_of_gt lo1_2; have lo2_2 := Nat.lt_of_lt_of_le lo2 hW2; have _ := Nat.ne_of_lt lo2_2; have _ := Nat.ne_of_gt lo2_2; (try (have hv : W.heap.size < w2.heap.size := (by omega); have _ := Nat.ne_of_lt hv; have _ := Nat.ne_of_gt hv)); (try (have hv : w1.heap.size < w2.heap.size := (by omega); have _ := Nat.ne_of_lt hv; have _ := Nat.ne_of_gt hv))))
    all_goals (refine OutQ.intro ⟨_, ?_, ?_, ?_, ?_, ?_, rfl⟩)
    all_goals repeat (first | with_reducible exact BB.out | with_reducible exact QhX.out | with_reducible exact QhR.out | with_reducible exact QhE.out | with_reducible refine Hold.fresh (by first | rfl | (simp; done) | fail) | with_reducible refine Hold.sets4 ?_ | with_reducible refine Var.new (by first | rfl | (simp; done) | fail) | with_reducible refine Hold.alloc ?_ _ | with_reducible refine Hold.drew ?_ | with_reducible refine Hold.set4 ?_ (by with_reducible assumption) _ _ _ _ | with_reducible refine HoldM.alloc ?_ _ | with_reducible refine HoldM.drew ?_ | with_reducible refine HoldM.set4 ?_ (by with_reducible assumption) _ _ _ _ | with_reducible refine Blank.alloc ?_ _ | with_reducible refine Blank.drew ?_ | with_reducible refine Blank.set4 ?_ (by with_reducible assumption) _ _ _ _ | with_reducible refine Mds.alloc ?_ _ | with_reducible refine Mds.drew ?_ | with_reducible refine Mds.set4 ?_ (by with_reducible assumption) _ _ _ _ | with_reducible refine Var.alloc ?_ _ | with_reducible refine Var.set4 ?_ (by with_reducible assumption) _ _ _ _ | with_reducible refine below_alloc hbx ?_ _ | with_reducible refine Below.drew ?_ | with_reducible refine Below.setCell ?_ (by with_reducible assumption) _ | with_reducible refine Has.fresh (by first | rfl | (simp; done) | fail) (by first | (simp; done) | fail) | with_reducible refine Has.alloc ?_ _ | with_reducible refine Has.drew ?_ | with_reducible refine Has.keep ?_ hb2 | with_reducible refine Hold.keep ?_ hb2 | with_reducible refine HoldM.keep ?_ hb2 | with_reducible refine Blank.keep ?_ hb2 | with_reducible refine Mds.keep ?_ hb2 | with_reducible refine Var.keep ?_ hb2 | with_reducible refine below_then hbx ?_ hb2 | with_reducible refine Has.keep ?_ hb1 | with_reducible refine Hold.keep ?_ hb1 | with_reducible refine HoldM.keep ?_ hb1 | with_reducible refine Blank.keep ?_ hb1 | with_reducible refine Mds.keep ?_ hb1 | with_reducible refine Var.keep ?_ hb1 | with_reducible refine below_then hbx ?_ hb1)
  rintro _ W ⟨bd, B, hX, hR, hE, hD, rfl⟩
  subst hbx
  clear BB geB QhX QhR QhE ghX ghE lthX lthR lthE
  have gX := hX.cells; have gD := hD.cells
  go_wp2_with fail
  refine calls_world (fun W => Below w.heap.size w W ∧ Hold W w.heap.size b ∧ Blank W br ∧ Hold W be g ∧ Hold W bd q) ⟨B, hX, hR, hE, hD⟩ ?_
  clear B gX gD hX hR hE hD W
  rintro W ⟨B, hX, hR, hE, hD⟩
  with_reducible refine (SU.out _).mono ?_
  rintro e w9 ⟨rfl, hb⟩
  replace B := B.trans (hb.mono B.size)
  replace hX := hX.keep hb; replace hR := hR.keep hb; replace hE := hE.keep hb; replace hD := hD.keep hb
  clear hb W
  have gR := fun o => (hR.alloc o).1.all4; have fR := fun o => (hR.alloc o).2.all4
  have c9 : br ≠ w9.heap.size := by have := hR.1.lt (by simp); omega
  have c8 := c9.symm
  go_wp2
  simp [bodyPost, results, Try.results14, go_sem, *]
  repeat (first | with_reducible exact B | with_reducible refine Below.setCell ?_ o1 _ | with_reducible refine Below.alloc ?_ (by first | exact B.size | omega) _)

set_option maxRecDepth 100000 in
set_option maxHeartbeats 4000000 in
theorem rnb_rise {b l u g q r : Int} {z t : Bool} {dd : Value} (hl : 0 ≤ l) (hl2 : l < 18446744073709551616) (hu : 0 ≤ u) (hu2 : u < 18446744073709551616) (c : ¬ l < 2) (c2 : ¬ l < u) (c3 : ¬ u = l / 2) (c4 : ¬ u < l / 2) (ht : Word (l / 2)) (SL : Hid (∀ w, Calls Try.prog 30 #[.agg #[.int .u64 (l0 (l / 2)), .int .u64 (l1 (l / 2)), .int .u64 (l2 (l / 2)), .int .u64 (l3 (l / 2))], .int .i64 3] w fun e w' => e = .returned (.agg #[.int .u64 (l0 g), .int .u64 (l1 g), .int .u64 (l2 g), .int .u64 (l3 g)]) ∧ Below w.heap.size w w')) (ho : Word (u - l / 2)) (VM : Hid (∀ w, Calls Try.prog 32 #[.agg #[.int .u64 (l0 b), .int .u64 (l1 b), .int .u64 (l2 b), .int .u64 (l3 b)], .agg #[.int .u64 (l0 (u - l / 2)), .int .u64 (l1 (u - l / 2)), .int .u64 (l2 (u - l / 2)), .int .u64 (l3 (u - l / 2))], .agg #[.int .u64 (l0 g), .int .u64 (l1 g), .int .u64 (l2 g), .int .u64 (l3 g)]] w fun e w' => e = .returned (.tuple #[.agg #[.int .u64 (l0 q), .int .u64 (l1 q), .int .u64 (l2 q), .int .u64 (l3 q)], .int .i64 0]) ∧ Below w.heap.size w w')) (he : ∀ w, (Op.equalIn 10000 24 (.agg #[.int .u64 (l0 q), .int .u64 (l1 q), .int .u64 (l2 q), .int .u64 (l3 q)]) (.agg #[.int .u64 0, .int .u64 0, .int .u64 0, .int .u64 0])).run Try.prog w = .ok z w) (HZ : z = false ∧ dd = .agg #[.int .u64 (l0 q), .int .u64 (l1 q), .int .u64 (l2 q), .int .u64 (l3 q)] ∨ z = true ∧ dd = .agg #[.int .u64 1, .int .u64 0, .int .u64 0, .int .u64 0]) (SM : Hid (∀ w, Calls Try.prog 34 #[.agg #[.int .u64 (l0 b), .int .u64 (l1 b), .int .u64 (l2 b), .int .u64 (l3 b)], dd] w fun e w' => e = .returned (.tuple #[.agg #[.int .u64 (l0 r), .int .u64 (l1 r), .int .u64 (l2 r), .int .u64 (l3 r)], .bool t]) ∧ Below w.heap.size w w')) (w : World) :
    Calls Try.prog 14 #[.agg #[.int .u64 (l0 b), .int .u64 (l1 b), .int .u64 (l2 b), .int .u64 (l3 b)], .int .u64 l, .int .u64 u] w fun e w' => e = .returned (.tuple #[if t = true then .agg #[.int .u64 (l0 r), .int .u64 (l1 r), .int .u64 (l2 r), .int .u64 (l3 r)] else .agg #[.int .u64 0, .int .u64 0, .int .u64 0, .int .u64 0], .int .i64 (if t = true then 0 else 183)]) ∧ Below w.heap.size w w' := by
  have d0 : 0 ≤ u - l / 2 := by omega
  have d1 : u - l / 2 < 18446744073709551616 := by omega
  have wq : IntKind.u64.wrap (u - l / 2) = u - l / 2 := by rw [IntKind.wrap_u64]; omega
  have hz := build_zero
  go_enter Try.func14, Try.ntmps14
  go_wp2_with fail
  refine calls_world (fun W => Below w.heap.size w W ∧ Hold W w.heap.size b ∧ Blank W (w.heap.size + 1)) ⟨by repeat (first | with_reducible exact Below.refl _ _ | with_reducible refine Below.alloc ?_ (by first | omega | (simp; done) | (simp; omega)) _), (Hold.fresh rfl).alloc _, Blank.new (by simp)⟩ ?_
  rintro W ⟨B, hX, hR⟩
  have o1 : w.heap.size ≤ w.heap.size + 1 := by omega
  have nx : w.heap.size + 1 ≠ w.heap.size := by omega
  generalize w.heap.size + 1 = br at *
  with_reducible refine (rfrom_any ht _).mono ?_
  rintro e w1 ⟨rfl, hb⟩
  replace B := B.trans (hb.mono B.size)
  replace hX := hX.keep hb; replace hR := hR.keep hb
  clear hb W
  go_wp2_with fail
  refine calls_world (fun W => Below w.heap.size w W ∧ Hold W w.heap.size b ∧ Blank W br) ⟨B, hX, hR⟩ ?_
  clear B hX hR 
  rintro W ⟨B, hX, hR⟩
  with_reducible refine (SL.out _).mono ?_
  rintro e w2 ⟨rfl, hb⟩
  replace B := B.trans (hb.mono B.size)
  replace hX := hX.keep hb; replace hR := hR.keep hb
  clear hb W
  have ghX := hX.allocs
  go_wp2_with fail
  refine wp_world (fun W => Below w.heap.size w W ∧ Hold W w.heap.size b ∧ Blank W br ∧ Hold W w2.heap.size g) ⟨B.alloc B.size _, hX.alloc _, hR.alloc _, Hold.new _ _ _⟩ ?_
  clear B hX hR ghX
  rintro W ⟨B, hX, hR, hE⟩
  generalize w2.heap.size = be at *
  have ghX := hX.cells
  have lthX : w.heap.size < W.heap.size := World.block_lt_of_cell? W _ hX.1
  have lthR : br < W.heap.size := hR.1.lt (by simp)
  have ghE := hE.cells
  have lthE : be < W.heap.size := World.block_lt_of_cell? W _ hE.1
  have BB : Hid (Below w.heap.size w W) := B
  have QhX : Hid (Hold W w.heap.size b) := hX
  have QhR : Hid (Blank W br) := hR
  have QhE : Hid (Hold W be g) := hE
  have geB : w.heap.size ≤ W.heap.size := B.size
  clear B hX hR hE
  generalize hbx : w.heap.size = bx at *
  refine wp_out (fun a' W' => ∃ bd, Below bx w W' ∧ Hold W' bx b ∧ Blank W' br ∧ Hold W' be g ∧ Var W' bd q ∧ bx < bd ∧ br < bd ∧ be < bd ∧ bx ≤ bd ∧ a' = { tmps := #[.agg #[.int .u64 (l0 b), .int .u64 (l1 b), .int .u64 (l2 b), .int .u64 (l3 b)], .int .u64 l, .int .u64 u, .pointer (some { block := bx, off := 0 }), Go.undef, Go.undef, .pointer (some { block := br, off := 0 }), .int .i64 0, .int .u64 (l / 2), .pointer (some { block := be, off := 0 }), Go.undef, Go.undef, Go.undef, Go.undef, .pointer (some { block := bd, off := 0 }), .int .i64 0, Go.undef, Go.undef, .int .u64 l, .bool false, Go.undef, .int .u64 u, .int .u64 l, .bool false, Go.undef, .int .u64 l, .int .u64 (l / 2), .int .u64 (l / 2), .agg #[.int .u64 (l0 (l / 2)), .int .u64 (l1 (l / 2)), .int .u64 (l2 (l / 2)), .int .u64 (l3 (l / 2))], .agg #[.int .u64 (l0 g), .int .u64 (l1 g), .int .u64 (l2 g), .int .u64 (l3 g)], .int .u64 u, .int .u64 (l / 2), .bool false, Go.undef, .int .u64 u, .int .u64 (l / 2), .bool (decide (u < l / 2)), Go.undef, Go.undef, Go.undef, Go.undef, Go.undef, Go.undef, Go.undef, Go.undef, Go.undef, Go.undef, Go.undef, Go.undef, Go.undef, Go.undef, Go.undef, Go.undef, Go.undef, .tuple #[.agg #[.int .u64 (l0 q), .int .u64 (l1 q), .int .u64 (l2 q), .int .u64 (l3 q)], .int .i64 0], .agg #[.int .u64 (l0 b), .int .u64 (l1 b), .int .u64 (l2 b), .int .u64 (l3 b)], .int .u64 u, .int .u64 (l / 2), .int .u64 (u - l / 2), .agg #[.int .u64 (l0 (u - l / 2)), .int .u64 (l1 (u - l / 2)), .int .u64 (l2 (u - l / 2)), .int .u64 (l3 (u - l / 2))], .agg #[.int .u64 (l0 g), .int .u64 (l1 g), .int .u64 (l2 g), .int .u64 (l3 g)], .tuple #[.agg #[.int .u64 (l0 q), .int .u64 (l1 q), .int .u64 (l2 q), .int .u64 (l3 q)], .int .i64 0], .agg #[.int .u64 (l0 q), .int .u64 (l1 q), .int .u64 (l2 q), .int .u64 (l3 q)], .int .i64 0, Go.undef, Go.undef, Go.undef, Go.undef, Go.undef, Go.undef, Go.undef, Go.undef, Go.undef, Go.undef, Go.undef, Go.undef, Go.undef, Go.undef, Go.undef, Go.undef, Go.undef], defers := [] }) ?_ ?_
  · have dz : W.drew.heap.size = W.heap.size := rfl
    have lo0 : bx < W.heap.size := by omega
    have _ := Nat.ne_of_lt lo0
    have _ := Nat.ne_of_gt lo0
    have lo1 : br < W.heap.size := by omega
    have _ := Nat.ne_of_lt lo1
    have _ := Nat.ne_of_gt lo1
    have lo2 : be < W.heap.size := by omega
    have _ := Nat.ne_of_lt lo2
    have _ := Nat.ne_of_gt lo2
    go_region_held3 (fun w' => w'.cell? ⟨bx, 0, none⟩ = some (.int .u64 (l0 b)) ∧ w'.cell? ⟨bx, 1, none⟩ = some (.int .u64 (l1 b)) ∧ w'.cell? ⟨bx, 2, none⟩ = some (.int .u64 (l2 b)) ∧ w'.cell? ⟨bx, 3, none⟩ = some (.int .u64 (l3 b)) ∧ w'.cell? ⟨be, 0, none⟩ = some (.int .u64 (l0 g)) ∧ w'.cell? ⟨be, 1, none⟩ = some (.int .u64 (l1 g)) ∧ w'.cell? ⟨be, 2, none⟩ = some (.int .u64 (l2 g)) ∧ w'.cell? ⟨be, 3, none⟩ = some (.int .u64 (l3 g))) (((try dsimp only); (repeat' (apply And.intro)); (all_goals repeat (first | with_reducible assumption | with_reducible apply cell_keep hb2 | with_reducible apply cell_keep hb1 | with_reducible apply cell_alloc | (with_reducible refine cell_set ?_ (by with_reducible assumption)) | (simp [go_sem, *]; done)))))
      (first
        | (go_at_call 31; with_reducible refine (rfrom_any ho _).mono ?_; rintro e w1 ⟨rfl, hb1⟩; have hc1 := oldCells hb1; have hz1 := hb1.size; (try simp at hz1); have hW1 : W.heap.size ≤ w1.heap.size := (by omega); have _ := Nat.le_trans geB hW1; (try (have := fun j => oldCells hb1 (W.heap.size) j (by first | omega | (simp; done) | (simp; omega)))); have lo0_1 := Nat.lt_of_lt_of_le lo0 hW1; have _ := Nat.ne_of_lt lo0_1; have _ := Nat.ne_of_gt lo0_1; have lo1_1 := Nat.lt_of_lt_of_le lo1 hW1; have _ := Nat.ne_of_lt lo1_1; have _ := Nat.ne_of_gt lo1_1; have lo2_1 := Nat.lt_of_lt_of_le lo2 hW1; have _ := Nat.ne_of_lt lo2_1; have _ := Nat.ne_of_gt lo2_1; (try (have hv : W.heap.size < w1.heap.size := (by omega); have _ := Nat.ne_of_lt hv; have _ := Nat.ne_of_gt hv)))
        | (go_at_call 32; with_reducible refine (VM.out _).mono ?_; rintro e w2 ⟨rfl, hb2⟩; have hc2 := oldCells hb2; have hz2 := hb2.size; (try simp at hz2); have hW2 : W.heap.size ≤ w2.heap.size := (by omega); have _ := Nat.le_trans geB hW2; (try (have := fun j => oldCells hb2 (W.heap.size) j (by first | omega | (simp; done) | (simp; omega)))); (try (have := fun j => oldCells hb2 (w1.heap.size) j (by first | omega | (simp; done) | (simp; omega)))); have lo0_2 := Nat.lt_of_lt_of_le lo0 hW2; have _ := Nat.ne_of_lt lo0_2; have _ := Nat.ne_of_gt lo0_2; have lo1_2 := Nat.lt_of_lt_of_le lo1 hW2; have _ := Nat.ne_of_lt lo1_2; have _ := Nat.ne_of_gt lo1_2; have lo2_2 := Nat.lt_of_lt_of_le lo2 hW2; have _ := Nat.ne_of_lt lo2_2; have _ := Nat.ne_of_gt lo2_2; (try (have hv : W.heap.size < w2.heap.size := (by omega); have _ := Nat.ne_of_lt hv; have _ := Nat.ne_of_gt hv)); (try (have hv : w1.heap.size < w2.heap.size := (by omega); have _ := Nat.ne_of_lt hv; have _ := Nat.ne_of_gt hv))))
    all_goals (refine OutQ.intro ⟨_, ?_, ?_, ?_, ?_, ?_, ?_, ?_, ?_, ?_, rfl⟩)
    all_goals repeat (first | with_reducible assumption | with_reducible refine Var.setsF ?_ _ | with_reducible exact Blank.zero (Blank.new (by first | rfl | (simp; done) | fail)) | with_reducible exact BB.out | with_reducible exact QhX.out | with_reducible exact QhR.out | with_reducible exact QhE.out | with_reducible refine Hold.fresh (by first | rfl | (simp; done) | fail) | with_reducible refine Hold.sets4 ?_ | with_reducible refine Var.new (by first | rfl | (simp; done) | fail) | with_reducible refine Hold.alloc ?_ _ | with_reducible refine Hold.drew ?_ | with_reducible refine Hold.set4 ?_ (by with_reducible assumption) _ _ _ _ | with_reducible refine HoldM.alloc ?_ _ | with_reducible refine HoldM.drew ?_ | with_reducible refine HoldM.set4 ?_ (by with_reducible assumption) _ _ _ _ | with_reducible refine Blank.alloc ?_ _ | with_reducible refine Blank.drew ?_ | with_reducible refine Blank.set4 ?_ (by with_reducible assumption) _ _ _ _ | with_reducible refine Mds.alloc ?_ _ | with_reducible refine Mds.drew ?_ | with_reducible refine Mds.set4 ?_ (by with_reducible assumption) _ _ _ _ | with_reducible refine Var.alloc ?_ _ | with_reducible refine Var.set4 ?_ (by with_reducible assumption) _ _ _ _ | with_reducible refine below_alloc hbx ?_ _ | with_reducible refine Below.drew ?_ | with_reducible refine Below.setCell ?_ (by with_reducible assumption) _ | with_reducible refine Has.fresh (by first | rfl | (simp; done) | fail) (by first | (simp; done) | fail) | with_reducible refine Has.alloc ?_ _ | with_reducible refine Has.drew ?_ | with_reducible refine Has.keep ?_ hb2 | with_reducible refine Hold.keep ?_ hb2 | with_reducible refine HoldM.keep ?_ hb2 | with_reducible refine Blank.keep ?_ hb2 | with_reducible refine Mds.keep ?_ hb2 | with_reducible refine Var.keep ?_ hb2 | with_reducible refine below_then hbx ?_ hb2 | with_reducible refine Has.keep ?_ hb1 | with_reducible refine Hold.keep ?_ hb1 | with_reducible refine HoldM.keep ?_ hb1 | with_reducible refine Blank.keep ?_ hb1 | with_reducible refine Mds.keep ?_ hb1 | with_reducible refine Var.keep ?_ hb1 | with_reducible refine below_then hbx ?_ hb1 | with_reducible refine Var.drewF ?_ | omega)
  rintro _ W ⟨bd, B, hX, hR, hE, hD, ap0_bd, ap1_bd, ap2_bd, ap3_bd, rfl⟩
  subst hbx
  clear BB geB QhX QhR QhE ghX ghE lthX lthR lthE
  have gX := hX.cells; have gD := hD.1.cells
  have fD := hD.2.all4
  have nd : bd ≠ w.heap.size := by omega
  have nr : bd ≠ br := by omega
  have gd : w.heap.size ≤ bd := by omega
  clear hE
  rcases HZ with ⟨rfl, rfl⟩ | ⟨rfl, rfl⟩
  · go_wp2_with fail
    refine calls_world (fun W => Below w.heap.size w W ∧ Hold W w.heap.size b ∧ Blank W br) ⟨B, hX, hR⟩ ?_
    clear B gX gD hD hX hR fD nd nr gd
    rintro W ⟨B, hX, hR⟩
    with_reducible refine (SM.out _).mono ?_
    rintro e w9 ⟨rfl, hb⟩
    replace B := B.trans (hb.mono B.size)
    replace hX := hX.keep hb; replace hR := hR.keep hb
    clear hb W
    have gR := fun o => (hR.alloc o).1.all4; have fR := fun o => (hR.alloc o).2.all4
    have c9 : br ≠ w9.heap.size := by have := hR.1.lt (by simp); omega
    have c8 := c9.symm
    cases t
    all_goals (go_wp2; simp [bodyPost, results, Try.results14, go_sem, *]; repeat (first | with_reducible exact B | with_reducible refine Below.setCell ?_ o1 _ | with_reducible refine Below.alloc ?_ (by first | exact B.size | omega) _))
  
  · go_wp2_with fail
    refine calls_world (fun W => Below w.heap.size w W ∧ Hold W w.heap.size b ∧ Blank W br) ⟨below_set4 B gd _ _ _ _, hX.set4 nd _ _ _ _, hR.set4 nr _ _ _ _⟩ ?_
    clear B gX gD hD hX hR fD nd nr gd
    rintro W ⟨B, hX, hR⟩
    with_reducible refine (SM.out _).mono ?_
    rintro e w9 ⟨rfl, hb⟩
    replace B := B.trans (hb.mono B.size)
    replace hX := hX.keep hb; replace hR := hR.keep hb
    clear hb W
    have gR := fun o => (hR.alloc o).1.all4; have fR := fun o => (hR.alloc o).2.all4
    have c9 : br ≠ w9.heap.size := by have := hR.1.lt (by simp); omega
    have c8 := c9.symm
    cases t
    all_goals (go_wp2; simp [bodyPost, results, Try.results14, go_sem, *]; repeat (first | with_reducible exact B | with_reducible refine Below.setCell ?_ o1 _ | with_reducible refine Below.alloc ?_ (by first | exact B.size | omega) _))

end Go.Proofs.Ytmegdnalpaddmaa

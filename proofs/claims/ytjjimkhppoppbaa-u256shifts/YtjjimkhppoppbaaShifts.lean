import Derived.Test.YtjjimkhppoppbaaExp
import Derived.Test.YtjjimkhppoppbaaShiftsNum
import Derived.Test.YtjjimkhppoppbaaDivMod
import Derived.Test.YtjjimkhppoppbaaQTail
import Derived.Test.YtjjimkhppoppbaaRing0
import Derived.Deep.RegionWith
namespace Go.Proofs.Ytjjimkhppoppbaa
open Go.RowKit Go.Sort

set_option maxRecDepth 100000 in
set_option maxHeartbeats 8000000 in
theorem shifts_walk {x n P Q R H b L k : Int} (h0 : 0 ≤ n) (h1 : n ≤ 255) (w : World)
    (E1 : Hid (∀ w, Calls Try.prog 34 #[.agg #[.int .u64 (l0 2), .int .u64 (l1 2), .int .u64 (l2 2), .int .u64 (l3 2)], .agg #[.int .u64 (l0 n), .int .u64 (l1 n), .int .u64 (l2 n), .int .u64 (l3 n)]] w fun e w' => e = .returned (.agg #[.int .u64 (l0 P), .int .u64 (l1 P), .int .u64 (l2 P), .int .u64 (l3 P)]) ∧ Below w.heap.size w w'))
    (D1 : Hid (∀ w, Calls Try.prog 29 #[.agg #[.int .u64 (l0 x), .int .u64 (l1 x), .int .u64 (l2 x), .int .u64 (l3 x)], .agg #[.int .u64 (l0 P), .int .u64 (l1 P), .int .u64 (l2 P), .int .u64 (l3 P)]] w fun e w' => e = .returned (.tuple #[.agg #[.int .u64 (l0 Q), .int .u64 (l1 Q), .int .u64 (l2 Q), .int .u64 (l3 Q)], .agg #[.int .u64 (l0 R), .int .u64 (l1 R), .int .u64 (l2 R), .int .u64 (l3 R)], .int .i64 0]) ∧ Below w.heap.size w w'))
    (D2 : Hid (∀ w, Calls Try.prog 29 #[.agg #[.int .u64 (l0 Q), .int .u64 (l1 Q), .int .u64 (l2 Q), .int .u64 (l3 Q)], .agg #[.int .u64 (l0 2), .int .u64 (l1 2), .int .u64 (l2 2), .int .u64 (l3 2)]] w fun e w' => e = .returned (.tuple #[.agg #[.int .u64 (l0 H), .int .u64 (l1 H), .int .u64 (l2 H), .int .u64 (l3 H)], .agg #[.int .u64 (l0 b), .int .u64 (l1 b), .int .u64 (l2 b), .int .u64 (l3 b)], .int .i64 0]) ∧ Below w.heap.size w w'))
    (S1 : Hid (∀ w, Calls Try.prog 32 #[.agg #[.int .u64 (l0 x), .int .u64 (l1 x), .int .u64 (l2 x), .int .u64 (l3 x)], .int .i64 n] w fun e w' => e = .returned (.agg #[.int .u64 (l0 L), .int .u64 (l1 L), .int .u64 (l2 L), .int .u64 (l3 L)]) ∧ Below w.heap.size w w'))
    (L1 : Hid (∀ w, Calls Try.prog 15 #[.agg #[.int .u64 (l0 x), .int .u64 (l1 x), .int .u64 (l2 x), .int .u64 (l3 x)], .agg #[.int .u64 (l0 P), .int .u64 (l1 P), .int .u64 (l2 P), .int .u64 (l3 P)]] w fun e w' => e = .returned (.agg #[.int .u64 (l0 L), .int .u64 (l1 L), .int .u64 (l2 L), .int .u64 (l3 L)]) ∧ Below w.heap.size w w'))
    (S2 : Hid (∀ w, Calls Try.prog 33 #[.agg #[.int .u64 (l0 x), .int .u64 (l1 x), .int .u64 (l2 x), .int .u64 (l3 x)], .int .i64 n] w fun e w' => e = .returned (.agg #[.int .u64 (l0 Q), .int .u64 (l1 Q), .int .u64 (l2 Q), .int .u64 (l3 Q)]) ∧ Below w.heap.size w w'))
    (B1 : Hid (∀ w, Calls Try.prog 35 #[.agg #[.int .u64 (l0 x), .int .u64 (l1 x), .int .u64 (l2 x), .int .u64 (l3 x)], .int .i64 n] w fun e w' => e = .returned (.int .i64 b) ∧ Below w.heap.size w w'))
    (K1 : Hid (∀ w, Calls Try.prog 36 #[.agg #[.int .u64 (l0 x), .int .u64 (l1 x), .int .u64 (l2 x), .int .u64 (l3 x)]] w fun e w' => e = .returned (.int .i64 k) ∧ Below w.heap.size w w'))
    (hb : b = 0 ∨ b = 1)
    (hk : (k = 0 ∧ (∀ w, (Op.equalIn 10000 24 (.agg #[.int .u64 (l0 x), .int .u64 (l1 x), .int .u64 (l2 x), .int .u64 (l3 x)]) (.agg #[.int .u64 (l0 0), .int .u64 (l1 0), .int .u64 (l2 0), .int .u64 (l3 0)])).run Try.prog w = .ok true w)) ∨ (1 ≤ k ∧ k ≤ 256 ∧ (∀ w, (Op.equalIn 10000 24 (.agg #[.int .u64 (l0 x), .int .u64 (l1 x), .int .u64 (l2 x), .int .u64 (l3 x)]) (.agg #[.int .u64 (l0 0), .int .u64 (l1 0), .int .u64 (l2 0), .int .u64 (l3 0)])).run Try.prog w = .ok false w) ∧ Hid (∀ w, Calls Try.prog 35 #[.agg #[.int .u64 (l0 x), .int .u64 (l1 x), .int .u64 (l2 x), .int .u64 (l3 x)], .int .i64 (k - 1)] w fun e w' => e = .returned (.int .i64 1) ∧ Below w.heap.size w w') ∧ Hid (∀ w, Calls Try.prog 33 #[.agg #[.int .u64 (l0 x), .int .u64 (l1 x), .int .u64 (l2 x), .int .u64 (l3 x)], .int .i64 (k - 1)] w fun e w' => e = .returned (.agg #[.int .u64 (l0 1), .int .u64 (l1 1), .int .u64 (l2 1), .int .u64 (l3 1)]) ∧ Below w.heap.size w w'))) :
    Calls Try.prog 7 #[.agg #[.int .u64 (l0 x), .int .u64 (l1 x), .int .u64 (l2 x), .int .u64 (l3 x)], .int .i64 n] w fun e w' => e = .returned (.bool true) ∧ Below w.heap.size w w' := by
  have zer : Word 0 := ⟨by decide, by decide⟩
  have one : Word 1 := ⟨by decide, by decide⟩
  have two : Word 2 := ⟨by decide, by decide⟩
  have ey : ∀ n w, (Op.equalIn 10000 24 (.agg #[.int .u64 (l0 n), .int .u64 (l1 n), .int .u64 (l2 n), .int .u64 (l3 n)]) (.agg #[.int .u64 (l0 n), .int .u64 (l1 n), .int .u64 (l2 n), .int .u64 (l3 n)])).run Try.prog w = .ok true w := fun n w => eq_yes w
  have FN : Hid (∀ w, Calls Try.prog 12 #[.int .u64 n] w fun e w' => e = .returned (.agg #[.int .u64 (l0 n), .int .u64 (l1 n), .int .u64 (l2 n), .int .u64 (l3 n)]) ∧ Below w.heap.size w w') := fun w => from_any ⟨h0, by omega⟩ w
  have S4 : Hid (∀ w, Calls Try.prog 33 #[.agg #[.int .u64 (l0 1), .int .u64 (l1 1), .int .u64 (l2 1), .int .u64 (l3 1)], .int .i64 1] w fun e w' => e = .returned (.agg #[.int .u64 (l0 0), .int .u64 (l1 0), .int .u64 (l2 0), .int .u64 (l3 0)]) ∧ Below w.heap.size w w') := fun w => shr_any (n := 1) (k := 1) ⟨by decide, by decide⟩ w
  go_enter Try.func7, Try.ntmps7
  go_wp2_with fail
  refine calls_world (fun W => Below w.heap.size w W ∧ Hold W w.heap.size x) ⟨?_, ?_⟩ ?_
  · repeat (first | with_reducible exact Below.refl _ _ | with_reducible refine Below.alloc ?_ (by first | omega | (simp; done) | (simp; omega)) _)
  · have := Hold.new w x 24
    (try simp at this)
    exact this
  rintro W ⟨B, hX⟩
  with_reducible refine (from_any two _).mono ?_
  rintro e w1 ⟨rfl, hb⟩
  replace B := B.trans (hb.mono B.size)
  replace hX := hX.keep hb
  clear hb W
  go_wp2_with fail
  refine calls_world (fun W => Below w.heap.size w W ∧ Hold W w.heap.size x) ⟨B, hX⟩ ?_
  clear B  hX 
  rintro W ⟨B, hX⟩
  with_reducible refine (FN.out _).mono ?_
  rintro e w2 ⟨rfl, hb⟩
  replace B := B.trans (hb.mono B.size)
  replace hX := hX.keep hb
  clear hb W
  go_wp2_with fail
  refine calls_world (fun W => Below w.heap.size w W ∧ Hold W w.heap.size x) ⟨B, hX⟩ ?_
  clear B  hX 
  rintro W ⟨B, hX⟩
  with_reducible refine (E1.out _).mono ?_
  rintro e w3 ⟨rfl, hb⟩
  replace B := B.trans (hb.mono B.size)
  replace hX := hX.keep hb
  clear hb W
  have ghX := hX.allocs
  go_wp2_with fail
  refine calls_world (fun W => Below w.heap.size w W ∧ Hold W w.heap.size x ∧ Hold W w3.heap.size P) ⟨B.alloc B.size _, hX.alloc _, Hold.new _ _ _⟩ ?_
  clear B  hX ghX
  rintro W ⟨B, hX, hP⟩
  generalize w3.heap.size = bp at *
  with_reducible refine (D1.out _).mono ?_
  rintro e w4 ⟨rfl, hb⟩
  replace B := B.trans (hb.mono B.size)
  replace hX := hX.keep hb; replace hP := hP.keep hb
  clear hb W
  go_wp2_with fail
  refine wp_world (fun W => Below w.heap.size w W ∧ Hold W w.heap.size x ∧ Hold W bp P ∧ Hold W w4.heap.size Q ∧ Hold W (w4.heap.size + 1) R) ⟨(B.alloc B.size _).alloc (by have := B.size; simp; omega) _, (hX.alloc _).alloc _, (hP.alloc _).alloc _, (Hold.new _ _ _).alloc _, ?_⟩ ?_
  · have := Hold.new (w4.alloc (.cells #[.int .u64 (l0 Q), .int .u64 (l1 Q), .int .u64 (l2 Q), .int .u64 (l3 Q)] 24)) R 24
    simp at this
    exact this
  clear B  hX hP 
  rintro W ⟨B, hX, hP, hQ, hR⟩
  generalize w4.heap.size + 1 = br at *
  generalize w4.heap.size = bq at *
  clear hR
  have ghQ := hQ.cells
  have lthX : w.heap.size < W.heap.size := World.block_lt_of_cell? W _ hX.1
  have lthP : bp < W.heap.size := World.block_lt_of_cell? W _ hP.1
  have lthQ : bq < W.heap.size := World.block_lt_of_cell? W _ hQ.1
  have BB : Hid (Below w.heap.size w W) := B
  have QhX : Hid (Hold W w.heap.size x) := hX
  have QhP : Hid (Hold W bp P) := hP
  have QhQ : Hid (Hold W bq Q) := hQ
  have geB : w.heap.size ≤ W.heap.size := B.size
  clear B hX hP hQ
  generalize hbx : w.heap.size = bx at *
  refine wp_out (fun a' W' => ∃ bg bo, Below bx w W' ∧ Hold W' bx x ∧ Hold W' bp P ∧ Hold W' bq Q ∧ Hold W' bo b ∧ a' = { tmps := #[.agg #[.int .u64 (l0 x), .int .u64 (l1 x), .int .u64 (l2 x), .int .u64 (l3 x)], .int .i64 n, .pointer (some { block := bx, off := 0 }), Go.undef, .bool false, .pointer (some { block := bp, off := 0 }), .pointer (some { block := bq, off := 0 }), .pointer (some { block := br, off := 0 }), .int .i64 0, .pointer (some { block := bg, off := 0 }), .pointer (some { block := bo, off := 0 }), .int .i64 0, Go.undef, .int .i64 n, .bool (decide (n < 0)), .bool (decide (n < 0)), .int .i64 n, .bool (decide (255 < n)), .bool (decide (n < 0) || decide (255 < n)), Go.undef, Go.undef, Go.undef, Go.undef, Go.undef, Go.undef, Go.undef, Go.undef, Go.undef, Go.undef, Go.undef, Go.undef, .agg #[.int .u64 (l0 2), .int .u64 (l1 2), .int .u64 (l2 2), .int .u64 (l3 2)], .int .i64 n, .int .u64 n, .agg #[.int .u64 (l0 n), .int .u64 (l1 n), .int .u64 (l2 n), .int .u64 (l3 n)], .agg #[.int .u64 (l0 P), .int .u64 (l1 P), .int .u64 (l2 P), .int .u64 (l3 P)], .tuple #[.agg #[.int .u64 (l0 Q), .int .u64 (l1 Q), .int .u64 (l2 Q), .int .u64 (l3 Q)], .agg #[.int .u64 (l0 R), .int .u64 (l1 R), .int .u64 (l2 R), .int .u64 (l3 R)], .int .i64 0], .agg #[.int .u64 (l0 x), .int .u64 (l1 x), .int .u64 (l2 x), .int .u64 (l3 x)], .agg #[.int .u64 (l0 P), .int .u64 (l1 P), .int .u64 (l2 P), .int .u64 (l3 P)], .tuple #[.agg #[.int .u64 (l0 Q), .int .u64 (l1 Q), .int .u64 (l2 Q), .int .u64 (l3 Q)], .agg #[.int .u64 (l0 R), .int .u64 (l1 R), .int .u64 (l2 R), .int .u64 (l3 R)], .int .i64 0], .agg #[.int .u64 (l0 Q), .int .u64 (l1 Q), .int .u64 (l2 Q), .int .u64 (l3 Q)], .agg #[.int .u64 (l0 R), .int .u64 (l1 R), .int .u64 (l2 R), .int .u64 (l3 R)], .int .i64 0, .tuple #[.agg #[.int .u64 (l0 H), .int .u64 (l1 H), .int .u64 (l2 H), .int .u64 (l3 H)], .agg #[.int .u64 (l0 b), .int .u64 (l1 b), .int .u64 (l2 b), .int .u64 (l3 b)], .int .i64 0], .agg #[.int .u64 (l0 Q), .int .u64 (l1 Q), .int .u64 (l2 Q), .int .u64 (l3 Q)], .agg #[.int .u64 (l0 2), .int .u64 (l1 2), .int .u64 (l2 2), .int .u64 (l3 2)], .tuple #[.agg #[.int .u64 (l0 H), .int .u64 (l1 H), .int .u64 (l2 H), .int .u64 (l3 H)], .agg #[.int .u64 (l0 b), .int .u64 (l1 b), .int .u64 (l2 b), .int .u64 (l3 b)], .int .i64 0], .agg #[.int .u64 (l0 H), .int .u64 (l1 H), .int .u64 (l2 H), .int .u64 (l3 H)], .agg #[.int .u64 (l0 b), .int .u64 (l1 b), .int .u64 (l2 b), .int .u64 (l3 b)], .int .i64 0, Go.undef, Go.undef, Go.undef, Go.undef, Go.undef, Go.undef, Go.undef, Go.undef, Go.undef, Go.undef, Go.undef, Go.undef, Go.undef, Go.undef, Go.undef, Go.undef, Go.undef, Go.undef, Go.undef, Go.undef, Go.undef, Go.undef, Go.undef, Go.undef, Go.undef, Go.undef, Go.undef, Go.undef, Go.undef, Go.undef, Go.undef, Go.undef, Go.undef, Go.undef, Go.undef, Go.undef, Go.undef, Go.undef, Go.undef, Go.undef, Go.undef, Go.undef, Go.undef, Go.undef, Go.undef, Go.undef, Go.undef, Go.undef, Go.undef, Go.undef, Go.undef, Go.undef, Go.undef, Go.undef, Go.undef, Go.undef, Go.undef, Go.undef, Go.undef, Go.undef, Go.undef, Go.undef, Go.undef, Go.undef, Go.undef], defers := [] }) ?_ ?_
  ·
    clear D1 E1 S1 L1 S2 B1 K1 hb hk ey S4 h0 h1 FN
    have _ : bx < W.heap.size := by omega
    have _ : bx ≤ W.heap.size := by omega
    have _ : bx < W.heap.size + 1 := by omega
    have _ : bx < W.heap.size + 1 + 1 := by omega
    have _ : bx ≠ W.heap.size := by omega
    have _ : W.heap.size ≠ bx := by omega
    have _ : bx ≠ W.heap.size + 1 := by omega
    have _ : W.heap.size + 1 ≠ bx := by omega
    have _ : bp < W.heap.size := by omega
    have _ : bp ≤ W.heap.size := by omega
    have _ : bp < W.heap.size + 1 := by omega
    have _ : bp < W.heap.size + 1 + 1 := by omega
    have _ : bp ≠ W.heap.size := by omega
    have _ : W.heap.size ≠ bp := by omega
    have _ : bp ≠ W.heap.size + 1 := by omega
    have _ : W.heap.size + 1 ≠ bp := by omega
    have _ : bq < W.heap.size := by omega
    have _ : bq ≤ W.heap.size := by omega
    have _ : bq < W.heap.size + 1 := by omega
    have _ : bq < W.heap.size + 1 + 1 := by omega
    have _ : bq ≠ W.heap.size := by omega
    have _ : W.heap.size ≠ bq := by omega
    have _ : bq ≠ W.heap.size + 1 := by omega
    have _ : W.heap.size + 1 ≠ bq := by omega
    have dz : W.drew.heap.size = W.heap.size := rfl
    go_region_held3 (fun w' => w'.cell? ⟨bq, 0, none⟩ = some (.int .u64 (l0 Q)) ∧ w'.cell? ⟨bq, 1, none⟩ = some (.int .u64 (l1 Q)) ∧ w'.cell? ⟨bq, 2, none⟩ = some (.int .u64 (l2 Q)) ∧ w'.cell? ⟨bq, 3, none⟩ = some (.int .u64 (l3 Q))) (((try dsimp only); (repeat' (apply And.intro)); (all_goals repeat (first | with_reducible assumption | with_reducible apply cell_keep hb2 | with_reducible apply cell_keep hb1 | with_reducible apply cell_alloc | (with_reducible refine cell_set ?_ (by with_reducible assumption)) | (simp [go_sem, *]; done)))))
      (first
        | (go_at_call 12; with_reducible refine (from_any two _).mono ?_; rintro e w1 ⟨rfl, hb1⟩; have hc1 := oldCells hb1; have hz1 := hb1.size; (try simp at hz1); (try (have := fun j => oldCells hb1 (W.heap.size) j (by first | omega | (simp; done) | (simp; omega)))); (try (have := fun j => oldCells hb1 (W.heap.size + 1) j (by first | omega | (simp; done) | (simp; omega)))); have _ : bx < w1.heap.size := (by omega); have _ : bx ≤ w1.heap.size := (by omega); have _ : bx < w1.heap.size + 1 := (by omega); have _ : bx < w1.heap.size + 1 + 1 := (by omega); have _ : bx ≠ w1.heap.size := (by omega); have _ : w1.heap.size ≠ bx := (by omega); have _ : bx ≠ w1.heap.size + 1 := (by omega); have _ : w1.heap.size + 1 ≠ bx := (by omega); have _ : bp < w1.heap.size := (by omega); have _ : bp ≤ w1.heap.size := (by omega); have _ : bp < w1.heap.size + 1 := (by omega); have _ : bp < w1.heap.size + 1 + 1 := (by omega); have _ : bp ≠ w1.heap.size := (by omega); have _ : w1.heap.size ≠ bp := (by omega); have _ : bp ≠ w1.heap.size + 1 := (by omega); have _ : w1.heap.size + 1 ≠ bp := (by omega); have _ : bq < w1.heap.size := (by omega); have _ : bq ≤ w1.heap.size := (by omega); have _ : bq < w1.heap.size + 1 := (by omega); have _ : bq < w1.heap.size + 1 + 1 := (by omega); have _ : bq ≠ w1.heap.size := (by omega); have _ : w1.heap.size ≠ bq := (by omega); have _ : bq ≠ w1.heap.size + 1 := (by omega); have _ : w1.heap.size + 1 ≠ bq := (by omega); (try (have _ : W.heap.size < w1.heap.size := (by omega))); (try (have _ : W.heap.size ≤ w1.heap.size := (by omega))); (try (have _ : W.heap.size ≠ w1.heap.size := (by omega))); (try (have _ : w1.heap.size ≠ W.heap.size := (by omega))); (try (have _ : W.heap.size < w1.heap.size + 1 := (by omega))); (try (have _ : W.heap.size + 1 < w1.heap.size := (by omega))); (try (have _ : W.heap.size + 1 ≤ w1.heap.size := (by omega))); (try (have _ : W.heap.size + 1 ≠ w1.heap.size := (by omega))); (try (have _ : w1.heap.size ≠ W.heap.size + 1 := (by omega))); (try (have _ : W.heap.size + 1 < w1.heap.size + 1 := (by omega))))
        | (go_at_call 29; refine (D2.out _).mono ?_; rintro e w2 ⟨rfl, hb2⟩; have hc2 := oldCells hb2; have hz2 := hb2.size; (try simp at hz2); (try (have := fun j => oldCells hb2 (W.heap.size) j (by first | omega | (simp; done) | (simp; omega)))); (try (have := fun j => oldCells hb2 (W.heap.size + 1) j (by first | omega | (simp; done) | (simp; omega)))); (try (have := fun j => oldCells hb2 (w1.heap.size) j (by first | omega | (simp; done) | (simp; omega)))); (try (have := fun j => oldCells hb2 (w1.heap.size + 1) j (by first | omega | (simp; done) | (simp; omega)))); have _ : bx < w2.heap.size := (by omega); have _ : bx ≤ w2.heap.size := (by omega); have _ : bx < w2.heap.size + 1 := (by omega); have _ : bx < w2.heap.size + 1 + 1 := (by omega); have _ : bx ≠ w2.heap.size := (by omega); have _ : w2.heap.size ≠ bx := (by omega); have _ : bx ≠ w2.heap.size + 1 := (by omega); have _ : w2.heap.size + 1 ≠ bx := (by omega); have _ : bp < w2.heap.size := (by omega); have _ : bp ≤ w2.heap.size := (by omega); have _ : bp < w2.heap.size + 1 := (by omega); have _ : bp < w2.heap.size + 1 + 1 := (by omega); have _ : bp ≠ w2.heap.size := (by omega); have _ : w2.heap.size ≠ bp := (by omega); have _ : bp ≠ w2.heap.size + 1 := (by omega); have _ : w2.heap.size + 1 ≠ bp := (by omega); have _ : bq < w2.heap.size := (by omega); have _ : bq ≤ w2.heap.size := (by omega); have _ : bq < w2.heap.size + 1 := (by omega); have _ : bq < w2.heap.size + 1 + 1 := (by omega); have _ : bq ≠ w2.heap.size := (by omega); have _ : w2.heap.size ≠ bq := (by omega); have _ : bq ≠ w2.heap.size + 1 := (by omega); have _ : w2.heap.size + 1 ≠ bq := (by omega); (try (have _ : W.heap.size < w2.heap.size := (by omega))); (try (have _ : W.heap.size ≤ w2.heap.size := (by omega))); (try (have _ : W.heap.size ≠ w2.heap.size := (by omega))); (try (have _ : w2.heap.size ≠ W.heap.size := (by omega))); (try (have _ : W.heap.size < w2.heap.size + 1 := (by omega))); (try (have _ : W.heap.size + 1 < w2.heap.size := (by omega))); (try (have _ : W.heap.size + 1 ≤ w2.heap.size := (by omega))); (try (have _ : W.heap.size + 1 ≠ w2.heap.size := (by omega))); (try (have _ : w2.heap.size ≠ W.heap.size + 1 := (by omega))); (try (have _ : W.heap.size + 1 < w2.heap.size + 1 := (by omega))); (try (have _ : w1.heap.size < w2.heap.size := (by omega))); (try (have _ : w1.heap.size ≤ w2.heap.size := (by omega))); (try (have _ : w1.heap.size ≠ w2.heap.size := (by omega))); (try (have _ : w2.heap.size ≠ w1.heap.size := (by omega))); (try (have _ : w1.heap.size < w2.heap.size + 1 := (by omega))); (try (have _ : w1.heap.size + 1 < w2.heap.size := (by omega))); (try (have _ : w1.heap.size + 1 ≤ w2.heap.size := (by omega))); (try (have _ : w1.heap.size + 1 ≠ w2.heap.size := (by omega))); (try (have _ : w2.heap.size ≠ w1.heap.size + 1 := (by omega))); (try (have _ : w1.heap.size + 1 < w2.heap.size + 1 := (by omega)))))
    all_goals (refine OutQ.intro ⟨_, _, ?_, ?_, ?_, ?_, ?_, rfl⟩)
    all_goals repeat (first | with_reducible exact QhX.out | with_reducible exact QhP.out | with_reducible exact QhQ.out | with_reducible exact BB.out | with_reducible refine Hold.fresh (by first | rfl | (simp; done) | fail) | with_reducible refine Hold.sets4 ?_ | with_reducible refine Hold.alloc ?_ _ | with_reducible refine Hold.drew ?_ | with_reducible refine Hold.set ?_ (by first | with_reducible assumption | exact Nat.succ_ne_self _ | exact (Nat.succ_ne_self _).symm) _ | with_reducible refine Has.fresh (by first | rfl | (simp; done) | fail) (by first | (simp; done) | fail) | with_reducible refine Has.alloc ?_ _ | with_reducible refine Has.set ?_ _ _ | with_reducible refine Has.drew ?_ | with_reducible refine below_alloc hbx ?_ _ | with_reducible refine Below.drew ?_ | with_reducible refine Below.setCell ?_ (by first | with_reducible assumption | exact Nat.le_succ_of_le (by with_reducible assumption)) _ | with_reducible refine Hold.keep ?_ hb2 | with_reducible refine Has.keep ?_ hb2 | with_reducible refine below_then hbx ?_ hb2 | with_reducible refine Hold.keep ?_ hb1 | with_reducible refine Has.keep ?_ hb1 | with_reducible refine below_then hbx ?_ hb1)
  rintro _ W ⟨bg, bo, B, hX, hP, hQ, hO, rfl⟩
  subst hbx
  clear BB geB QhX lthX QhP lthP QhQ lthQ ghQ
  rcases hb with rfl | rfl
  all_goals
    go_wp2_with fail
    have ghX := hX.grown
    have ghP := hP.grown
    have ghQ := hQ.grown
    have ghO := hO.grown
    refine wp_region_quiet_below (by kernel_rfl) (by kernel_rfl) ?_
    repeat
      first
        | go_big_quiet_skip
        | (go_big_quiet_want; go_big_quiet_op; go_big_quiet_on)
        | (go_big_quiet_want
           go_big_quiet_op
           apply Exists.intro
           refine ⟨fun p => ?_, ?_⟩
           · (first | (go_at_call 32; exact Calls.regrown_of (S1.out _)) | (go_at_call 15; exact Calls.regrown_of (L1.out _)) | (go_at_call 33; exact Calls.regrown_of (S2.out _)) | (go_at_call 35; exact Calls.regrown_of (B1.out _)) | (go_at_call 12; exact Calls.regrown_of (from_any (by first | exact zer | exact one) _)))
           go_big_quiet_on)
    refine wpQuiet_nil ?_
    rintro w5 ⟨p, rfl⟩
    have hb := below_regrown W p.d p.os
    generalize grow (redrawn W p.d) p.os = w5 at *
    replace B := B.trans (hb.mono B.size)
    replace hX := hX.keep hb; replace hP := hP.keep hb; replace hQ := hQ.keep hb; replace hO := hO.keep hb
    clear hb W ghX ghP ghQ ghO
    clear hP hQ hO
    have ghX := hX.cells
    go_wp2_with fail
    clear ghX
    with_reducible refine (K1.out _).mono ?_
    rintro e w6 ⟨rfl, hb⟩
    replace B := B.trans (hb.mono B.size)
    replace hX := hX.keep hb
    clear hb w5
    go_wp2_with fail
    refine wp_world (fun W => Below w.heap.size w W ∧ Hold W w.heap.size x) ⟨B, hX⟩ ?_
    clear B  hX 
    rintro W ⟨B, hX⟩
    rcases hk with ⟨rfl, en⟩ | ⟨k0, k1, en, B2, S3⟩
    ·
      have ghX := hX.grown
      refine wp_region_quiet_below (by kernel_rfl) (by kernel_rfl) ?_
      repeat
        first
          | go_big_quiet_skip
          | (go_big_quiet_want; go_big_quiet_op; go_big_quiet_on)
          | (go_big_quiet_want
             go_big_quiet_op
             apply Exists.intro
             refine ⟨fun p => ?_, ?_⟩
             · (first | (go_at_call 12; exact Calls.regrown_of (from_any (by first | exact zer | exact one) _)))
             go_big_quiet_on)
      refine wpQuiet_nil ?_
      rintro w7 ⟨p, rfl⟩
      have hb := below_regrown W p.d p.os
      generalize grow (redrawn W p.d) p.os = w7 at *
      replace B := B.trans (hb.mono B.size)
      replace hX := hX.keep hb
      clear hb W ghX
      go_wp2
      go_ret
      exact ⟨rfl, B⟩
    ·
      have dk0 : decide (k < 0) = false := decide_eq_false (by omega)
      have dk1 : decide (256 < k) = false := decide_eq_false (by omega)
      have dk2 : decide (k = 0) = false := decide_eq_false (by omega)
      have dk3 : (k == 0) = false := by simp; omega
      have ghX := hX.grown
      refine wp_region_quiet_below (by kernel_rfl) (by kernel_rfl) ?_
      repeat
        first
          | go_big_quiet_skip
          | (go_big_quiet_want; go_big_quiet_op; go_big_quiet_on)
          | (go_big_quiet_want
             go_big_quiet_op
             apply Exists.intro
             refine ⟨fun p => ?_, ?_⟩
             · (first | (go_at_call 12; exact Calls.regrown_of (from_any (by first | exact zer | exact one) _)))
             go_big_quiet_on)
      refine wpQuiet_nil ?_
      rintro w8 ⟨p, rfl⟩
      have hb := below_regrown W p.d p.os
      generalize grow (redrawn W p.d) p.os = w8 at *
      replace B := B.trans (hb.mono B.size)
      replace hX := hX.keep hb
      clear hb W ghX
      have ghX := hX.cells
      go_wp2_with fail
      clear ghX
      with_reducible refine (B2.out _).mono ?_
      rintro e w9 ⟨rfl, hb⟩
      replace B := B.trans (hb.mono B.size)
      replace hX := hX.keep hb
      clear hb w8
      have ghX := hX.cells
      go_wp2_with fail
      refine calls_world (fun W => Below w.heap.size w W ∧ Hold W w.heap.size x) ⟨B, hX⟩ ?_
      clear B  hX ghX
      rintro W ⟨B, hX⟩
      with_reducible refine (S3.out _).mono ?_
      rintro e w10 ⟨rfl, hb⟩
      replace B := B.trans (hb.mono B.size)
      replace hX := hX.keep hb
      clear hb W
      go_wp2_with fail
      refine calls_world (fun W => Below w.heap.size w W ∧ Hold W w.heap.size x) ⟨B, hX⟩ ?_
      clear B  hX 
      rintro W ⟨B, hX⟩
      with_reducible refine (S4.out _).mono ?_
      rintro e w11 ⟨rfl, hb⟩
      replace B := B.trans (hb.mono B.size)
      replace hX := hX.keep hb
      clear hb W
      go_wp2_with fail
      refine calls_world (fun W => Below w.heap.size w W ∧ Hold W w.heap.size x) ⟨B, hX⟩ ?_
      clear B  hX 
      rintro W ⟨B, hX⟩
      with_reducible refine (from_any zer _).mono ?_
      rintro e we ⟨rfl, hb⟩
      replace B := B.trans (hb.mono B.size)
      replace hX := hX.keep hb
      clear hb W
      go_wp2
      go_ret
      exact ⟨rfl, B⟩

set_option maxRecDepth 100000 in
set_option maxHeartbeats 8000000 in
theorem shifts_out {x n : Int} (hx : Num x) (h0 : -9223372036854775808 ≤ n) (h1 : n ≤ 9223372036854775807) (h : n < 0 ∨ 255 < n) (w : World) :
    Calls Try.prog 7 #[.agg #[.int .u64 (l0 x), .int .u64 (l1 x), .int .u64 (l2 x), .int .u64 (l3 x)], .int .i64 n] w fun e w' => e = .returned (.bool true) ∧ Below w.heap.size w w' := by
  have ey : ∀ n w, (Op.equalIn 10000 24 (.agg #[.int .u64 (l0 n), .int .u64 (l1 n), .int .u64 (l2 n), .int .u64 (l3 n)]) (.agg #[.int .u64 (l0 n), .int .u64 (l1 n), .int .u64 (l2 n), .int .u64 (l3 n)])).run Try.prog w = .ok true w := fun n w => eq_yes w
  have S1 : Hid (∀ w, Calls Try.prog 32 #[.agg #[.int .u64 (l0 x), .int .u64 (l1 x), .int .u64 (l2 x), .int .u64 (l3 x)], .int .i64 n] w fun e w' => e = .returned (.agg #[.int .u64 (l0 (shlN x n)), .int .u64 (l1 (shlN x n)), .int .u64 (l2 (shlN x n)), .int .u64 (l3 (shlN x n))]) ∧ Below w.heap.size w w') := fun w => shl_any hx w
  have S2 : Hid (∀ w, Calls Try.prog 33 #[.agg #[.int .u64 (l0 x), .int .u64 (l1 x), .int .u64 (l2 x), .int .u64 (l3 x)], .int .i64 (wrap64 (-n))] w fun e w' => e = .returned (.agg #[.int .u64 (l0 (shlN x n)), .int .u64 (l1 (shlN x n)), .int .u64 (l2 (shlN x n)), .int .u64 (l3 (shlN x n))]) ∧ Below w.heap.size w w') := fun w => by rw [← IntWalk.i64_left, shl_shr hx h0 h1]; exact shr_any hx w
  generalize shlN x n = L at *
  clear h0 h1 hx
  have hh : n < 0 ∨ (¬ n < 0 ∧ 255 < n) := by omega
  clear h
  rcases hh with h | ⟨h', h⟩
  all_goals
    go_enter Try.func7, Try.ntmps7
    go_wp2_with fail
    refine wp_world (fun W => Below w.heap.size w W ∧ Hold W w.heap.size x) ⟨?_, ?_⟩ ?_
    · repeat (first | with_reducible exact Below.refl _ _ | with_reducible refine Below.alloc ?_ (by first | omega | (simp; done) | (simp; omega)) _)
    · have := Hold.new w x 24
      (try simp at this)
      exact this
    rintro W ⟨B, hX⟩
    have ghX := hX.grown
    refine wp_region_quiet_below (by kernel_rfl) (by kernel_rfl) ?_
    repeat
      first
        | go_big_quiet_skip
        | (go_big_quiet_want; go_big_quiet_op; go_big_quiet_on)
        | (go_big_quiet_want
           go_big_quiet_op
           apply Exists.intro
           refine ⟨fun p => ?_, ?_⟩
           · (first | (go_at_call 32; exact Calls.regrown_of (S1.out _)) | (go_at_call 33; exact Calls.regrown_of (S2.out _)))
           go_big_quiet_on)
    refine wpQuiet_nil ?_
    rintro w1 ⟨p, rfl⟩
    have hb := below_regrown W p.d p.os
    generalize grow (redrawn W p.d) p.os = w1 at *
    replace B := B.trans (hb.mono B.size)
    replace hX := hX.keep hb
    clear hb W ghX
    go_wp2
    go_ret
    exact ⟨rfl, B⟩

theorem shifts_any {x n : Int} (hx : Num x) (h0 : -9223372036854775808 ≤ n) (h1 : n ≤ 9223372036854775807) (w : World) :
    Calls Try.prog 7 #[.agg #[.int .u64 (l0 x), .int .u64 (l1 x), .int .u64 (l2 x), .int .u64 (l3 x)], .int .i64 n] w fun e w' => e = .returned (.bool true) ∧ Below w.heap.size w w' := by
  by_cases c : n < 0 ∨ 255 < n
  · exact shifts_out hx h0 h1 c w
  · have n0 : 0 ≤ n := by omega
    have n1 : n ≤ 255 := by omega
    obtain ⟨e1, np, pz, e2, e3, e4, nq⟩ := shifts_num hx n0 n1
    have N2 : Num 2 := ⟨by decide, by decide⟩
    refine shifts_walk (x := x) (n := n) (P := 2 ^ n.toNat) (Q := x / 2 ^ n.toNat) (R := x % 2 ^ n.toNat) (H := x / 2 ^ n.toNat / 2) (b := x / 2 ^ n.toNat % 2) (L := shlN x n) (k := lenN x) n0 n1 w ?_ ?_ ?_ ?_ ?_ ?_ ?_ ?_ ?_ ?_
    · intro w; have := exp_any N2 (show Num n from ⟨n0, by omega⟩) w; rw [e1] at this; exact this
    · intro w; exact divMod_some hx np pz w
    · intro w; exact divMod_some nq N2 (by decide) w
    · intro w; exact shl_any hx w
    · intro w; have := low_any hx np w; rw [e2] at this; exact this
    · intro w; have := shr_any (k := n) hx w; rw [e3] at this; exact this
    · intro w; have := bit_any (k := n) hx w; rw [e4] at this; exact this
    · intro w; exact len_any hx w
    · omega
    · by_cases z : x = 0
      · subst z
        exact .inl ⟨by decide, fun w => eq_yes w⟩
      · obtain ⟨k, ek, k0, k1, eb, es⟩ := len_facts hx z
        rw [ek]
        refine .inr ⟨k0, k1, fun w => eq_no hx Num_zero z w, fun w => ?_, fun w => ?_⟩
        · have := bit_any (k := k - 1) hx w; rw [eb] at this; exact this
        · have := shr_any (k := k - 1) hx w; rw [es] at this; exact this

end Go.Proofs.Ytjjimkhppoppbaa

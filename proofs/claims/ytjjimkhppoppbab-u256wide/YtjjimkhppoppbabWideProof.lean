import Derived.Test.YtjjimkhppoppbabMods
import Derived.Test.YtjjimkhppoppbabOpen
namespace Go.Proofs.Ytjjimkhppoppbab
open Go.RowKit Go.Sort

set_option maxRecDepth 100000 in
set_option maxHeartbeats 8000000 in
theorem wide_walk {n m k a1 e1 a2 e2 a3 e3 a4 e4 : Int} (w : World)
    (RD : Hid (∀ w, Calls Try.prog 25 #[.agg #[.int .u64 (l0 n), .int .u64 (l1 n), .int .u64 (l2 n), .int .u64 (l3 n)], .agg #[.int .u64 (l0 m), .int .u64 (l1 m), .int .u64 (l2 m), .int .u64 (l3 m)], .agg #[.int .u64 (l0 k), .int .u64 (l1 k), .int .u64 (l2 k), .int .u64 (l3 k)]] w fun e w' => e = .returned (.tuple #[.agg #[.int .u64 (l0 a1), .int .u64 (l1 a1), .int .u64 (l2 a1), .int .u64 (l3 a1)], .int .i64 e1]) ∧ Below w.heap.size w w')) (RDr : Hid (∀ w, Calls Try.prog 26 #[.agg #[.int .u64 (l0 n), .int .u64 (l1 n), .int .u64 (l2 n), .int .u64 (l3 n)], .agg #[.int .u64 (l0 m), .int .u64 (l1 m), .int .u64 (l2 m), .int .u64 (l3 m)], .agg #[.int .u64 (l0 k), .int .u64 (l1 k), .int .u64 (l2 k), .int .u64 (l3 k)]] w fun e w' => e = .returned (.tuple #[.agg #[.int .u64 (l0 a1), .int .u64 (l1 a1), .int .u64 (l2 a1), .int .u64 (l3 a1)], .int .i64 e1]) ∧ Below w.heap.size w w'))
    (MD : Hid (∀ w, Calls Try.prog 27 #[.agg #[.int .u64 (l0 n), .int .u64 (l1 n), .int .u64 (l2 n), .int .u64 (l3 n)], .agg #[.int .u64 (l0 m), .int .u64 (l1 m), .int .u64 (l2 m), .int .u64 (l3 m)], .agg #[.int .u64 (l0 k), .int .u64 (l1 k), .int .u64 (l2 k), .int .u64 (l3 k)]] w fun e w' => e = .returned (.tuple #[.agg #[.int .u64 (l0 a2), .int .u64 (l1 a2), .int .u64 (l2 a2), .int .u64 (l3 a2)], .int .i64 e2]) ∧ Below w.heap.size w w')) (MDr : Hid (∀ w, Calls Try.prog 28 #[.agg #[.int .u64 (l0 n), .int .u64 (l1 n), .int .u64 (l2 n), .int .u64 (l3 n)], .agg #[.int .u64 (l0 m), .int .u64 (l1 m), .int .u64 (l2 m), .int .u64 (l3 m)], .agg #[.int .u64 (l0 k), .int .u64 (l1 k), .int .u64 (l2 k), .int .u64 (l3 k)]] w fun e w' => e = .returned (.tuple #[.agg #[.int .u64 (l0 a2), .int .u64 (l1 a2), .int .u64 (l2 a2), .int .u64 (l3 a2)], .int .i64 e2]) ∧ Below w.heap.size w w'))
    (AM : Hid (∀ w, Calls Try.prog 29 #[.agg #[.int .u64 (l0 n), .int .u64 (l1 n), .int .u64 (l2 n), .int .u64 (l3 n)], .agg #[.int .u64 (l0 m), .int .u64 (l1 m), .int .u64 (l2 m), .int .u64 (l3 m)], .agg #[.int .u64 (l0 k), .int .u64 (l1 k), .int .u64 (l2 k), .int .u64 (l3 k)]] w fun e w' => e = .returned (.tuple #[.agg #[.int .u64 (l0 a3), .int .u64 (l1 a3), .int .u64 (l2 a3), .int .u64 (l3 a3)], .int .i64 e3]) ∧ Below w.heap.size w w')) (AMr : Hid (∀ w, Calls Try.prog 30 #[.agg #[.int .u64 (l0 n), .int .u64 (l1 n), .int .u64 (l2 n), .int .u64 (l3 n)], .agg #[.int .u64 (l0 m), .int .u64 (l1 m), .int .u64 (l2 m), .int .u64 (l3 m)], .agg #[.int .u64 (l0 k), .int .u64 (l1 k), .int .u64 (l2 k), .int .u64 (l3 k)]] w fun e w' => e = .returned (.tuple #[.agg #[.int .u64 (l0 a3), .int .u64 (l1 a3), .int .u64 (l2 a3), .int .u64 (l3 a3)], .int .i64 e3]) ∧ Below w.heap.size w w'))
    (MM : Hid (∀ w, Calls Try.prog 31 #[.agg #[.int .u64 (l0 n), .int .u64 (l1 n), .int .u64 (l2 n), .int .u64 (l3 n)], .agg #[.int .u64 (l0 m), .int .u64 (l1 m), .int .u64 (l2 m), .int .u64 (l3 m)], .agg #[.int .u64 (l0 k), .int .u64 (l1 k), .int .u64 (l2 k), .int .u64 (l3 k)]] w fun e w' => e = .returned (.tuple #[.agg #[.int .u64 (l0 a4), .int .u64 (l1 a4), .int .u64 (l2 a4), .int .u64 (l3 a4)], .int .i64 e4]) ∧ Below w.heap.size w w')) (MMr : Hid (∀ w, Calls Try.prog 32 #[.agg #[.int .u64 (l0 n), .int .u64 (l1 n), .int .u64 (l2 n), .int .u64 (l3 n)], .agg #[.int .u64 (l0 m), .int .u64 (l1 m), .int .u64 (l2 m), .int .u64 (l3 m)], .agg #[.int .u64 (l0 k), .int .u64 (l1 k), .int .u64 (l2 k), .int .u64 (l3 k)]] w fun e w' => e = .returned (.tuple #[.agg #[.int .u64 (l0 a4), .int .u64 (l1 a4), .int .u64 (l2 a4), .int .u64 (l3 a4)], .int .i64 e4]) ∧ Below w.heap.size w w')) :
    Calls Try.prog 5 #[.agg #[.int .u64 (l0 n), .int .u64 (l1 n), .int .u64 (l2 n), .int .u64 (l3 n)], .agg #[.int .u64 (l0 m), .int .u64 (l1 m), .int .u64 (l2 m), .int .u64 (l3 m)], .agg #[.int .u64 (l0 k), .int .u64 (l1 k), .int .u64 (l2 k), .int .u64 (l3 k)]] w fun e w' => e = .returned (.bool true) ∧ Below w.heap.size w w' := by
  have ey : ∀ n w, (Op.equalIn 10000 24 (.agg #[.int .u64 (l0 n), .int .u64 (l1 n), .int .u64 (l2 n), .int .u64 (l3 n)]) (.agg #[.int .u64 (l0 n), .int .u64 (l1 n), .int .u64 (l2 n), .int .u64 (l3 n)])).run Try.prog w = .ok true w := fun n w => eq_yes w
  go_enter Try.func5, Try.ntmps5
  go_wp2_with fail
  refine calls_world (fun W => Below w.heap.size w W ∧ Hold W w.heap.size n ∧ Hold W (w.heap.size + 1) m ∧ Hold W (w.heap.size + 1 + 1) k) ⟨?_, ?_, ?_, ?_⟩ ?_
  · repeat (first | with_reducible exact Below.refl _ _ | with_reducible refine Below.alloc ?_ (by first | omega | (simp; done) | (simp; omega)) _)
  · have := Hold.new w n 24
    (try simp at this)
    exact ((this.alloc _).alloc _)
  · have := Hold.new (w.alloc (.cells #[.int .u64 (l0 n), .int .u64 (l1 n), .int .u64 (l2 n), .int .u64 (l3 n)] 24)) m 24
    (try simp at this)
    exact (this.alloc _)
  · have := Hold.new ((w.alloc (.cells #[.int .u64 (l0 n), .int .u64 (l1 n), .int .u64 (l2 n), .int .u64 (l3 n)] 24)).alloc (.cells #[.int .u64 (l0 m), .int .u64 (l1 m), .int .u64 (l2 m), .int .u64 (l3 m)] 24)) k 24
    (try simp at this)
    exact this
  rintro W ⟨B, hX, hY, hZ⟩
  generalize w.heap.size + 1 + 1 = bz at *
  generalize w.heap.size + 1 = bw at *
  with_reducible refine (RD.out _).mono ?_
  rintro e w1 ⟨rfl, hb⟩
  replace B := B.trans (hb.mono B.size)
  replace hX := hX.keep hb; replace hY := hY.keep hb; replace hZ := hZ.keep hb
  clear hb W
  have geba : w.heap.size ≤ w1.heap.size := by have := B.size; omega
  have _ : w.heap.size ≠ w1.heap.size := by have : w.heap.size < w1.heap.size := World.block_lt_of_cell? _ _ hX.1; omega
  have _ : bw ≠ w1.heap.size := by have : bw < w1.heap.size := World.block_lt_of_cell? _ _ hY.1; omega
  have _ : bz ≠ w1.heap.size := by have : bz < w1.heap.size := World.block_lt_of_cell? _ _ hZ.1; omega
  have ghX := hX.allocs
  have ghY := hY.allocs
  have ghZ := hZ.allocs
  go_wp2_with fail
  refine calls_world (fun W => Below w.heap.size w W ∧ Hold W w.heap.size n ∧ Hold W bw m ∧ Hold W bz k ∧ Hold W w1.heap.size a1 ∧ Loose W w1.heap.size 4) ⟨B.alloc B.size _, hX.alloc _, hY.alloc _, hZ.alloc _, Hold.new _ _ _, Loose.new _ _ _ _⟩ ?_
  clear B  hX hY hZ ghX ghY ghZ
  rintro W ⟨B, hX, hY, hZ, hA, lA⟩
  generalize w1.heap.size = ba at *
  with_reducible refine (RDr.out _).mono ?_
  rintro e w2 ⟨rfl, hb⟩
  replace B := B.trans (hb.mono B.size)
  replace lA := lA.keep hb (World.block_lt_of_cell? _ _ hA.1)
  replace hX := hX.keep hb; replace hY := hY.keep hb; replace hZ := hZ.keep hb; replace hA := hA.keep hb
  clear hb W
  have gebb : w.heap.size ≤ w2.heap.size := by have := B.size; omega
  have _ : w.heap.size ≠ w2.heap.size := by have : w.heap.size < w2.heap.size := World.block_lt_of_cell? _ _ hX.1; omega
  have _ : bw ≠ w2.heap.size := by have : bw < w2.heap.size := World.block_lt_of_cell? _ _ hY.1; omega
  have _ : bz ≠ w2.heap.size := by have : bz < w2.heap.size := World.block_lt_of_cell? _ _ hZ.1; omega
  have _ : ba ≠ w2.heap.size := by have : ba < w2.heap.size := World.block_lt_of_cell? _ _ hA.1; omega
  have _ : w2.heap.size ≠ ba := by have : ba < w2.heap.size := World.block_lt_of_cell? _ _ hA.1; omega
  have ghX := hX.allocs
  have ghY := hY.allocs
  have ghZ := hZ.allocs
  have ghA := hA.allocs
  go_wp2_with fail
  refine calls_world (fun W => Below w.heap.size w W ∧ Hold W w.heap.size n ∧ Hold W bw m ∧ Hold W bz k ∧ Hold W ba a1 ∧ Hold W w2.heap.size a1 ∧ Loose W ba 4 ∧ Loose W w2.heap.size 4) ⟨B.alloc B.size _, hX.alloc _, hY.alloc _, hZ.alloc _, hA.alloc _, Hold.new _ _ _, lA.alloc (World.block_lt_of_cell? _ _ hA.1) _, Loose.new _ _ _ _⟩ ?_
  clear B lA hX hY hZ hA ghX ghY ghZ ghA
  rintro W ⟨B, hX, hY, hZ, hA, hB, lA, lB⟩
  generalize w2.heap.size = bb at *
  with_reducible refine (num_any _ _).mono ?_
  rintro e w3 ⟨rfl, hb⟩
  replace B := B.trans (hb.mono B.size)
  replace lA := lA.keep hb (World.block_lt_of_cell? _ _ hA.1)
  replace lB := lB.keep hb (World.block_lt_of_cell? _ _ hB.1)
  replace hX := hX.keep hb; replace hY := hY.keep hb; replace hZ := hZ.keep hb; replace hA := hA.keep hb; replace hB := hB.keep hb
  clear hb W
  have ghX := hX.cells
  have ghY := hY.cells
  have ghZ := hZ.cells
  go_wp2_with fail
  refine calls_world (fun W => Below w.heap.size w W ∧ Hold W w.heap.size n ∧ Hold W bw m ∧ Hold W bz k ∧ Hold W ba a1 ∧ Hold W bb a1 ∧ Loose W ba 4 ∧ Loose W bb 4) ⟨B, hX, hY, hZ, hA, hB, lA, lB⟩ ?_
  clear B lA lB hX hY hZ hA hB ghX ghY ghZ
  rintro W ⟨B, hX, hY, hZ, hA, hB, lA, lB⟩
  with_reducible refine (MD.out _).mono ?_
  rintro e w4 ⟨rfl, hb⟩
  replace B := B.trans (hb.mono B.size)
  replace lA := lA.keep hb (World.block_lt_of_cell? _ _ hA.1)
  replace lB := lB.keep hb (World.block_lt_of_cell? _ _ hB.1)
  replace hX := hX.keep hb; replace hY := hY.keep hb; replace hZ := hZ.keep hb; replace hA := hA.keep hb; replace hB := hB.keep hb
  clear hb W
  have ghX := hX.cells
  have ghY := hY.cells
  have ghZ := hZ.cells
  have ghA := hA.cells; have fhA := lA.all4
  go_wp2_with fail
  refine calls_world (fun W => Below w.heap.size w W ∧ Hold W w.heap.size n ∧ Hold W bw m ∧ Hold W bz k ∧ Hold W ba a2 ∧ Hold W bb a1 ∧ Loose W ba 4 ∧ Loose W bb 4) ⟨below_set4 B geba _ _ _ _, hX.set4 (by omega) _ _ _ _, hY.set4 (by omega) _ _ _ _, hZ.set4 (by omega) _ _ _ _, Hold.sets4 hA.has, hB.set4 (by omega) _ _ _ _, (((lA.set _ _).set _ _).set _ _).set _ _, (((lB.set _ _).set _ _).set _ _).set _ _⟩ ?_
  clear B lA lB hX hY hZ hA hB ghA fhA ghX ghY ghZ
  rintro W ⟨B, hX, hY, hZ, hA, hB, lA, lB⟩
  with_reducible refine (MDr.out _).mono ?_
  rintro e w5 ⟨rfl, hb⟩
  replace B := B.trans (hb.mono B.size)
  replace lA := lA.keep hb (World.block_lt_of_cell? _ _ hA.1)
  replace lB := lB.keep hb (World.block_lt_of_cell? _ _ hB.1)
  replace hX := hX.keep hb; replace hY := hY.keep hb; replace hZ := hZ.keep hb; replace hA := hA.keep hb; replace hB := hB.keep hb
  clear hb W
  have ghX := hX.cells
  have ghY := hY.cells
  have ghZ := hZ.cells
  have ghA := hA.cells
  have ghB := hB.cells; have fhB := lB.all4
  go_wp2_with fail
  refine calls_world (fun W => Below w.heap.size w W ∧ Hold W w.heap.size n ∧ Hold W bw m ∧ Hold W bz k ∧ Hold W ba a2 ∧ Hold W bb a2 ∧ Loose W ba 4 ∧ Loose W bb 4) ⟨below_set4 B gebb _ _ _ _, hX.set4 (by omega) _ _ _ _, hY.set4 (by omega) _ _ _ _, hZ.set4 (by omega) _ _ _ _, hA.set4 (by omega) _ _ _ _, Hold.sets4 hB.has, (((lA.set _ _).set _ _).set _ _).set _ _, (((lB.set _ _).set _ _).set _ _).set _ _⟩ ?_
  clear B lA lB hX hY hZ hA hB ghB fhB ghX ghY ghZ ghA
  rintro W ⟨B, hX, hY, hZ, hA, hB, lA, lB⟩
  with_reducible refine (num_any _ _).mono ?_
  rintro e w6 ⟨rfl, hb⟩
  replace B := B.trans (hb.mono B.size)
  replace lA := lA.keep hb (World.block_lt_of_cell? _ _ hA.1)
  replace lB := lB.keep hb (World.block_lt_of_cell? _ _ hB.1)
  replace hX := hX.keep hb; replace hY := hY.keep hb; replace hZ := hZ.keep hb; replace hA := hA.keep hb; replace hB := hB.keep hb
  clear hb W
  have ghX := hX.cells
  have ghY := hY.cells
  have ghZ := hZ.cells
  go_wp2_with fail
  refine calls_world (fun W => Below w.heap.size w W ∧ Hold W w.heap.size n ∧ Hold W bw m ∧ Hold W bz k ∧ Hold W ba a2 ∧ Hold W bb a2 ∧ Loose W ba 4 ∧ Loose W bb 4) ⟨B, hX, hY, hZ, hA, hB, lA, lB⟩ ?_
  clear B lA lB hX hY hZ hA hB ghX ghY ghZ
  rintro W ⟨B, hX, hY, hZ, hA, hB, lA, lB⟩
  with_reducible refine (AM.out _).mono ?_
  rintro e w7 ⟨rfl, hb⟩
  replace B := B.trans (hb.mono B.size)
  replace lA := lA.keep hb (World.block_lt_of_cell? _ _ hA.1)
  replace lB := lB.keep hb (World.block_lt_of_cell? _ _ hB.1)
  replace hX := hX.keep hb; replace hY := hY.keep hb; replace hZ := hZ.keep hb; replace hA := hA.keep hb; replace hB := hB.keep hb
  clear hb W
  have ghX := hX.cells
  have ghY := hY.cells
  have ghZ := hZ.cells
  have ghA := hA.cells; have fhA := lA.all4
  go_wp2_with fail
  refine calls_world (fun W => Below w.heap.size w W ∧ Hold W w.heap.size n ∧ Hold W bw m ∧ Hold W bz k ∧ Hold W ba a3 ∧ Hold W bb a2 ∧ Loose W ba 4 ∧ Loose W bb 4) ⟨below_set4 B geba _ _ _ _, hX.set4 (by omega) _ _ _ _, hY.set4 (by omega) _ _ _ _, hZ.set4 (by omega) _ _ _ _, Hold.sets4 hA.has, hB.set4 (by omega) _ _ _ _, (((lA.set _ _).set _ _).set _ _).set _ _, (((lB.set _ _).set _ _).set _ _).set _ _⟩ ?_
  clear B lA lB hX hY hZ hA hB ghA fhA ghX ghY ghZ
  rintro W ⟨B, hX, hY, hZ, hA, hB, lA, lB⟩
  with_reducible refine (AMr.out _).mono ?_
  rintro e w8 ⟨rfl, hb⟩
  replace B := B.trans (hb.mono B.size)
  replace lA := lA.keep hb (World.block_lt_of_cell? _ _ hA.1)
  replace lB := lB.keep hb (World.block_lt_of_cell? _ _ hB.1)
  replace hX := hX.keep hb; replace hY := hY.keep hb; replace hZ := hZ.keep hb; replace hA := hA.keep hb; replace hB := hB.keep hb
  clear hb W
  have ghX := hX.cells
  have ghY := hY.cells
  have ghZ := hZ.cells
  have ghA := hA.cells
  have ghB := hB.cells; have fhB := lB.all4
  go_wp2_with fail
  refine calls_world (fun W => Below w.heap.size w W ∧ Hold W w.heap.size n ∧ Hold W bw m ∧ Hold W bz k ∧ Hold W ba a3 ∧ Hold W bb a3 ∧ Loose W ba 4 ∧ Loose W bb 4) ⟨below_set4 B gebb _ _ _ _, hX.set4 (by omega) _ _ _ _, hY.set4 (by omega) _ _ _ _, hZ.set4 (by omega) _ _ _ _, hA.set4 (by omega) _ _ _ _, Hold.sets4 hB.has, (((lA.set _ _).set _ _).set _ _).set _ _, (((lB.set _ _).set _ _).set _ _).set _ _⟩ ?_
  clear B lA lB hX hY hZ hA hB ghB fhB ghX ghY ghZ ghA
  rintro W ⟨B, hX, hY, hZ, hA, hB, lA, lB⟩
  with_reducible refine (num_any _ _).mono ?_
  rintro e w9 ⟨rfl, hb⟩
  replace B := B.trans (hb.mono B.size)
  replace lA := lA.keep hb (World.block_lt_of_cell? _ _ hA.1)
  replace lB := lB.keep hb (World.block_lt_of_cell? _ _ hB.1)
  replace hX := hX.keep hb; replace hY := hY.keep hb; replace hZ := hZ.keep hb; replace hA := hA.keep hb; replace hB := hB.keep hb
  clear hb W
  have ghX := hX.cells
  have ghY := hY.cells
  have ghZ := hZ.cells
  go_wp2_with fail
  refine calls_world (fun W => Below w.heap.size w W ∧ Hold W w.heap.size n ∧ Hold W bw m ∧ Hold W bz k ∧ Hold W ba a3 ∧ Hold W bb a3 ∧ Loose W ba 4 ∧ Loose W bb 4) ⟨B, hX, hY, hZ, hA, hB, lA, lB⟩ ?_
  clear B lA lB hX hY hZ hA hB ghX ghY ghZ
  rintro W ⟨B, hX, hY, hZ, hA, hB, lA, lB⟩
  with_reducible refine (MM.out _).mono ?_
  rintro e w10 ⟨rfl, hb⟩
  replace B := B.trans (hb.mono B.size)
  replace lA := lA.keep hb (World.block_lt_of_cell? _ _ hA.1)
  replace lB := lB.keep hb (World.block_lt_of_cell? _ _ hB.1)
  replace hX := hX.keep hb; replace hY := hY.keep hb; replace hZ := hZ.keep hb; replace hA := hA.keep hb; replace hB := hB.keep hb
  clear hb W
  have ghX := hX.cells
  have ghY := hY.cells
  have ghZ := hZ.cells
  have ghA := hA.cells; have fhA := lA.all4
  go_wp2_with fail
  refine calls_world (fun W => Below w.heap.size w W ∧ Hold W w.heap.size n ∧ Hold W bw m ∧ Hold W bz k ∧ Hold W ba a4 ∧ Hold W bb a3 ∧ Loose W ba 4 ∧ Loose W bb 4) ⟨below_set4 B geba _ _ _ _, hX.set4 (by omega) _ _ _ _, hY.set4 (by omega) _ _ _ _, hZ.set4 (by omega) _ _ _ _, Hold.sets4 hA.has, hB.set4 (by omega) _ _ _ _, (((lA.set _ _).set _ _).set _ _).set _ _, (((lB.set _ _).set _ _).set _ _).set _ _⟩ ?_
  clear B lA lB hX hY hZ hA hB ghA fhA ghX ghY ghZ
  rintro W ⟨B, hX, hY, hZ, hA, hB, lA, lB⟩
  with_reducible refine (MMr.out _).mono ?_
  rintro e w11 ⟨rfl, hb⟩
  replace B := B.trans (hb.mono B.size)
  replace lA := lA.keep hb (World.block_lt_of_cell? _ _ hA.1)
  replace lB := lB.keep hb (World.block_lt_of_cell? _ _ hB.1)
  replace hX := hX.keep hb; replace hY := hY.keep hb; replace hZ := hZ.keep hb; replace hA := hA.keep hb; replace hB := hB.keep hb
  clear hb W
  have ghX := hX.cells
  have ghY := hY.cells
  have ghZ := hZ.cells
  have ghA := hA.cells
  have ghB := hB.cells; have fhB := lB.all4
  go_wp2_with fail
  refine calls_world (fun W => Below w.heap.size w W ∧ Hold W w.heap.size n ∧ Hold W bw m ∧ Hold W bz k ∧ Hold W ba a4 ∧ Hold W bb a4 ∧ Loose W ba 4 ∧ Loose W bb 4) ⟨below_set4 B gebb _ _ _ _, hX.set4 (by omega) _ _ _ _, hY.set4 (by omega) _ _ _ _, hZ.set4 (by omega) _ _ _ _, hA.set4 (by omega) _ _ _ _, Hold.sets4 hB.has, (((lA.set _ _).set _ _).set _ _).set _ _, (((lB.set _ _).set _ _).set _ _).set _ _⟩ ?_
  clear B lA lB hX hY hZ hA hB ghB fhB ghX ghY ghZ ghA
  rintro W ⟨B, hX, hY, hZ, hA, hB, lA, lB⟩
  with_reducible refine (num_any _ _).mono ?_
  rintro e we ⟨rfl, hb⟩
  replace B := B.trans (hb.mono B.size)
  replace lA := lA.keep hb (World.block_lt_of_cell? _ _ hA.1)
  replace lB := lB.keep hb (World.block_lt_of_cell? _ _ hB.1)
  replace hX := hX.keep hb; replace hY := hY.keep hb; replace hZ := hZ.keep hb; replace hA := hA.keep hb; replace hB := hB.keep hb
  clear hb W
  go_wp2
  go_ret
  exact ⟨rfl, B⟩

theorem both {f g : Nat} {a b : Int} {x : Array Value} (h1 : ∀ w, Calls Try.prog f x w fun e w' => e = .returned (.tuple #[.agg #[.int .u64 (l0 a), .int .u64 (l1 a), .int .u64 (l2 a), .int .u64 (l3 a)], .int .i64 b]) ∧ Below w.heap.size w w') (h2 : ∀ w, Calls Try.prog g x w fun e w' => e = .returned (.tuple #[.agg #[.int .u64 (l0 a), .int .u64 (l1 a), .int .u64 (l2 a), .int .u64 (l3 a)], .int .i64 b]) ∧ Below w.heap.size w w') : ∃ a b : Int, (∀ w, Calls Try.prog f x w fun e w' => e = .returned (.tuple #[.agg #[.int .u64 (l0 a), .int .u64 (l1 a), .int .u64 (l2 a), .int .u64 (l3 a)], .int .i64 b]) ∧ Below w.heap.size w w') ∧ (∀ w, Calls Try.prog g x w fun e w' => e = .returned (.tuple #[.agg #[.int .u64 (l0 a), .int .u64 (l1 a), .int .u64 (l2 a), .int .u64 (l3 a)], .int .i64 b]) ∧ Below w.heap.size w w') := ⟨a, b, h1, h2⟩

theorem reduce_both {h n m : Int} (hh : Num h) (hn : Num n) (hm : Num m) : ∃ a b : Int, (∀ w, Calls Try.prog 25 #[.agg #[.int .u64 (l0 h), .int .u64 (l1 h), .int .u64 (l2 h), .int .u64 (l3 h)], .agg #[.int .u64 (l0 n), .int .u64 (l1 n), .int .u64 (l2 n), .int .u64 (l3 n)], .agg #[.int .u64 (l0 m), .int .u64 (l1 m), .int .u64 (l2 m), .int .u64 (l3 m)]] w fun e w' => e = .returned (.tuple #[.agg #[.int .u64 (l0 a), .int .u64 (l1 a), .int .u64 (l2 a), .int .u64 (l3 a)], .int .i64 b]) ∧ Below w.heap.size w w') ∧ (∀ w, Calls Try.prog 26 #[.agg #[.int .u64 (l0 h), .int .u64 (l1 h), .int .u64 (l2 h), .int .u64 (l3 h)], .agg #[.int .u64 (l0 n), .int .u64 (l1 n), .int .u64 (l2 n), .int .u64 (l3 n)], .agg #[.int .u64 (l0 m), .int .u64 (l1 m), .int .u64 (l2 m), .int .u64 (l3 m)]] w fun e w' => e = .returned (.tuple #[.agg #[.int .u64 (l0 a), .int .u64 (l1 a), .int .u64 (l2 a), .int .u64 (l3 a)], .int .i64 b]) ∧ Below w.heap.size w w') := by
  by_cases hz : m = 0
  · subst hz; exact both (fun w => reduce_zero w) (fun w => rreduce_zero w)
  · exact both (fun w => reduce_any hh hn hm hz w) (fun w => rreduce_any hh hn hm hz w)

theorem mulDiv_both {h n m : Int} (hh : Num h) (hn : Num n) (hm : Num m) : ∃ a b : Int, (∀ w, Calls Try.prog 27 #[.agg #[.int .u64 (l0 h), .int .u64 (l1 h), .int .u64 (l2 h), .int .u64 (l3 h)], .agg #[.int .u64 (l0 n), .int .u64 (l1 n), .int .u64 (l2 n), .int .u64 (l3 n)], .agg #[.int .u64 (l0 m), .int .u64 (l1 m), .int .u64 (l2 m), .int .u64 (l3 m)]] w fun e w' => e = .returned (.tuple #[.agg #[.int .u64 (l0 a), .int .u64 (l1 a), .int .u64 (l2 a), .int .u64 (l3 a)], .int .i64 b]) ∧ Below w.heap.size w w') ∧ (∀ w, Calls Try.prog 28 #[.agg #[.int .u64 (l0 h), .int .u64 (l1 h), .int .u64 (l2 h), .int .u64 (l3 h)], .agg #[.int .u64 (l0 n), .int .u64 (l1 n), .int .u64 (l2 n), .int .u64 (l3 n)], .agg #[.int .u64 (l0 m), .int .u64 (l1 m), .int .u64 (l2 m), .int .u64 (l3 m)]] w fun e w' => e = .returned (.tuple #[.agg #[.int .u64 (l0 a), .int .u64 (l1 a), .int .u64 (l2 a), .int .u64 (l3 a)], .int .i64 b]) ∧ Below w.heap.size w w') := by
  by_cases hz : m = 0
  · subst hz; exact both (fun w => mulDiv_zero w) (fun w => rmulDiv_zero w)
  · by_cases c : h * n / m < 115792089237316195423570985008687907853269984665640564039457584007913129639936
    · refine both (a := h * n / m) (b := 0) (fun w => ?_) (fun w => ?_)
      · have := mulDiv_any hh hn hm hz w; rw [if_pos c] at this; exact this
      · have := rmulDiv_any hh hn hm hz w; rw [if_pos c] at this; exact this
    · refine both (a := 0) (b := 11) (fun w => ?_) (fun w => ?_)
      · have := mulDiv_any hh hn hm hz w; rw [if_neg c] at this; exact this
      · have := rmulDiv_any hh hn hm hz w; rw [if_neg c] at this; exact this

theorem wide_any {n m k : Int} (hn : Num n) (hm : Num m) (hk : Num k) (w : World) :
    Calls Try.prog 5 #[.agg #[.int .u64 (l0 n), .int .u64 (l1 n), .int .u64 (l2 n), .int .u64 (l3 n)], .agg #[.int .u64 (l0 m), .int .u64 (l1 m), .int .u64 (l2 m), .int .u64 (l3 m)], .agg #[.int .u64 (l0 k), .int .u64 (l1 k), .int .u64 (l2 k), .int .u64 (l3 k)]] w fun e w' => e = .returned (.bool true) ∧ Below w.heap.size w w' := by
  obtain ⟨a1, e1, R1, R2⟩ := reduce_both hn hm hk
  obtain ⟨a2, e2, M1, M2⟩ := mulDiv_both hn hm hk
  have nc : Num (carN n m) := by have := carN_word hn hm; exact ⟨this.1, by have := this.2; omega⟩
  obtain ⟨a3, e3, A1, A2⟩ := reduce_both nc (sumN_Num n m) hk
  obtain ⟨a4, e4, P1, P2⟩ := reduce_both (hiN_Num hn hm) (loN_Num n m) hk
  exact wide_walk w R1 R2 M1 M2 (fun w => addMod_walk hn hm A1 w) (fun w => raddMod_walk hn hm A2 w) (fun w => mulMod_walk hn hm P1 w) (fun w => rmulMod_walk hn hm P2 w)

end Go.Proofs.Ytjjimkhppoppbab

namespace Go.Proofs.Ytjjimkhppoppbab
open Go.ChangeShapes Go.WideShapes Go.ChangeAt Go.RowKit

set_option maxRecDepth 100000 in
theorem u256Wide_lifted (os : Os) (started : os.Started) (H : Type) (enc : TypeId × Value → H) :
    ReturnsInHanded {} Try.checked os 5 .any (Rows.u256WideSpec.pre6 enc Try.prog Try.f5 Rows.u256WideRow.domain false) (Rows.u256WideSpec.post enc Try.prog Try.f5 false true false false) := by
  refine returnsInHanded_of_change (C := Try.checked) Try.own started (by kernel_rfl) Try.func5
    (ChangeSpec.witness6 (enc := enc) (C := Try.checked) false ⟨#[], #[.agg #[.int .u64 0, .int .u64 0, .int .u64 0, .int .u64 0], .agg #[.int .u64 0, .int .u64 0, .int .u64 0, .int .u64 0], .agg #[.int .u64 0, .int .u64 0, .int .u64 0, .int .u64 0]], []⟩ 8 (by kernel_rfl) (by kernel_rfl) (by kernel_rfl) (by kernel_rfl)) ?_
  intro W base args ds gs before hval0 hW hcnd _
  have hval : ∀ (j : Nat) t v, Try.f5.params[j]? = some t → args[j]? = some v → Value.okWide Try.prog W .any base t v := hval0
  have hW' := hW
  obtain ⟨p, q, hA0, hV, rfl, hfz, hnd⟩ := hW
  have hA : DataW.TrodAll enc Try.prog W 0 (fun _ => true) true Try.f5.params.toList args.toList ds p := hA0
  rw [Try.params5] at hA hval
  obtain ⟨v0, v1, v2, d0, d1, d2, p0, p1, p2, rfl, rfl, rfl, h0, h1, h2⟩ := trodAll_three hA
  obtain ⟨rfl, rfl⟩ := trodVars_none hV
  obtain ⟨n, hn, rfl, rfl, rfl⟩ := open_num (hval 0 24 v0 rfl rfl) h0
  obtain ⟨m, hm, rfl, rfl, rfl⟩ := open_num (hval 1 24 v1 rfl rfl) h1
  obtain ⟨k, hk, rfl, rfl, rfl⟩ := open_num (hval 2 24 v2 rfl rfl) h2
  clear hA0 hval0
  simp only [List.append_nil] at hW'
  refine (wide_any hn hm hk W).mono fun e W' ⟨he, hg⟩ => ?_
  subst he
  exact ⟨_, rfl, _, _, _, [], _, [], hW', trodAll_mk1 (shut_bool Try.underlying4 _), trodAll_mk3 (shut_num n) (shut_num m) (shut_num k), rfl, hg.frame _, fun h => by cases h⟩

theorem u256Wide_holds : Rows.U256WideSaid :=
  OpenClaim.holds_of_wide 5 Try.f5 rfl rfl rfl rfl rfl rfl rfl ⟨rfl, rfl, rfl, rfl, rfl⟩ rfl rfl rfl rfl rfl (by kernel_rfl) Try.func5 (by kernel_rfl)
    (of_decide_eq_true (by kernel_rfl)) (by unfold Func.isWrapper; first | (rw [if_pos (by decide +kernel)]; kernel_rfl) | (rw [if_neg (by decide +kernel)]; exact ⟨rfl, rfl⟩))
    (fun os started H enc _ => u256Wide_lifted os started H enc)
#print axioms u256Wide_holds

end Go.Proofs.Ytjjimkhppoppbab

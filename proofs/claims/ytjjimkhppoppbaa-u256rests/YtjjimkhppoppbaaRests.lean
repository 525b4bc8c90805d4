import Derived.Test.YtjjimkhppoppbaaDivs
import Derived.Test.YtjjimkhppoppbaaRestNum
import Derived.Test.YtjjimkhppoppbaaQTail
import Derived.Deep.RegionWith
namespace Go.Proofs.Ytjjimkhppoppbaa
open Go.RowKit Go.Sort

theorem num_any (v : Int) (w : World) : Calls Try.prog 25 #[.int .i64 v] w fun e w' => e = .returned (.int .i64 v) ∧ Below w.heap.size w w' := by
  go_enter Try.func25, Try.ntmps25
  go_wp2
  simp [bodyPost, results, Try.results25, go_sem]
  repeat (first | with_reducible exact Below.refl _ _ | with_reducible refine Below.drew ?_ | with_reducible refine Below.alloc ?_ (by first | omega | (simp; done) | (simp; omega)) _)

theorem car_Num {c : Int} (h : Word c) : Num c := ⟨h.1, by have := h.2; omega⟩

set_option maxRecDepth 100000 in
set_option maxHeartbeats 8000000 in
theorem rests_some {n m k : Int} (hn : Num n) (hm : Num m) (hk : Num k) (hz : m ≠ 0) (w : World) :
    Calls Try.prog 6 #[.agg #[.int .u64 (l0 n), .int .u64 (l1 n), .int .u64 (l2 n), .int .u64 (l3 n)], .agg #[.int .u64 (l0 m), .int .u64 (l1 m), .int .u64 (l2 m), .int .u64 (l3 m)], .agg #[.int .u64 (l0 k), .int .u64 (l1 k), .int .u64 (l2 k), .int .u64 (l3 k)]] w fun e w' => e = .returned (.bool true) ∧ Below w.heap.size w w' := by
  have w0 : Word 0 := ⟨by decide, by decide⟩
  have he : ∀ w, (Op.equalIn 10000 24 (.agg #[.int .u64 (l0 m), .int .u64 (l1 m), .int .u64 (l2 m), .int .u64 (l3 m)]) (.agg #[.int .u64 (l0 0), .int .u64 (l1 0), .int .u64 (l2 0), .int .u64 (l3 0)])).run Try.prog w = .ok false w := fun w => eq_no hm Num_zero hz w
  obtain ⟨nq, nr, a1, a2, a3, a4⟩ := rest_back hn hm hz
  obtain ⟨_, nl, _⟩ := rest_back hk hm hz
  have D2 : Hid (∀ w, Calls Try.prog 29 #[.agg #[.int .u64 (l0 k), .int .u64 (l1 k), .int .u64 (l2 k), .int .u64 (l3 k)], .agg #[.int .u64 (l0 m), .int .u64 (l1 m), .int .u64 (l2 m), .int .u64 (l3 m)]] w fun e w' => e = .returned (.tuple #[.agg #[.int .u64 (l0 (k / m)), .int .u64 (l1 (k / m)), .int .u64 (l2 (k / m)), .int .u64 (l3 (k / m))], .agg #[.int .u64 (l0 (k % m)), .int .u64 (l1 (k % m)), .int .u64 (l2 (k % m)), .int .u64 (l3 (k % m))], .int .i64 0]) ∧ Below w.heap.size w w') := fun w => divMod_some hk hm hz w
  obtain ⟨b1, b2⟩ := made_back hn hm (Int.emod_nonneg k hz) (Int.emod_lt_of_pos k (show 0 < m by have := hm.1; omega))
  have R1 : Hid (∀ w, Calls Try.prog 30 #[.agg #[.int .u64 (l0 (sumN (hiN n m) (carN (loN n m) (k % m)))), .int .u64 (l1 (sumN (hiN n m) (carN (loN n m) (k % m)))), .int .u64 (l2 (sumN (hiN n m) (carN (loN n m) (k % m)))), .int .u64 (l3 (sumN (hiN n m) (carN (loN n m) (k % m))))], .agg #[.int .u64 (l0 (sumN (loN n m) (k % m))), .int .u64 (l1 (sumN (loN n m) (k % m))), .int .u64 (l2 (sumN (loN n m) (k % m))), .int .u64 (l3 (sumN (loN n m) (k % m)))], .agg #[.int .u64 (l0 m), .int .u64 (l1 m), .int .u64 (l2 m), .int .u64 (l3 m)]] w fun e w' => e = .returned (.tuple #[.agg #[.int .u64 (l0 (k % m)), .int .u64 (l1 (k % m)), .int .u64 (l2 (k % m)), .int .u64 (l3 (k % m))], .int .i64 0]) ∧ Below w.heap.size w w') := fun w => by have := reduce_any (sumN_Num (hiN n m) (carN (loN n m) (k % m))) (sumN_Num (loN n m) (k % m)) hm hz w; rw [b1] at this; exact this
  have V1 : Hid (∀ w, Calls Try.prog 31 #[.agg #[.int .u64 (l0 n), .int .u64 (l1 n), .int .u64 (l2 n), .int .u64 (l3 n)], .agg #[.int .u64 (l0 m), .int .u64 (l1 m), .int .u64 (l2 m), .int .u64 (l3 m)], .agg #[.int .u64 (l0 m), .int .u64 (l1 m), .int .u64 (l2 m), .int .u64 (l3 m)]] w fun e w' => e = .returned (.tuple #[.agg #[.int .u64 (l0 n), .int .u64 (l1 n), .int .u64 (l2 n), .int .u64 (l3 n)], .int .i64 0]) ∧ Below w.heap.size w w') := fun w => by have := mulDiv_any hn hm hm hz w; rw [Int.mul_ediv_cancel _ hz, if_pos hn.2] at this; exact this
  clear b1
  generalize k % m = l at *
  have A : Hid (hiN (n / m) m = 0 ∧ sumN (loN (n / m) m) (n % m) = n ∧ carN (loN (n / m) m) (n % m) = 0 ∧ cmpN (n % m) m = -1) := ⟨a1, a2, a3, a4⟩
  have D : Hid (∀ w, Calls Try.prog 29 #[.agg #[.int .u64 (l0 n), .int .u64 (l1 n), .int .u64 (l2 n), .int .u64 (l3 n)], .agg #[.int .u64 (l0 m), .int .u64 (l1 m), .int .u64 (l2 m), .int .u64 (l3 m)]] w fun e w' => e = .returned (.tuple #[.agg #[.int .u64 (l0 (n / m)), .int .u64 (l1 (n / m)), .int .u64 (l2 (n / m)), .int .u64 (l3 (n / m))], .agg #[.int .u64 (l0 (n % m)), .int .u64 (l1 (n % m)), .int .u64 (l2 (n % m)), .int .u64 (l3 (n % m))], .int .i64 0]) ∧ Below w.heap.size w w') := fun w => divMod_some hn hm hz w
  clear a1 a2 a3 a4
  generalize n / m = q at *
  generalize n % m = r at *
  have M1 : Hid (∀ w, Calls Try.prog 10 #[.agg #[.int .u64 (l0 q), .int .u64 (l1 q), .int .u64 (l2 q), .int .u64 (l3 q)], .agg #[.int .u64 (l0 m), .int .u64 (l1 m), .int .u64 (l2 m), .int .u64 (l3 m)]] w fun e w' => e = .returned (.tuple #[.agg #[.int .u64 (l0 0), .int .u64 (l1 0), .int .u64 (l2 0), .int .u64 (l3 0)], .agg #[.int .u64 (l0 (loN q m)), .int .u64 (l1 (loN q m)), .int .u64 (l2 (loN q m)), .int .u64 (l3 (loN q m))]]) ∧ Below w.heap.size w w') := fun w => by have := mul_any nq hm w; rw [A.out.1] at this; exact this
  have A1 : Hid (∀ w, Calls Try.prog 11 #[.agg #[.int .u64 (l0 (loN q m)), .int .u64 (l1 (loN q m)), .int .u64 (l2 (loN q m)), .int .u64 (l3 (loN q m))], .agg #[.int .u64 (l0 r), .int .u64 (l1 r), .int .u64 (l2 r), .int .u64 (l3 r)]] w fun e w' => e = .returned (.tuple #[.agg #[.int .u64 (l0 n), .int .u64 (l1 n), .int .u64 (l2 n), .int .u64 (l3 n)], .int .u64 0]) ∧ Below w.heap.size w w') := fun w => by have := add_any (loN_Num q m) nr w; rw [A.out.2.1, A.out.2.2.1] at this; exact this
  have C1 : Hid (∀ w, Calls Try.prog 13 #[.agg #[.int .u64 (l0 r), .int .u64 (l1 r), .int .u64 (l2 r), .int .u64 (l3 r)], .agg #[.int .u64 (l0 m), .int .u64 (l1 m), .int .u64 (l2 m), .int .u64 (l3 m)]] w fun e w' => e = .returned (.int .i64 (-1)) ∧ Below w.heap.size w w') := fun w => by have := cmp_any nr hm w; rw [A.out.2.2.2] at this; exact this
  have ey : ∀ n w, (Op.equalIn 10000 24 (.agg #[.int .u64 (l0 n), .int .u64 (l1 n), .int .u64 (l2 n), .int .u64 (l3 n)]) (.agg #[.int .u64 (l0 n), .int .u64 (l1 n), .int .u64 (l2 n), .int .u64 (l3 n)])).run Try.prog w = .ok true w := fun n w => eq_yes w
  clear A
  go_enter Try.func6, Try.ntmps6
  go_wp2_with fail
  refine calls_world (fun W => Below w.heap.size w W ∧ Hold W w.heap.size n ∧ Hold W (w.heap.size + 1) m ∧ Hold W (w.heap.size + 1 + 1) k) ⟨?_, ?_, ?_, ?_⟩ ?_
  · repeat (first | with_reducible exact Below.refl _ _ | with_reducible refine Below.alloc ?_ (by first | omega | (simp; done) | (simp; omega)) _)
  · have := Hold.new w n 24
    (try simp at this)
    exact ((this.alloc _).alloc _)
  · have := Hold.new (w.alloc (.cells #[.int .u64 (l0 n), .int .u64 (l1 n), .int .u64 (l2 n), .int .u64 (l3 n)] 24)) m 24
    (try simp at this)
    exact (this.alloc _)
  · have := Hold.new ((w.alloc (.cells #[.int .u64 (l0 n), .int .u64 (l1 n), .int .u64 (l2 n), .int .u64 (l3 n)] 24)).alloc (.cells #[.int .u64 (l0 m), .int .u64 (l1 m), .int .u64 (l2 m), .int .u64 (l3 m)] 24)) k 24
    (try simp at this)
    exact this
  rintro W ⟨B, hX, hY, hZ⟩
  generalize w.heap.size + 1 + 1 = bz at *
  generalize w.heap.size + 1 = bw at *
  refine (from_any w0 _).mono ?_
  rintro e w1 ⟨rfl, hb⟩
  replace B := B.trans (hb.mono B.size)
  replace hX := hX.keep hb; replace hY := hY.keep hb; replace hZ := hZ.keep hb
  clear hb W
  have ghX := hX.allocs
  have ghY := hY.allocs
  go_wp2_with fail
  refine calls_world (fun W => Below w.heap.size w W ∧ Hold W w.heap.size n ∧ Hold W bw m ∧ Hold W bz k ∧ Hold W w1.heap.size 0) ⟨B.alloc B.size _, hX.alloc _, hY.alloc _, hZ.alloc _, Hold.new _ _ _⟩ ?_
  clear B  hX hY hZ ghX ghY
  rintro W ⟨B, hX, hY, hZ, hN⟩
  generalize w1.heap.size = bn at *
  refine (D.out _).mono ?_
  rintro e w2 ⟨rfl, hb⟩
  replace B := B.trans (hb.mono B.size)
  replace hX := hX.keep hb; replace hY := hY.keep hb; replace hZ := hZ.keep hb; replace hN := hN.keep hb
  clear hb W
  have ghY := hY.allocs2
  go_wp2_with fail
  refine calls_world (fun W => Below w.heap.size w W ∧ Hold W w.heap.size n ∧ Hold W bw m ∧ Hold W bz k ∧ Hold W bn 0 ∧ Hold W w2.heap.size q ∧ Hold W (w2.heap.size + 1) r) ⟨(B.alloc B.size _).alloc (by have := B.size; simp; omega) _, (hX.alloc _).alloc _, (hY.alloc _).alloc _, (hZ.alloc _).alloc _, (hN.alloc _).alloc _, (Hold.new _ _ _).alloc _, ?_⟩ ?_
  · have := Hold.new (w2.alloc (.cells #[.int .u64 (l0 q), .int .u64 (l1 q), .int .u64 (l2 q), .int .u64 (l3 q)] 24)) r 24
    simp at this
    exact this
  clear B  hX hY hZ hN ghY
  rintro W ⟨B, hX, hY, hZ, hN, hQ, hR⟩
  generalize w2.heap.size + 1 = br at *
  generalize w2.heap.size = bq at *
  refine (M1.out _).mono ?_
  rintro e w3 ⟨rfl, hb⟩
  replace B := B.trans (hb.mono B.size)
  replace hX := hX.keep hb; replace hY := hY.keep hb; replace hZ := hZ.keep hb; replace hN := hN.keep hb; replace hQ := hQ.keep hb; replace hR := hR.keep hb
  clear hb W
  have ghR := hR.allocs2
  go_wp2_with fail
  refine calls_world (fun W => Below w.heap.size w W ∧ Hold W w.heap.size n ∧ Hold W bw m ∧ Hold W bz k ∧ Hold W bn 0 ∧ Hold W bq q ∧ Hold W br r ∧ Hold W w3.heap.size 0 ∧ Hold W (w3.heap.size + 1) (loN q m)) ⟨(B.alloc B.size _).alloc (by have := B.size; simp; omega) _, (hX.alloc _).alloc _, (hY.alloc _).alloc _, (hZ.alloc _).alloc _, (hN.alloc _).alloc _, (hQ.alloc _).alloc _, (hR.alloc _).alloc _, (Hold.new _ _ _).alloc _, ?_⟩ ?_
  · have := Hold.new (w3.alloc (.cells #[.int .u64 (l0 0), .int .u64 (l1 0), .int .u64 (l2 0), .int .u64 (l3 0)] 24)) (loN q m) 24
    simp at this
    exact this
  clear B  hX hY hZ hN hQ hR ghR
  rintro W ⟨B, hX, hY, hZ, hN, hQ, hR, hH, hL⟩
  generalize w3.heap.size + 1 = bl at *
  generalize w3.heap.size = bh at *
  refine (A1.out _).mono ?_
  rintro e w4 ⟨rfl, hb⟩
  replace B := B.trans (hb.mono B.size)
  replace hX := hX.keep hb; replace hY := hY.keep hb; replace hZ := hZ.keep hb; replace hN := hN.keep hb; replace hQ := hQ.keep hb; replace hR := hR.keep hb; replace hH := hH.keep hb; replace hL := hL.keep hb
  clear hb W
  have ghR := hR.allocs
  have ghY := hY.allocs
  go_wp2_with fail
  refine calls_world (fun W => Below w.heap.size w W ∧ Hold W w.heap.size n ∧ Hold W bw m ∧ Hold W bz k ∧ Hold W bn 0 ∧ Hold W bq q ∧ Hold W br r ∧ Hold W bh 0 ∧ Hold W bl (loN q m) ∧ Hold W w4.heap.size n) ⟨B.alloc B.size _, hX.alloc _, hY.alloc _, hZ.alloc _, hN.alloc _, hQ.alloc _, hR.alloc _, hH.alloc _, hL.alloc _, Hold.new _ _ _⟩ ?_
  clear B  hX hY hZ hN hQ hR hH hL ghR ghY
  rintro W ⟨B, hX, hY, hZ, hN, hQ, hR, hH, hL, hK⟩
  generalize w4.heap.size = bk at *
  refine (C1.out _).mono ?_
  rintro e w5 ⟨rfl, hb⟩
  replace B := B.trans (hb.mono B.size)
  replace hX := hX.keep hb; replace hY := hY.keep hb; replace hZ := hZ.keep hb; replace hN := hN.keep hb; replace hQ := hQ.keep hb; replace hR := hR.keep hb; replace hH := hH.keep hb; replace hL := hL.keep hb; replace hK := hK.keep hb
  clear hb W
  have ghX := hX.cells
  have ghY := hY.cells
  have ghZ := hZ.cells
  have ghN := hN.cells
  have ghH := hH.cells
  have ghK := hK.cells
  go_wp2_with fail
  refine calls_world (fun W => Below w.heap.size w W ∧ Hold W w.heap.size n ∧ Hold W bw m ∧ Hold W bz k ∧ Hold W bn 0 ∧ Hold W bq q ∧ Hold W br r ∧ Hold W bh 0 ∧ Hold W bl (loN q m) ∧ Hold W bk n) ⟨B, hX, hY, hZ, hN, hQ, hR, hH, hL, hK⟩ ?_
  clear B  hX hY hZ hN hQ hR hH hL hK ghX ghY ghZ ghN ghH ghK
  rintro W ⟨B, hX, hY, hZ, hN, hQ, hR, hH, hL, hK⟩
  clear hN hQ hR hH hL hK
  refine (D2.out _).mono ?_
  rintro e w6 ⟨rfl, hb⟩
  replace B := B.trans (hb.mono B.size)
  replace hX := hX.keep hb; replace hY := hY.keep hb; replace hZ := hZ.keep hb
  clear hb W
  have ghX := hX.allocs2
  have ghY := hY.allocs2
  go_wp2_with fail
  refine calls_world (fun W => Below w.heap.size w W ∧ Hold W w.heap.size n ∧ Hold W bw m ∧ Hold W bz k ∧ Hold W w6.heap.size (k / m) ∧ Hold W (w6.heap.size + 1) l) ⟨(B.alloc B.size _).alloc (by have := B.size; simp; omega) _, (hX.alloc _).alloc _, (hY.alloc _).alloc _, (hZ.alloc _).alloc _, (Hold.new _ _ _).alloc _, ?_⟩ ?_
  · have := Hold.new (w6.alloc (.cells #[.int .u64 (l0 (k / m)), .int .u64 (l1 (k / m)), .int .u64 (l2 (k / m)), .int .u64 (l3 (k / m))] 24)) l 24
    simp at this
    exact this
  clear B  hX hY hZ ghX ghY
  rintro W ⟨B, hX, hY, hZ, hJ, hE⟩
  generalize w6.heap.size + 1 = be at *
  generalize w6.heap.size = bj at *
  refine (mul_any hn hm _).mono ?_
  rintro e w7 ⟨rfl, hb⟩
  replace B := B.trans (hb.mono B.size)
  replace hX := hX.keep hb; replace hY := hY.keep hb; replace hZ := hZ.keep hb; replace hJ := hJ.keep hb; replace hE := hE.keep hb
  clear hb W
  have gebh : w.heap.size ≤ w7.heap.size := by have := B.size; omega
  have _ : w.heap.size ≠ w7.heap.size := by have : w.heap.size < w7.heap.size := World.block_lt_of_cell? _ _ hX.1; omega
  have _ : bw ≠ w7.heap.size := by have : bw < w7.heap.size := World.block_lt_of_cell? _ _ hY.1; omega
  have _ : bz ≠ w7.heap.size := by have : bz < w7.heap.size := World.block_lt_of_cell? _ _ hZ.1; omega
  have _ : bj ≠ w7.heap.size := by have : bj < w7.heap.size := World.block_lt_of_cell? _ _ hJ.1; omega
  have _ : be ≠ w7.heap.size := by have : be < w7.heap.size := World.block_lt_of_cell? _ _ hE.1; omega
  have _ : w7.heap.size + 1 ≠ w7.heap.size := by omega
  have ghE := hE.allocs2
  go_wp2_with fail
  refine calls_world (fun W => Below w.heap.size w W ∧ Hold W w.heap.size n ∧ Hold W bw m ∧ Hold W bz k ∧ Hold W bj (k / m) ∧ Hold W be l ∧ Hold W w7.heap.size (hiN n m) ∧ Hold W (w7.heap.size + 1) (loN n m) ∧ Loose W w7.heap.size 4) ⟨(B.alloc B.size _).alloc (by have := B.size; simp; omega) _, (hX.alloc _).alloc _, (hY.alloc _).alloc _, (hZ.alloc _).alloc _, (hJ.alloc _).alloc _, (hE.alloc _).alloc _, (Hold.new _ _ _).alloc _, ?_, ?_⟩ ?_
  · have := Hold.new (w7.alloc (.cells #[.int .u64 (l0 (hiN n m)), .int .u64 (l1 (hiN n m)), .int .u64 (l2 (hiN n m)), .int .u64 (l3 (hiN n m))] 24)) (loN n m) 24
    simp at this
    exact this
  · exact (Loose.new _ _ _ _).alloc (by simp) _
  clear B  hX hY hZ hJ hE ghE
  rintro W ⟨B, hX, hY, hZ, hJ, hE, hH, hS, lH⟩
  generalize w7.heap.size + 1 = bs at *
  generalize w7.heap.size = bh at *
  refine (add_any (loN_Num _ _) nl _).mono ?_
  rintro e w8 ⟨rfl, hb⟩
  replace B := B.trans (hb.mono B.size)
  replace lH := lH.keep hb (World.block_lt_of_cell? _ _ hH.1)
  replace hX := hX.keep hb; replace hY := hY.keep hb; replace hZ := hZ.keep hb; replace hJ := hJ.keep hb; replace hE := hE.keep hb; replace hH := hH.keep hb; replace hS := hS.keep hb
  clear hb W
  have _ : w8.heap.size ≠ bh := by have : bh < w8.heap.size := World.block_lt_of_cell? _ _ hH.1; omega
  go_wp2_with fail
  refine wp_world (fun W => Below w.heap.size w W ∧ Hold W w.heap.size n ∧ Hold W bw m ∧ Hold W bz k ∧ Hold W bj (k / m) ∧ Hold W be l ∧ Hold W bh (hiN n m) ∧ Hold W bs (loN n m) ∧ Hold W w8.heap.size (sumN (loN n m) l) ∧ Loose W bh 4) ⟨B.alloc B.size _, hX.alloc _, hY.alloc _, hZ.alloc _, hJ.alloc _, hE.alloc _, hH.alloc _, hS.alloc _, Hold.new _ _ _, lH.alloc (World.block_lt_of_cell? _ _ hH.1) _⟩ ?_
  clear B lH hX hY hZ hJ hE hH hS 
  rintro W ⟨B, hX, hY, hZ, hJ, hE, hH, hS, hM, lH⟩
  generalize w8.heap.size = bm at *
  have gH := hH.cells; have fH := lH.all4
  have lh : bh < W.heap.size := World.block_lt_of_cell? W _ hH.1
  have lh' : bh ≤ W.heap.size := Nat.le_of_lt lh
  have dz : W.drew.heap.size = W.heap.size := rfl
  go_region_with (first | (go_at_call 12; refine (from_any b2 _).mono ?_; rintro e wa ⟨rfl, ha⟩; have hca := oldCells ha; have hza := ha.size; (try simp at hza); have _ : bh < wa.heap.size := (by omega)) | (go_at_call 11; refine (add_any (hiN_Num hn hm) (car_Num b2) _).mono ?_; rintro e wb ⟨rfl, hb⟩; have hcb := oldCells hb; have hzb := hb.size; (try simp at hzb); have _ : bh < wb.heap.size := (by omega)))
  all_goals
    have hs := B.size
    replace B : Below w.heap.size w wb := (B.drew.trans (ha.mono (by simpa using hs))).trans (hb.mono (by omega))
    replace hX := (hX.drew.keep ha).keep hb; replace hY := (hY.drew.keep ha).keep hb; replace hE := (hE.drew.keep ha).keep hb; replace hM := (hM.drew.keep ha).keep hb; replace hH := (hH.drew.keep ha).keep hb
    clear hZ hJ hS lH gH fH lh lh' dz hca hcb hza hzb
    have gH := hH.cells; have gM := hM.cells; have gY := hY.cells
    go_wp2_with fail
    refine calls_world (fun W => Below w.heap.size w W ∧ Hold W w.heap.size n ∧ Hold W bw m ∧ Hold W be l ∧ Hold W bh (sumN (hiN n m) (carN (loN n m) l)) ∧ Hold W bm (sumN (loN n m) l)) ⟨below_set4 B gebh _ _ _ _, hX.set4 (by omega) _ _ _ _, hY.set4 (by omega) _ _ _ _, hE.set4 (by omega) _ _ _ _, Hold.sets4 hH.has, hM.set4 (by omega) _ _ _ _⟩ ?_
    clear ha hb gH gM gY B hX hY hE hM hH
    rintro W ⟨B, hX, hY, hE, hH, hM⟩
    refine (R1.out _).mono ?_
    rintro e w9 ⟨rfl, hb⟩
    replace B := B.trans (hb.mono B.size)
    replace hX := hX.keep hb; replace hY := hY.keep hb; replace hE := hE.keep hb; replace hH := hH.keep hb; replace hM := hM.keep hb
    clear hb W
    have _ : w9.heap.size ≠ bh := by have : bh < w9.heap.size := World.block_lt_of_cell? _ _ hH.1; omega
    have ghX := hX.allocs
    have ghY := hY.allocs
    go_wp2_with fail
    refine calls_world (fun W => Below w.heap.size w W ∧ Hold W w.heap.size n ∧ Hold W bw m ∧ Hold W be l ∧ Hold W bh (sumN (hiN n m) (carN (loN n m) l)) ∧ Hold W bm (sumN (loN n m) l) ∧ Hold W w9.heap.size l) ⟨B.alloc B.size _, hX.alloc _, hY.alloc _, hE.alloc _, hH.alloc _, hM.alloc _, Hold.new _ _ _⟩ ?_
    clear B  hX hY hE hH hM ghX ghY
    rintro W ⟨B, hX, hY, hE, hH, hM, hG⟩
    generalize w9.heap.size = bg at *
    refine (V1.out _).mono ?_
    rintro e we ⟨rfl, hb⟩
    replace B := B.trans (hb.mono B.size)
    replace hX := hX.keep hb; replace hY := hY.keep hb; replace hE := hE.keep hb; replace hH := hH.keep hb; replace hM := hM.keep hb; replace hG := hG.keep hb
    clear hb W
    have gX := hX.allocs; have gE := hE.allocs; have gG := hG.allocs
    go_wp2
    go_ret
    exact ⟨rfl, B.alloc B.size _⟩

set_option maxRecDepth 100000 in
set_option maxHeartbeats 8000000 in
theorem rests_zero {n k : Int} (w : World) :
    Calls Try.prog 6 #[.agg #[.int .u64 (l0 n), .int .u64 (l1 n), .int .u64 (l2 n), .int .u64 (l3 n)], .agg #[.int .u64 (l0 0), .int .u64 (l1 0), .int .u64 (l2 0), .int .u64 (l3 0)], .agg #[.int .u64 (l0 k), .int .u64 (l1 k), .int .u64 (l2 k), .int .u64 (l3 k)]] w fun e w' => e = .returned (.bool true) ∧ Below w.heap.size w w' := by
  have w0 : Word 0 := ⟨by decide, by decide⟩
  have he : ∀ w, (Op.equalIn 10000 24 (.agg #[.int .u64 (l0 0), .int .u64 (l1 0), .int .u64 (l2 0), .int .u64 (l3 0)]) (.agg #[.int .u64 (l0 0), .int .u64 (l1 0), .int .u64 (l2 0), .int .u64 (l3 0)])).run Try.prog w = .ok true w := fun w => eq_yes w
  go_enter Try.func6, Try.ntmps6
  go_wp2_with fail
  refine calls_world (fun W => Below w.heap.size w W ∧ Hold W w.heap.size n ∧ Hold W (w.heap.size + 1) 0 ∧ Hold W (w.heap.size + 1 + 1) k) ⟨?_, ?_, ?_, ?_⟩ ?_
  · repeat (first | with_reducible exact Below.refl _ _ | with_reducible refine Below.alloc ?_ (by first | omega | (simp; done) | (simp; omega)) _)
  · have := Hold.new w n 24
    (try simp at this)
    exact ((this.alloc _).alloc _)
  · have := Hold.new (w.alloc (.cells #[.int .u64 (l0 n), .int .u64 (l1 n), .int .u64 (l2 n), .int .u64 (l3 n)] 24)) 0 24
    (try simp at this)
    exact (this.alloc _)
  · have := Hold.new ((w.alloc (.cells #[.int .u64 (l0 n), .int .u64 (l1 n), .int .u64 (l2 n), .int .u64 (l3 n)] 24)).alloc (.cells #[.int .u64 (l0 0), .int .u64 (l1 0), .int .u64 (l2 0), .int .u64 (l3 0)] 24)) k 24
    (try simp at this)
    exact this
  rintro W ⟨B, hX, hY, hZ⟩
  generalize w.heap.size + 1 + 1 = bz at *
  generalize w.heap.size + 1 = bw at *
  refine (from_any w0 _).mono ?_
  rintro e w1 ⟨rfl, hb⟩
  replace B := B.trans (hb.mono B.size)
  replace hX := hX.keep hb; replace hY := hY.keep hb; replace hZ := hZ.keep hb
  clear hb W
  have ghX := hX.allocs
  have ghY := hY.allocs
  go_wp2_with fail
  refine calls_world (fun W => Below w.heap.size w W ∧ Hold W w.heap.size n ∧ Hold W bw 0 ∧ Hold W bz k ∧ Hold W w1.heap.size 0) ⟨B.alloc B.size _, hX.alloc _, hY.alloc _, hZ.alloc _, Hold.new _ _ _⟩ ?_
  clear B  hX hY hZ ghX ghY
  rintro W ⟨B, hX, hY, hZ, hN⟩
  generalize w1.heap.size = bn at *
  refine (divMod_zero _).mono ?_
  rintro e w2 ⟨rfl, hb⟩
  replace B := B.trans (hb.mono B.size)
  replace hX := hX.keep hb; replace hY := hY.keep hb; replace hZ := hZ.keep hb; replace hN := hN.keep hb
  clear hb W
  have ghX := hX.allocs2
  have ghY := hY.allocs2
  have ghZ := hZ.allocs2
  go_wp2_with fail
  refine calls_world (fun W => Below w.heap.size w W ∧ Hold W w.heap.size n ∧ Hold W bw 0 ∧ Hold W bz k ∧ Hold W bn 0 ∧ Hold W w2.heap.size 0 ∧ Hold W (w2.heap.size + 1) 0) ⟨(B.alloc B.size _).alloc (by have := B.size; simp; omega) _, (hX.alloc _).alloc _, (hY.alloc _).alloc _, (hZ.alloc _).alloc _, (hN.alloc _).alloc _, (Hold.new _ _ _).alloc _, ?_⟩ ?_
  · have := Hold.new (w2.alloc (.cells #[.int .u64 (l0 0), .int .u64 (l1 0), .int .u64 (l2 0), .int .u64 (l3 0)] 24)) 0 24
    simp at this
    exact this
  clear B  hX hY hZ hN ghX ghY ghZ
  rintro W ⟨B, hX, hY, hZ, hN, hA, hB⟩
  generalize w2.heap.size + 1 = bb at *
  generalize w2.heap.size = ba at *
  clear hA hB
  refine (reduce_zero _).mono ?_
  rintro e w3 ⟨rfl, hb⟩
  replace B := B.trans (hb.mono B.size)
  replace hX := hX.keep hb; replace hY := hY.keep hb; replace hZ := hZ.keep hb; replace hN := hN.keep hb
  clear hb W
  have ghX := hX.allocs
  have ghY := hY.allocs
  have ghZ := hZ.allocs
  go_wp2_with fail
  refine calls_world (fun W => Below w.heap.size w W ∧ Hold W w.heap.size n ∧ Hold W bw 0 ∧ Hold W bz k ∧ Hold W bn 0 ∧ Hold W w3.heap.size 0) ⟨B.alloc B.size _, hX.alloc _, hY.alloc _, hZ.alloc _, hN.alloc _, Hold.new _ _ _⟩ ?_
  clear B  hX hY hZ hN ghX ghY ghZ
  rintro W ⟨B, hX, hY, hZ, hN, hA⟩
  generalize w3.heap.size = bc at *
  refine (mulDiv_zero _).mono ?_
  rintro e w4 ⟨rfl, hb⟩
  replace B := B.trans (hb.mono B.size)
  replace hX := hX.keep hb; replace hY := hY.keep hb; replace hZ := hZ.keep hb; replace hN := hN.keep hb; replace hA := hA.keep hb
  clear hb W
  go_wp2_with fail
  refine calls_world (fun W => Below w.heap.size w W ∧ Hold W w.heap.size n ∧ Hold W bw 0 ∧ Hold W bz k ∧ Hold W bn 0 ∧ Hold W bc 0 ∧ Hold W w4.heap.size 0) ⟨B.alloc B.size _, hX.alloc _, hY.alloc _, hZ.alloc _, hN.alloc _, hA.alloc _, Hold.new _ _ _⟩ ?_
  clear B  hX hY hZ hN hA 
  rintro W ⟨B, hX, hY, hZ, hN, hA, hC⟩
  generalize w4.heap.size = bd at *
  refine (num_any _ _).mono ?_
  rintro e w5 ⟨rfl, hb⟩
  replace B := B.trans (hb.mono B.size)
  replace hX := hX.keep hb; replace hY := hY.keep hb; replace hZ := hZ.keep hb; replace hN := hN.keep hb; replace hA := hA.keep hb; replace hC := hC.keep hb
  clear hb W
  go_wp2_with fail
  refine calls_world (fun W => Below w.heap.size w W ∧ Hold W w.heap.size n ∧ Hold W bw 0 ∧ Hold W bz k ∧ Hold W bn 0 ∧ Hold W bc 0 ∧ Hold W bd 0) ⟨B, hX, hY, hZ, hN, hA, hC⟩ ?_
  clear B  hX hY hZ hN hA hC 
  rintro W ⟨B, hX, hY, hZ, hN, hA, hC⟩
  refine (num_any _ _).mono ?_
  rintro e w6 ⟨rfl, hb⟩
  replace B := B.trans (hb.mono B.size)
  replace hX := hX.keep hb; replace hY := hY.keep hb; replace hZ := hZ.keep hb; replace hN := hN.keep hb; replace hA := hA.keep hb; replace hC := hC.keep hb
  clear hb W
  go_wp2_with fail
  refine calls_world (fun W => Below w.heap.size w W ∧ Hold W w.heap.size n ∧ Hold W bw 0 ∧ Hold W bz k ∧ Hold W bn 0 ∧ Hold W bc 0 ∧ Hold W bd 0) ⟨B, hX, hY, hZ, hN, hA, hC⟩ ?_
  clear B  hX hY hZ hN hA hC 
  rintro W ⟨B, hX, hY, hZ, hN, hA, hC⟩
  refine (num_any _ _).mono ?_
  rintro e we ⟨rfl, hb⟩
  replace B := B.trans (hb.mono B.size)
  replace hX := hX.keep hb; replace hY := hY.keep hb; replace hZ := hZ.keep hb; replace hN := hN.keep hb; replace hA := hA.keep hb; replace hC := hC.keep hb
  clear hb W
  go_wp2
  go_ret
  exact ⟨rfl, B⟩

theorem rests_any {n m k : Int} (hn : Num n) (hm : Num m) (hk : Num k) (w : World) :
    Calls Try.prog 6 #[.agg #[.int .u64 (l0 n), .int .u64 (l1 n), .int .u64 (l2 n), .int .u64 (l3 n)], .agg #[.int .u64 (l0 m), .int .u64 (l1 m), .int .u64 (l2 m), .int .u64 (l3 m)], .agg #[.int .u64 (l0 k), .int .u64 (l1 k), .int .u64 (l2 k), .int .u64 (l3 k)]] w fun e w' => e = .returned (.bool true) ∧ Below w.heap.size w w' := by
  by_cases hz : m = 0
  · subst hz; exact rests_zero w
  · exact rests_some hn hm hk hz w

end Go.Proofs.Ytjjimkhppoppbaa

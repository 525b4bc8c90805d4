import Derived.Test.YtjjimkhppoppbabMods
import Derived.Test.YtjjimkhppoppbabOpen
namespace Go.Proofs.Ytjjimkhppoppbab
open Go.RowKit Go.Sort

set_option maxRecDepth 100000 in
set_option maxHeartbeats 8000000 in
theorem arith_walk {n m s1 c1 s2 c2 c3 p1 p2 q1 q2 c4 v5 c5 : Int} (w : World)
    (AD : Hid (∀ w, Calls Try.prog 10 #[.agg #[.int .u64 (l0 n), .int .u64 (l1 n), .int .u64 (l2 n), .int .u64 (l3 n)], .agg #[.int .u64 (l0 m), .int .u64 (l1 m), .int .u64 (l2 m), .int .u64 (l3 m)]] w fun e w' => e = .returned (.tuple #[.agg #[.int .u64 (l0 s1), .int .u64 (l1 s1), .int .u64 (l2 s1), .int .u64 (l3 s1)], .int .u64 c1]) ∧ Below w.heap.size w w')) (ADr : Hid (∀ w, Calls Try.prog 11 #[.agg #[.int .u64 (l0 n), .int .u64 (l1 n), .int .u64 (l2 n), .int .u64 (l3 n)], .agg #[.int .u64 (l0 m), .int .u64 (l1 m), .int .u64 (l2 m), .int .u64 (l3 m)]] w fun e w' => e = .returned (.tuple #[.agg #[.int .u64 (l0 s1), .int .u64 (l1 s1), .int .u64 (l2 s1), .int .u64 (l3 s1)], .int .u64 c1]) ∧ Below w.heap.size w w'))
    (SU : Hid (∀ w, Calls Try.prog 12 #[.agg #[.int .u64 (l0 n), .int .u64 (l1 n), .int .u64 (l2 n), .int .u64 (l3 n)], .agg #[.int .u64 (l0 m), .int .u64 (l1 m), .int .u64 (l2 m), .int .u64 (l3 m)]] w fun e w' => e = .returned (.tuple #[.agg #[.int .u64 (l0 s2), .int .u64 (l1 s2), .int .u64 (l2 s2), .int .u64 (l3 s2)], .int .u64 c2]) ∧ Below w.heap.size w w')) (SUr : Hid (∀ w, Calls Try.prog 13 #[.agg #[.int .u64 (l0 n), .int .u64 (l1 n), .int .u64 (l2 n), .int .u64 (l3 n)], .agg #[.int .u64 (l0 m), .int .u64 (l1 m), .int .u64 (l2 m), .int .u64 (l3 m)]] w fun e w' => e = .returned (.tuple #[.agg #[.int .u64 (l0 s2), .int .u64 (l1 s2), .int .u64 (l2 s2), .int .u64 (l3 s2)], .int .u64 c2]) ∧ Below w.heap.size w w'))
    (CM : Hid (∀ w, Calls Try.prog 14 #[.agg #[.int .u64 (l0 n), .int .u64 (l1 n), .int .u64 (l2 n), .int .u64 (l3 n)], .agg #[.int .u64 (l0 m), .int .u64 (l1 m), .int .u64 (l2 m), .int .u64 (l3 m)]] w fun e w' => e = .returned (.int .i64 c3) ∧ Below w.heap.size w w')) (CMr : Hid (∀ w, Calls Try.prog 15 #[.agg #[.int .u64 (l0 n), .int .u64 (l1 n), .int .u64 (l2 n), .int .u64 (l3 n)], .agg #[.int .u64 (l0 m), .int .u64 (l1 m), .int .u64 (l2 m), .int .u64 (l3 m)]] w fun e w' => e = .returned (.int .i64 c3) ∧ Below w.heap.size w w'))
    (MU : Hid (∀ w, Calls Try.prog 16 #[.agg #[.int .u64 (l0 n), .int .u64 (l1 n), .int .u64 (l2 n), .int .u64 (l3 n)], .agg #[.int .u64 (l0 m), .int .u64 (l1 m), .int .u64 (l2 m), .int .u64 (l3 m)]] w fun e w' => e = .returned (.tuple #[.agg #[.int .u64 (l0 p1), .int .u64 (l1 p1), .int .u64 (l2 p1), .int .u64 (l3 p1)], .agg #[.int .u64 (l0 p2), .int .u64 (l1 p2), .int .u64 (l2 p2), .int .u64 (l3 p2)]]) ∧ Below w.heap.size w w')) (MUr : Hid (∀ w, Calls Try.prog 17 #[.agg #[.int .u64 (l0 n), .int .u64 (l1 n), .int .u64 (l2 n), .int .u64 (l3 n)], .agg #[.int .u64 (l0 m), .int .u64 (l1 m), .int .u64 (l2 m), .int .u64 (l3 m)]] w fun e w' => e = .returned (.tuple #[.agg #[.int .u64 (l0 p1), .int .u64 (l1 p1), .int .u64 (l2 p1), .int .u64 (l3 p1)], .agg #[.int .u64 (l0 p2), .int .u64 (l1 p2), .int .u64 (l2 p2), .int .u64 (l3 p2)]]) ∧ Below w.heap.size w w'))
    (DM : Hid (∀ w, Calls Try.prog 18 #[.agg #[.int .u64 (l0 n), .int .u64 (l1 n), .int .u64 (l2 n), .int .u64 (l3 n)], .agg #[.int .u64 (l0 m), .int .u64 (l1 m), .int .u64 (l2 m), .int .u64 (l3 m)]] w fun e w' => e = .returned (.tuple #[.agg #[.int .u64 (l0 q1), .int .u64 (l1 q1), .int .u64 (l2 q1), .int .u64 (l3 q1)], .agg #[.int .u64 (l0 q2), .int .u64 (l1 q2), .int .u64 (l2 q2), .int .u64 (l3 q2)], .int .i64 c4]) ∧ Below w.heap.size w w')) (DMr : Hid (∀ w, Calls Try.prog 19 #[.agg #[.int .u64 (l0 n), .int .u64 (l1 n), .int .u64 (l2 n), .int .u64 (l3 n)], .agg #[.int .u64 (l0 m), .int .u64 (l1 m), .int .u64 (l2 m), .int .u64 (l3 m)]] w fun e w' => e = .returned (.tuple #[.agg #[.int .u64 (l0 q1), .int .u64 (l1 q1), .int .u64 (l2 q1), .int .u64 (l3 q1)], .agg #[.int .u64 (l0 q2), .int .u64 (l1 q2), .int .u64 (l2 q2), .int .u64 (l3 q2)], .int .i64 c4]) ∧ Below w.heap.size w w'))
    (SM : Hid (∀ w, Calls Try.prog 21 #[.agg #[.int .u64 (l0 n), .int .u64 (l1 n), .int .u64 (l2 n), .int .u64 (l3 n)]] w fun e w' => e = .returned (.tuple #[.int .u64 v5, .int .i64 c5]) ∧ Below w.heap.size w w')) (SMr : Hid (∀ w, Calls Try.prog 22 #[.agg #[.int .u64 (l0 n), .int .u64 (l1 n), .int .u64 (l2 n), .int .u64 (l3 n)]] w fun e w' => e = .returned (.tuple #[.int .u64 v5, .int .i64 c5]) ∧ Below w.heap.size w w'))
    (FR : Hid (∀ w, Calls Try.prog 23 #[.int .u64 (l0 m)] w fun e w' => e = .returned (.agg #[.int .u64 (l0 (l0 m)), .int .u64 (l1 (l0 m)), .int .u64 (l2 (l0 m)), .int .u64 (l3 (l0 m))]) ∧ Below w.heap.size w w')) (FRr : Hid (∀ w, Calls Try.prog 24 #[.int .u64 (l0 m)] w fun e w' => e = .returned (.agg #[.int .u64 (l0 (l0 m)), .int .u64 (l1 (l0 m)), .int .u64 (l2 (l0 m)), .int .u64 (l3 (l0 m))]) ∧ Below w.heap.size w w')) :
    Calls Try.prog 4 #[.agg #[.int .u64 (l0 n), .int .u64 (l1 n), .int .u64 (l2 n), .int .u64 (l3 n)], .agg #[.int .u64 (l0 m), .int .u64 (l1 m), .int .u64 (l2 m), .int .u64 (l3 m)]] w fun e w' => e = .returned (.bool true) ∧ Below w.heap.size w w' := by
  have ey : ∀ n w, (Op.equalIn 10000 24 (.agg #[.int .u64 (l0 n), .int .u64 (l1 n), .int .u64 (l2 n), .int .u64 (l3 n)]) (.agg #[.int .u64 (l0 n), .int .u64 (l1 n), .int .u64 (l2 n), .int .u64 (l3 n)])).run Try.prog w = .ok true w := fun n w => eq_yes w
  go_enter Try.func4, Try.ntmps4
  go_wp2_with fail
  refine calls_world (fun W => Below w.heap.size w W ∧ Hold W w.heap.size n ∧ Hold W (w.heap.size + 1) m) ⟨?_, ?_, ?_⟩ ?_
  · repeat (first | with_reducible exact Below.refl _ _ | with_reducible refine Below.alloc ?_ (by first | omega | (simp; done) | (simp; omega)) _)
  · have := Hold.new w n 24
    (try simp at this)
    exact (this.alloc _)
  · have := Hold.new (w.alloc (.cells #[.int .u64 (l0 n), .int .u64 (l1 n), .int .u64 (l2 n), .int .u64 (l3 n)] 24)) m 24
    (try simp at this)
    exact this
  rintro W ⟨B, hX, hY⟩
  generalize w.heap.size + 1 = bw at *
  with_reducible refine (AD.out _).mono ?_
  rintro e w1 ⟨rfl, hb⟩
  replace B := B.trans (hb.mono B.size)
  replace hX := hX.keep hb; replace hY := hY.keep hb
  clear hb W
  have gebs : w.heap.size ≤ w1.heap.size := by have := B.size; omega
  have _ : w.heap.size ≠ w1.heap.size := by have : w.heap.size < w1.heap.size := World.block_lt_of_cell? _ _ hX.1; omega
  have _ : bw ≠ w1.heap.size := by have : bw < w1.heap.size := World.block_lt_of_cell? _ _ hY.1; omega
  have ghX := hX.allocs
  have ghY := hY.allocs
  go_wp2_with fail
  refine calls_world (fun W => Below w.heap.size w W ∧ Hold W w.heap.size n ∧ Hold W bw m ∧ Hold W w1.heap.size s1 ∧ Loose W w1.heap.size 4) ⟨B.alloc B.size _, hX.alloc _, hY.alloc _, Hold.new _ _ _, Loose.new _ _ _ _⟩ ?_
  clear B  hX hY ghX ghY
  rintro W ⟨B, hX, hY, hS, lS⟩
  generalize w1.heap.size = bs at *
  with_reducible refine (ADr.out _).mono ?_
  rintro e w2 ⟨rfl, hb⟩
  replace B := B.trans (hb.mono B.size)
  replace lS := lS.keep hb (World.block_lt_of_cell? _ _ hS.1)
  replace hX := hX.keep hb; replace hY := hY.keep hb; replace hS := hS.keep hb
  clear hb W
  have gebt : w.heap.size ≤ w2.heap.size := by have := B.size; omega
  have _ : w.heap.size ≠ w2.heap.size := by have : w.heap.size < w2.heap.size := World.block_lt_of_cell? _ _ hX.1; omega
  have _ : bw ≠ w2.heap.size := by have : bw < w2.heap.size := World.block_lt_of_cell? _ _ hY.1; omega
  have _ : bs ≠ w2.heap.size := by have : bs < w2.heap.size := World.block_lt_of_cell? _ _ hS.1; omega
  have _ : w2.heap.size ≠ bs := by have : bs < w2.heap.size := World.block_lt_of_cell? _ _ hS.1; omega
  have ghX := hX.allocs
  have ghY := hY.allocs
  have ghS := hS.allocs
  go_wp2_with fail
  refine calls_world (fun W => Below w.heap.size w W ∧ Hold W w.heap.size n ∧ Hold W bw m ∧ Hold W bs s1 ∧ Hold W w2.heap.size s1 ∧ Loose W bs 4 ∧ Loose W w2.heap.size 4) ⟨B.alloc B.size _, hX.alloc _, hY.alloc _, hS.alloc _, Hold.new _ _ _, lS.alloc (World.block_lt_of_cell? _ _ hS.1) _, Loose.new _ _ _ _⟩ ?_
  clear B lS hX hY hS ghX ghY ghS
  rintro W ⟨B, hX, hY, hS, hT, lS, lT⟩
  generalize w2.heap.size = bt at *
  with_reducible refine (SU.out _).mono ?_
  rintro e w3 ⟨rfl, hb⟩
  replace B := B.trans (hb.mono B.size)
  replace lS := lS.keep hb (World.block_lt_of_cell? _ _ hS.1)
  replace lT := lT.keep hb (World.block_lt_of_cell? _ _ hT.1)
  replace hX := hX.keep hb; replace hY := hY.keep hb; replace hS := hS.keep hb; replace hT := hT.keep hb
  clear hb W
  have ghX := hX.cells
  have ghY := hY.cells
  have ghS := hS.cells; have fhS := lS.all4
  go_wp2_with fail
  refine calls_world (fun W => Below w.heap.size w W ∧ Hold W w.heap.size n ∧ Hold W bw m ∧ Hold W bs s2 ∧ Hold W bt s1 ∧ Loose W bs 4 ∧ Loose W bt 4) ⟨below_set4 B gebs _ _ _ _, hX.set4 (by omega) _ _ _ _, hY.set4 (by omega) _ _ _ _, Hold.sets4 hS.has, hT.set4 (by omega) _ _ _ _, (((lS.set _ _).set _ _).set _ _).set _ _, (((lT.set _ _).set _ _).set _ _).set _ _⟩ ?_
  clear B lS lT hX hY hS hT ghS fhS ghX ghY
  rintro W ⟨B, hX, hY, hS, hT, lS, lT⟩
  with_reducible refine (SUr.out _).mono ?_
  rintro e w4 ⟨rfl, hb⟩
  replace B := B.trans (hb.mono B.size)
  replace lS := lS.keep hb (World.block_lt_of_cell? _ _ hS.1)
  replace lT := lT.keep hb (World.block_lt_of_cell? _ _ hT.1)
  replace hX := hX.keep hb; replace hY := hY.keep hb; replace hS := hS.keep hb; replace hT := hT.keep hb
  clear hb W
  have ghX := hX.cells
  have ghY := hY.cells
  have ghS := hS.cells
  have ghT := hT.cells; have fhT := lT.all4
  go_wp2_with fail
  refine wp_world (fun W => Below w.heap.size w W ∧ Hold W w.heap.size n ∧ Hold W bw m ∧ Hold W bs s2 ∧ Hold W bt s2 ∧ Loose W bs 4 ∧ Loose W bt 4) ⟨below_set4 B gebt _ _ _ _, hX.set4 (by omega) _ _ _ _, hY.set4 (by omega) _ _ _ _, hS.set4 (by omega) _ _ _ _, Hold.sets4 hT.has, (((lS.set _ _).set _ _).set _ _).set _ _, (((lT.set _ _).set _ _).set _ _).set _ _⟩ ?_
  clear B lS lT hX hY hS hT ghT fhT ghX ghY ghS
  rintro W ⟨B, hX, hY, hS, hT, lS, lT⟩
  have ghX := hX.grown
  have ghY := hY.grown
  have ghS := hS.grown
  have ghT := hT.grown
  refine wp_region_quiet_below (by kernel_rfl) (by kernel_rfl) ?_
  repeat
    first
      | go_big_quiet_skip
      | (go_big_quiet_want; go_big_quiet_op; go_big_quiet_on)
      | (go_big_quiet_want
         go_big_quiet_op
         apply Exists.intro
         refine ⟨fun p => ?_, ?_⟩
         · (first | (go_at_call 14; exact Calls.regrown_of (CM.out _)) | (go_at_call 15; exact Calls.regrown_of (CMr.out _)))
         go_big_quiet_on)
  refine wpQuiet_nil ?_
  rintro w5 ⟨p, rfl⟩
  have hb := below_regrown W p.d p.os
  generalize grow (redrawn W p.d) p.os = w5 at *
  replace B := B.trans (hb.mono B.size)
  replace lS := lS.keep hb (World.block_lt_of_cell? _ _ hS.1)
  replace lT := lT.keep hb (World.block_lt_of_cell? _ _ hT.1)
  replace hX := hX.keep hb; replace hY := hY.keep hb; replace hS := hS.keep hb; replace hT := hT.keep hb
  clear hb W ghX ghY ghS ghT
  clear lS lT
  clear hS hT
  have ghX := hX.cells; have ghY := hY.cells
  go_wp2_with fail
  clear ghX ghY
  with_reducible refine (MU.out _).mono ?_
  rintro e w6 ⟨rfl, hb⟩
  replace B := B.trans (hb.mono B.size)
  replace hX := hX.keep hb; replace hY := hY.keep hb
  clear hb w5
  have ghX := hX.allocs2
  have ghY := hY.allocs2
  go_wp2_with fail
  refine calls_world (fun W => Below w.heap.size w W ∧ Hold W w.heap.size n ∧ Hold W bw m ∧ Hold W w6.heap.size p1 ∧ Hold W (w6.heap.size + 1) p2) ⟨(B.alloc B.size _).alloc (by have := B.size; simp; omega) _, (hX.alloc _).alloc _, (hY.alloc _).alloc _, (Hold.new _ _ _).alloc _, ?_⟩ ?_
  · have := Hold.new (w6.alloc (.cells #[.int .u64 (l0 p1), .int .u64 (l1 p1), .int .u64 (l2 p1), .int .u64 (l3 p1)] 24)) p2 24
    simp at this
    exact this
  clear B  hX hY ghX ghY
  rintro W ⟨B, hX, hY, hH, hL⟩
  generalize w6.heap.size + 1 = bl at *
  generalize w6.heap.size = bh at *
  with_reducible refine (MUr.out _).mono ?_
  rintro e w7 ⟨rfl, hb⟩
  replace B := B.trans (hb.mono B.size)
  replace hX := hX.keep hb; replace hY := hY.keep hb; replace hH := hH.keep hb; replace hL := hL.keep hb
  clear hb W
  have ghX := hX.allocs2
  have ghY := hY.allocs2
  have ghH := hH.allocs2
  have ghL := hL.allocs2
  go_wp2_with fail
  refine calls_world (fun W => Below w.heap.size w W ∧ Hold W w.heap.size n ∧ Hold W bw m ∧ Hold W bh p1 ∧ Hold W bl p2 ∧ Hold W w7.heap.size p1 ∧ Hold W (w7.heap.size + 1) p2) ⟨(B.alloc B.size _).alloc (by have := B.size; simp; omega) _, (hX.alloc _).alloc _, (hY.alloc _).alloc _, (hH.alloc _).alloc _, (hL.alloc _).alloc _, (Hold.new _ _ _).alloc _, ?_⟩ ?_
  · have := Hold.new (w7.alloc (.cells #[.int .u64 (l0 p1), .int .u64 (l1 p1), .int .u64 (l2 p1), .int .u64 (l3 p1)] 24)) p2 24
    simp at this
    exact this
  clear B  hX hY hH hL ghX ghY ghH ghL
  rintro W ⟨B, hX, hY, hH, hL, hI, hM⟩
  generalize w7.heap.size + 1 = bm at *
  generalize w7.heap.size = bi at *
  clear hH hL hI hM
  with_reducible refine (DM.out _).mono ?_
  rintro e w8 ⟨rfl, hb⟩
  replace B := B.trans (hb.mono B.size)
  replace hX := hX.keep hb; replace hY := hY.keep hb
  clear hb W
  have ghX := hX.allocs2
  have ghY := hY.allocs2
  go_wp2_with fail
  refine calls_world (fun W => Below w.heap.size w W ∧ Hold W w.heap.size n ∧ Hold W bw m ∧ Hold W w8.heap.size q1 ∧ Hold W (w8.heap.size + 1) q2) ⟨(B.alloc B.size _).alloc (by have := B.size; simp; omega) _, (hX.alloc _).alloc _, (hY.alloc _).alloc _, (Hold.new _ _ _).alloc _, ?_⟩ ?_
  · have := Hold.new (w8.alloc (.cells #[.int .u64 (l0 q1), .int .u64 (l1 q1), .int .u64 (l2 q1), .int .u64 (l3 q1)] 24)) q2 24
    simp at this
    exact this
  clear B  hX hY ghX ghY
  rintro W ⟨B, hX, hY, hQ, hR⟩
  generalize w8.heap.size + 1 = br at *
  generalize w8.heap.size = bq at *
  with_reducible refine (DMr.out _).mono ?_
  rintro e w9 ⟨rfl, hb⟩
  replace B := B.trans (hb.mono B.size)
  replace hX := hX.keep hb; replace hY := hY.keep hb; replace hQ := hQ.keep hb; replace hR := hR.keep hb
  clear hb W
  have ghX := hX.allocs2
  have ghY := hY.allocs2
  have ghQ := hQ.allocs2
  have ghR := hR.allocs2
  go_wp2_with fail
  refine calls_world (fun W => Below w.heap.size w W ∧ Hold W w.heap.size n ∧ Hold W bw m ∧ Hold W bq q1 ∧ Hold W br q2 ∧ Hold W w9.heap.size q1 ∧ Hold W (w9.heap.size + 1) q2) ⟨(B.alloc B.size _).alloc (by have := B.size; simp; omega) _, (hX.alloc _).alloc _, (hY.alloc _).alloc _, (hQ.alloc _).alloc _, (hR.alloc _).alloc _, (Hold.new _ _ _).alloc _, ?_⟩ ?_
  · have := Hold.new (w9.alloc (.cells #[.int .u64 (l0 q1), .int .u64 (l1 q1), .int .u64 (l2 q1), .int .u64 (l3 q1)] 24)) q2 24
    simp at this
    exact this
  clear B  hX hY hQ hR ghX ghY ghQ ghR
  rintro W ⟨B, hX, hY, hQ, hR, hV, hU⟩
  generalize w9.heap.size + 1 = bu at *
  generalize w9.heap.size = bv at *
  clear hQ hR hV hU
  with_reducible refine (num_any _ _).mono ?_
  rintro e w10 ⟨rfl, hb⟩
  replace B := B.trans (hb.mono B.size)
  replace hX := hX.keep hb; replace hY := hY.keep hb
  clear hb W
  have ghX := hX.cells
  go_wp2_with fail
  refine calls_world (fun W => Below w.heap.size w W ∧ Hold W w.heap.size n ∧ Hold W bw m) ⟨B, hX, hY⟩ ?_
  clear B  hX hY ghX
  rintro W ⟨B, hX, hY⟩
  with_reducible refine (SM.out _).mono ?_
  rintro e w11 ⟨rfl, hb⟩
  replace B := B.trans (hb.mono B.size)
  replace hX := hX.keep hb; replace hY := hY.keep hb
  clear hb W
  have ghX := hX.cells
  go_wp2_with fail
  refine calls_world (fun W => Below w.heap.size w W ∧ Hold W w.heap.size n ∧ Hold W bw m) ⟨B, hX, hY⟩ ?_
  clear B  hX hY ghX
  rintro W ⟨B, hX, hY⟩
  with_reducible refine (SMr.out _).mono ?_
  rintro e w12 ⟨rfl, hb⟩
  replace B := B.trans (hb.mono B.size)
  replace hX := hX.keep hb; replace hY := hY.keep hb
  clear hb W
  have ghX := hX.cells
  have ghY := hY.cells
  go_wp2_with fail
  refine wp_world (fun W => Below w.heap.size w W ∧ Hold W w.heap.size n ∧ Hold W bw m) ⟨B, hX, hY⟩ ?_
  clear B  hX hY ghX ghY
  rintro W ⟨B, hX, hY⟩
  have ghX := hX.grown
  have ghY := hY.grown
  refine wp_region_quiet_below (by kernel_rfl) (by kernel_rfl) ?_
  repeat
    first
      | go_big_quiet_skip
      | (go_big_quiet_want; go_big_quiet_op; go_big_quiet_on)
      | (go_big_quiet_want
         go_big_quiet_op
         apply Exists.intro
         refine ⟨fun p => ?_, ?_⟩
         · (first | (go_at_call 20; exact Calls.regrown_of (num_any _ _)) | (go_at_call 23; exact Calls.regrown_of (FR.out _)) | (go_at_call 24; exact Calls.regrown_of (FRr.out _)))
         go_big_quiet_on)
  refine wpQuiet_nil ?_
  rintro w13 ⟨p, rfl⟩
  have hb := below_regrown W p.d p.os
  generalize grow (redrawn W p.d) p.os = w13 at *
  replace B := B.trans (hb.mono B.size)
  replace hX := hX.keep hb; replace hY := hY.keep hb
  clear hb W ghX ghY
  go_wp2
  go_ret
  exact ⟨rfl, B⟩

theorem divs_both {n m : Int} (hn : Num n) (hm : Num m) : ∃ a b e : Int, (∀ w, Calls Try.prog 18 #[.agg #[.int .u64 (l0 n), .int .u64 (l1 n), .int .u64 (l2 n), .int .u64 (l3 n)], .agg #[.int .u64 (l0 m), .int .u64 (l1 m), .int .u64 (l2 m), .int .u64 (l3 m)]] w fun e' w' => e' = .returned (.tuple #[.agg #[.int .u64 (l0 a), .int .u64 (l1 a), .int .u64 (l2 a), .int .u64 (l3 a)], .agg #[.int .u64 (l0 b), .int .u64 (l1 b), .int .u64 (l2 b), .int .u64 (l3 b)], .int .i64 e]) ∧ Below w.heap.size w w') ∧ (∀ w, Calls Try.prog 19 #[.agg #[.int .u64 (l0 n), .int .u64 (l1 n), .int .u64 (l2 n), .int .u64 (l3 n)], .agg #[.int .u64 (l0 m), .int .u64 (l1 m), .int .u64 (l2 m), .int .u64 (l3 m)]] w fun e' w' => e' = .returned (.tuple #[.agg #[.int .u64 (l0 a), .int .u64 (l1 a), .int .u64 (l2 a), .int .u64 (l3 a)], .agg #[.int .u64 (l0 b), .int .u64 (l1 b), .int .u64 (l2 b), .int .u64 (l3 b)], .int .i64 e]) ∧ Below w.heap.size w w') := by
  by_cases hz : m = 0
  · subst hz; exact ⟨0, 0, 10, fun w => divMod_zero w, fun w => rdivMod_zero w⟩
  · exact ⟨n / m, n % m, 0, fun w => divMod_some hn hm hz w, fun w => rdivMod_any hn hm hz w⟩

theorem arith_any {n m : Int} (hn : Num n) (hm : Num m) (w : World) :
    Calls Try.prog 4 #[.agg #[.int .u64 (l0 n), .int .u64 (l1 n), .int .u64 (l2 n), .int .u64 (l3 n)], .agg #[.int .u64 (l0 m), .int .u64 (l1 m), .int .u64 (l2 m), .int .u64 (l3 m)]] w fun e w' => e = .returned (.bool true) ∧ Below w.heap.size w w' := by
  obtain ⟨a, b, e, D1, D2⟩ := divs_both hn hm
  obtain ⟨v, f, S1, S2⟩ := smalls hn
  exact arith_walk w (fun w => add_any hn hm w) (fun w => radd_any hn hm w) (fun w => sub_any hn hm w) (fun w => rsub_any hn hm w) (fun w => cmp_any hn hm w) (fun w => rcmp_any hn hm w) (fun w => mul_any hn hm w) (fun w => rmul_any hn hm w) D1 D2 S1 S2 (fun w => from_any (l0_word m) w) (fun w => rfrom_any (l0_word m) w)

end Go.Proofs.Ytjjimkhppoppbab

namespace Go.Proofs.Ytjjimkhppoppbab
open Go.ChangeShapes Go.WideShapes Go.ChangeAt Go.RowKit

set_option maxRecDepth 100000 in
theorem u256Arith_lifted (os : Os) (started : os.Started) (H : Type) (enc : TypeId × Value → H) :
    ReturnsInHanded {} Try.checked os 4 .any (Rows.u256ArithSpec.pre6 enc Try.prog Try.f4 Rows.u256ArithRow.domain false) (Rows.u256ArithSpec.post enc Try.prog Try.f4 false true false false) := by
  refine returnsInHanded_of_change (C := Try.checked) Try.own started (by kernel_rfl) Try.func4
    (ChangeSpec.witness6 (enc := enc) (C := Try.checked) false ⟨#[], #[.agg #[.int .u64 0, .int .u64 0, .int .u64 0, .int .u64 0], .agg #[.int .u64 0, .int .u64 0, .int .u64 0, .int .u64 0]], []⟩ 8 (by kernel_rfl) (by kernel_rfl) (by kernel_rfl) (by kernel_rfl)) ?_
  intro W base args ds gs before hval0 hW hcnd _
  have hval : ∀ (j : Nat) t v, Try.f4.params[j]? = some t → args[j]? = some v → Value.okWide Try.prog W .any base t v := hval0
  have hW' := hW
  obtain ⟨p, q, hA0, hV, rfl, hfz, hnd⟩ := hW
  have hA : DataW.TrodAll enc Try.prog W 0 (fun _ => true) true Try.f4.params.toList args.toList ds p := hA0
  rw [Try.params4] at hA hval
  obtain ⟨v0, v1, d0, d1, p0, p1, rfl, rfl, rfl, h0, h1⟩ := trodAll_two hA
  obtain ⟨rfl, rfl⟩ := trodVars_none hV
  obtain ⟨n, hn, rfl, rfl, rfl⟩ := open_num (hval 0 24 v0 rfl rfl) h0
  obtain ⟨m, hm, rfl, rfl, rfl⟩ := open_num (hval 1 24 v1 rfl rfl) h1
  clear hA0 hval0
  simp only [List.append_nil] at hW'
  refine (arith_any hn hm W).mono fun e W' ⟨he, hg⟩ => ?_
  subst he
  exact ⟨_, rfl, _, _, _, [], _, [], hW', trodAll_mk1 (shut_bool Try.underlying4 _), trodAll_mk2 (shut_num n) (shut_num m), rfl, hg.frame _, fun h => by cases h⟩

theorem u256Arith_holds : Rows.U256ArithSaid :=
  OpenClaim.holds_of_wide 4 Try.f4 rfl rfl rfl rfl rfl rfl rfl ⟨rfl, rfl, rfl, rfl, rfl⟩ rfl rfl rfl rfl rfl (by kernel_rfl) Try.func4 (by kernel_rfl)
    (of_decide_eq_true (by kernel_rfl)) (by unfold Func.isWrapper; first | (rw [if_pos (by decide +kernel)]; kernel_rfl) | (rw [if_neg (by decide +kernel)]; exact ⟨rfl, rfl⟩))
    (fun os started H enc _ => u256Arith_lifted os started H enc)
#print axioms u256Arith_holds

end Go.Proofs.Ytjjimkhppoppbab

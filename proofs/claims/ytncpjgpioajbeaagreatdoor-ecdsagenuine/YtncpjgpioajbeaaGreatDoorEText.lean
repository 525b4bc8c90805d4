import Derived.Test.YtncpjgpioajbeaaGreatDoorESWA
import Derived.Test.YtncpjgpioajbeaaGreatDoorCEq
namespace Go.Proofs.YtncpjgpioajbeaaGreatDoor
open Go.RowKit Go.Sort
set_option maxRecDepth 100000 in
set_option maxHeartbeats 4000000 in
theorem eq_sig_any {x y x' y' : Int} {i j : Bool} (hx : Num x) (hy : Num y) (hx' : Num x') (hy' : Num y') (w : World) :
    (Op.equalIn 10000 28 (.agg #[.int .u64 (l0 x), .int .u64 (l1 x), .int .u64 (l2 x), .int .u64 (l3 x), .int .u64 (l0 y), .int .u64 (l1 y), .int .u64 (l2 y), .int .u64 (l3 y), .bool i]) (.agg #[.int .u64 (l0 x'), .int .u64 (l1 x'), .int .u64 (l2 x'), .int .u64 (l3 x'), .int .u64 (l0 y'), .int .u64 (l1 y'), .int .u64 (l2 y'), .int .u64 (l3 y'), .bool j])).run Tryz.prog w = .ok (decide (x = x') && (decide (y = y') && (i == j))) w := by
  have e1 := eq_num9 hx hx'
  have e2 := eq_num9 hy hy'
  have tf : (Tryz.prog.fieldsOf 28) = #[{ name := "R", type := 24, offset := 0, embedded := false, tag := "", pkgPath := "", byteOffset := 0 }, { name := "S", type := 24, offset := 4, embedded := false, tag := "", pkgPath := "", byteOffset := 32 }, { name := "Odd", type := 4, offset := 8, embedded := false, tag := "", pkgPath := "", byteOffset := 64 }] := by
    unfold Program.fieldsOf; rw [Tryz.underlying28]
  rw [show (10000 : Nat) = 9999 + 1 from rfl, run_equalIn_struct w 9999 _ _ _ (by rw [tf]; exact Tryz.underlying28) (by kernel_rfl), tf]
  have tu := Tryz.underlying4
  have ta := Tryz.isAgg4
  have tz := Tryz.sizeOf4
  have ta' := Tryz.isAgg24
  have tz' := Tryz.sizeOf24
  simp only [Op.eqFields]
  go_simp
  by_cases h1 : x = x' <;> by_cases h2 : y = y' <;> by_cases h3 : i = j <;> simp [h1, h2, h3]

set_option maxRecDepth 100000 in
set_option maxHeartbeats 4000000 in
theorem lfit_zero {x n : Int} (O : Hid (∀ w, Mds w → Calls Tryz.prog 16 #[.int .i64 1] w fun e w' => e = .returned (.tuple #[.agg #[.int .u64 (l0 n), .int .u64 (l1 n), .int .u64 (l2 n), .int .u64 (l3 n)], .int .i64 0]) ∧ Below w.heap.size w w')) (E : ∀ w, (Op.equalIn 10000 24 (.agg #[.int .u64 (l0 x), .int .u64 (l1 x), .int .u64 (l2 x), .int .u64 (l3 x)]) (.agg #[.int .u64 0, .int .u64 0, .int .u64 0, .int .u64 0])).run Tryz.prog w = .ok true w) (w : World) (hm : Mds w) :
    Calls Tryz.prog 6 #[.agg #[.int .u64 (l0 x), .int .u64 (l1 x), .int .u64 (l2 x), .int .u64 (l3 x)]] w fun e w' => e = .returned (.bool false) ∧ Below w.heap.size w w' := by
  go_enter Tryz.func6, Tryz.ntmps6
  go_wp2_with fail
  refine calls_world (fun W => Below w.heap.size w W ∧ Mds W ∧ Hold W w.heap.size x) ⟨by repeat (first | with_reducible exact Below.refl _ _ | with_reducible refine Below.alloc ?_ (by first | omega | (simp; done) | (simp; omega)) _), hm.alloc _, Hold.fresh (by simp)⟩ ?_
  rintro W ⟨B, hD, hX⟩
  with_reducible refine (O.out _ hD).mono ?_
  rintro e w9 ⟨rfl, hb⟩
  replace B := B.trans (hb.mono B.size)
  replace hD := hD.keep hb; replace hX := hX.keep hb
  clear hb W hD
  have gX := hX.allocs
  have BB : Hid (∀ o, Below w.heap.size w (w9.alloc o)) := fun o => B.alloc B.size o
  clear B hX
  go_wp2
  simp [bodyPost, results, Tryz.results6, go_sem]
  exact BB.out _

set_option maxRecDepth 100000 in
set_option maxHeartbeats 4000000 in
theorem lfit_yes {x n q : Int} {v : Bool} (O : Hid (∀ w, Mds w → Calls Tryz.prog 16 #[.int .i64 1] w fun e w' => e = .returned (.tuple #[.agg #[.int .u64 (l0 n), .int .u64 (l1 n), .int .u64 (l2 n), .int .u64 (l3 n)], .int .i64 0]) ∧ Below w.heap.size w w')) (E : ∀ w, (Op.equalIn 10000 24 (.agg #[.int .u64 (l0 x), .int .u64 (l1 x), .int .u64 (l2 x), .int .u64 (l3 x)]) (.agg #[.int .u64 0, .int .u64 0, .int .u64 0, .int .u64 0])).run Tryz.prog w = .ok false w) (C : Hid (∀ w, Calls Tryz.prog 17 #[.agg #[.int .u64 (l0 x), .int .u64 (l1 x), .int .u64 (l2 x), .int .u64 (l3 x)], .agg #[.int .u64 (l0 n), .int .u64 (l1 n), .int .u64 (l2 n), .int .u64 (l3 n)]] w fun e w' => e = .returned (.int .i64 q) ∧ Below w.heap.size w w')) (hv : decide (q < 0) = v) (w : World) (hm : Mds w) :
    Calls Tryz.prog 6 #[.agg #[.int .u64 (l0 x), .int .u64 (l1 x), .int .u64 (l2 x), .int .u64 (l3 x)]] w fun e w' => e = .returned (.bool v) ∧ Below w.heap.size w w' := by
  go_enter Tryz.func6, Tryz.ntmps6
  go_wp2_with fail
  refine calls_world (fun W => Below w.heap.size w W ∧ Mds W ∧ Hold W w.heap.size x) ⟨by repeat (first | with_reducible exact Below.refl _ _ | with_reducible refine Below.alloc ?_ (by first | omega | (simp; done) | (simp; omega)) _), hm.alloc _, Hold.fresh (by simp)⟩ ?_
  rintro W ⟨B, hD, hX⟩
  with_reducible refine (O.out _ hD).mono ?_
  rintro e w1 ⟨rfl, hb⟩
  replace B := B.trans (hb.mono B.size)
  replace hD := hD.keep hb; replace hX := hX.keep hb
  clear hb W
  have ghX := hX.allocs
  go_wp2_with fail
  refine calls_world (fun W => Below w.heap.size w W ∧ Mds W ∧ Hold W w.heap.size x ∧ Hold W w1.heap.size n) ⟨B.alloc B.size _, hD.alloc _, hX.alloc _, Hold.new _ _ _⟩ ?_
  clear B hD hX ghX
  rintro W ⟨B, hD, hX, hM⟩
  generalize w1.heap.size = bm at *
  with_reducible refine (C.out _).mono ?_
  rintro e w9 ⟨rfl, hb⟩
  replace B := B.trans (hb.mono B.size)
  clear hb hX hM hD W
  go_wp2
  simp [bodyPost, results, Tryz.results6, go_sem]
  exact B

theorem lfit_any {x : Int} (hx : Num x) : Hid (∀ w, Mds w → Calls Tryz.prog 6 #[.agg #[.int .u64 (l0 x), .int .u64 (l1 x), .int .u64 (l2 x), .int .u64 (l3 x)]] w fun e w' => e = .returned (.bool (fitN x)) ∧ Below w.heap.size w w') := fun w hm => by
  unfold fitN
  by_cases h : x = 0
  · rw [decide_eq_true h]
    exact lfit_zero (fun w hm => Modulus_good kind_n w hm) (eqz6 hx (decide_eq_true h)) w hm
  · rw [decide_eq_false h]
    exact lfit_yes (fun w hm => Modulus_good kind_n w hm) (eqz6 hx (decide_eq_false h)) (fun w => cmp_any hx num_n w) (cmp_lt x nN) w hm

end Go.Proofs.YtncpjgpioajbeaaGreatDoor

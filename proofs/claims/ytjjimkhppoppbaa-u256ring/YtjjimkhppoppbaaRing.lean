import Derived.Test.YtjjimkhppoppbaaHold
import Derived.Test.YtjjimkhppoppbaaRingNum
namespace Go.Proofs.Ytjjimkhppoppbaa
open Go.RowKit Go.Sort

set_option maxHeartbeats 2000000 in
theorem ring_any {n m k : Int} (hn : Num n) (hm : Num m) (hk : Num k) (w : World) :
    Calls Try.prog 4 #[.agg #[.int .u64 (l0 n), .int .u64 (l1 n), .int .u64 (l2 n), .int .u64 (l3 n)], .agg #[.int .u64 (l0 m), .int .u64 (l1 m), .int .u64 (l2 m), .int .u64 (l3 m)], .agg #[.int .u64 (l0 k), .int .u64 (l1 k), .int .u64 (l2 k), .int .u64 (l3 k)]] w fun e w' => e = .returned (.bool true) ∧ Below w.heap.size w w' := by
  have w01 : Word 1 ∧ Word 0 := ⟨⟨by decide, by decide⟩, ⟨by decide, by decide⟩⟩
  have eqy : ∀ n w, (Op.equalIn 10000 24 (.agg #[.int .u64 (l0 n), .int .u64 (l1 n), .int .u64 (l2 n), .int .u64 (l3 n)]) (.agg #[.int .u64 (l0 n), .int .u64 (l1 n), .int .u64 (l2 n), .int .u64 (l3 n)])).run Try.prog w = .ok true w := fun n w => eq_yes w
  have c1 := sumN_comm m n
  have c2 := sumN_assoc n m k
  have c3 := loN_comm m n
  have c4 := loN_assoc n m k
  go_enter Try.func4, Try.ntmps4
  go_wp2_with fail
  refine calls_world (fun W => Below w.heap.size w W ∧ Hold W w.heap.size n ∧ Hold W (w.heap.size + 1) m ∧ Hold W (w.heap.size + 1 + 1) k) ⟨?_, ?_, ?_, ?_⟩ ?_
  · repeat (first | with_reducible exact Below.refl _ _ | with_reducible refine Below.alloc ?_ (by first | omega | (simp; done) | (simp; omega)) _)
  · exact ((Hold.new w n _).alloc _).alloc _
  · have := Hold.new (w.alloc (.cells #[.int .u64 (l0 n), .int .u64 (l1 n), .int .u64 (l2 n), .int .u64 (l3 n)] 24)) m 24
    simp at this
    exact this.alloc _
  · have := Hold.new ((w.alloc (.cells #[.int .u64 (l0 n), .int .u64 (l1 n), .int .u64 (l2 n), .int .u64 (l3 n)] 24)).alloc (.cells #[.int .u64 (l0 m), .int .u64 (l1 m), .int .u64 (l2 m), .int .u64 (l3 m)] 24)) k 24
    simp at this
    exact this
  rintro W ⟨B, hX, hY, hZ⟩
  generalize w.heap.size + 1 + 1 = bz at *
  generalize w.heap.size + 1 = bw at *
  refine (from_any w01.1 W).mono ?_
  rintro e w1 ⟨rfl, hb⟩
  replace B := B.trans (hb.mono B.size)
  replace hX := hX.keep hb; replace hY := hY.keep hb; replace hZ := hZ.keep hb
  clear hb W
  go_wp2_with fail
  refine calls_world (fun W => Below w.heap.size w W ∧ Hold W w.heap.size n ∧ Hold W bw m ∧ Hold W bz k ∧ Hold W w1.heap.size 1) ⟨B.alloc B.size _, hX.alloc _, hY.alloc _, hZ.alloc _, Hold.new _ _ _⟩ ?_
  clear B hX hY hZ
  rintro W ⟨B, hX, hY, hZ, hO⟩
  refine (from_any w01.2 W).mono ?_
  rintro e w2 ⟨rfl, hb⟩
  replace B := B.trans (hb.mono B.size)
  replace hX := hX.keep hb; replace hY := hY.keep hb; replace hZ := hZ.keep hb; replace hO := hO.keep hb
  clear hb W
  go_wp2_with fail
  refine wp_world (fun W => Below w.heap.size w W ∧ Hold W w.heap.size n ∧ Hold W bw m ∧ Hold W bz k ∧ Hold W w1.heap.size 1 ∧ Hold W w2.heap.size 0) ⟨B.alloc B.size _, hX.alloc _, hY.alloc _, hZ.alloc _, hO.alloc _, Hold.new _ _ _⟩ ?_
  clear B hX hY hZ hO
  rintro W ⟨B, hX, hY, hZ, hO, hN⟩
  have gX := hX.grown; have gY := hY.grown; have gZ := hZ.grown
  refine wp_region_quiet_below (by kernel_rfl) (by kernel_rfl) ?_
  repeat
    first
      | go_big_quiet_skip
      | (go_big_quiet_want; go_big_quiet_op; go_big_quiet_on)
      | (go_big_quiet_want
         go_big_quiet_op
         apply Exists.intro
         refine ⟨fun p => ?_, ?_⟩
         · (first | (go_at_call 14; refine Calls.regrown_of (sum_any ?_ ?_ _)) | (go_at_call 15; refine Calls.regrown_of (low_any ?_ ?_ _)) | (go_at_call 13; refine Calls.regrown_of (cmp_any ?_ ?_ _))) <;> (first | assumption | exact sumN_Num _ _ | exact loN_Num _ _ | exact Num_zero | exact Num_one)
         go_big_quiet_on)
  refine wpQuiet_nil ?_
  rintro w3 ⟨p, rfl⟩
  have hb := below_regrown W p.d p.os
  generalize grow (redrawn W p.d) p.os = w3 at *
  replace B := B.trans (hb.mono B.size)
  replace hX := hX.keep hb; replace hY := hY.keep hb; replace hZ := hZ.keep hb; replace hO := hO.keep hb; replace hN := hN.keep hb
  clear hb W c1 c2 c3 c4 gX gY gZ
  go_wp2_with fail
  have gX := hX.grown; have gY := hY.grown; have gZ := hZ.grown; have gO := hO.grown; have gN := hN.grown
  have c5 := loN_sum n m k
  have c6 := sumN_zero hn
  have c7 := loN_one hn
  have c8 := loN_zero n
  have c9 := eq_no Num_one Num_zero (by decide)
  refine wp_region_quiet_below (by kernel_rfl) (by kernel_rfl) ?_
  repeat
    first
      | go_big_quiet_skip
      | (go_big_quiet_want; go_big_quiet_op; go_big_quiet_on)
      | (go_big_quiet_want
         go_big_quiet_op
         apply Exists.intro
         refine ⟨fun p => ?_, ?_⟩
         · (first | (go_at_call 14; refine Calls.regrown_of (sum_any ?_ ?_ _)) | (go_at_call 15; refine Calls.regrown_of (low_any ?_ ?_ _)) | (go_at_call 13; refine Calls.regrown_of (cmp_any ?_ ?_ _))) <;> (first | assumption | exact sumN_Num _ _ | exact loN_Num _ _ | exact Num_zero | exact Num_one)
         go_big_quiet_on)
  refine wpQuiet_nil ?_
  rintro w4 ⟨p, rfl⟩
  have hb := below_regrown w3 p.d p.os
  generalize grow (redrawn w3 p.d) p.os = w4 at *
  replace B := B.trans (hb.mono B.size)
  replace hX := hX.keep hb; replace hY := hY.keep hb; replace hZ := hZ.keep hb; replace hO := hO.keep hb; replace hN := hN.keep hb
  clear hb w3 c5 c6 c7 c8 c9 gX gY gZ gO gN
  obtain ⟨d1, d2⟩ := dif_back hn hm
  have gX := hX.cells; have gY := hY.cells
  go_wp2_with fail
  refine (sub_any hn hm _).mono ?_
  rintro e w5 ⟨rfl, hb⟩
  replace B := B.trans (hb.mono B.size)
  replace hX := hX.keep hb; replace hY := hY.keep hb; replace hZ := hZ.keep hb; replace hO := hO.keep hb; replace hN := hN.keep hb
  clear hb w4 gX gY hZ hO
  have gY := hY.allocs
  go_wp2_with fail
  refine calls_world (fun W => Below w.heap.size w W ∧ Hold W w.heap.size n ∧ Hold W bw m ∧ Hold W w2.heap.size 0 ∧ Hold W w5.heap.size (difN n m)) ⟨B.alloc B.size _, hX.alloc _, hY.alloc _, hN.alloc _, Hold.new _ _ _⟩ ?_
  clear B hX hY hN gY
  rintro W ⟨B, hX, hY, hN, hD⟩
  refine (add_any (difN_Num n m) hm _).mono ?_
  rw [d1, d2]
  rintro e w6 ⟨rfl, hb⟩
  replace B := B.trans (hb.mono B.size)
  replace hX := hX.keep hb; replace hY := hY.keep hb; replace hN := hN.keep hb
  clear hb hD W
  have gX := hX.allocs
  have gY := hY.allocs
  clear d1 d2
  rcases bor_cmp n m with ⟨q1, q2⟩ | ⟨q1, q2⟩
  all_goals
    go_wp2_with fail
    refine calls_world (fun W => Below w.heap.size w W ∧ Hold W w.heap.size n ∧ Hold W bw m ∧ Hold W w2.heap.size 0) ⟨B.alloc B.size _, hX.alloc _, hY.alloc _, hN.alloc _⟩ ?_
    clear B hX hY hN gX gY
    rintro W ⟨B, hX, hY, hN⟩
    refine (cmp_any hn hm _).mono ?_
    rintro e w7 ⟨rfl, hb⟩
    replace B := B.trans (hb.mono B.size)
    replace hX := hX.keep hb; replace hY := hY.keep hb; replace hN := hN.keep hb
    clear hb W
    have gX := hX.cells
    have gY := hY.cells
    go_wp2_with fail
    refine (mul_any hn hm _).mono ?_
    rintro e w8 ⟨rfl, hb⟩
    replace B := B.trans (hb.mono B.size)
    replace hX := hX.keep hb; replace hY := hY.keep hb; replace hN := hN.keep hb
    clear hb w7 gX gY q1 q2
    go_wp2_with fail
    refine wp_world (fun W => Below w.heap.size w W ∧ Hold W w.heap.size n ∧ Hold W bw m ∧ Hold W w2.heap.size 0 ∧ Hold W w8.heap.size (hiN n m) ∧ Hold W (w8.heap.size + 1) (loN n m)) ⟨(B.alloc B.size _).alloc (by have := B.size; simp; omega) _, (hX.alloc _).alloc _, (hY.alloc _).alloc _, (hN.alloc _).alloc _, (Hold.new _ _ _).alloc _, ?_⟩ ?_
    · have := Hold.new (w8.alloc (.cells #[.int .u64 (l0 (hiN n m)), .int .u64 (l1 (hiN n m)), .int .u64 (l2 (hiN n m)), .int .u64 (l3 (hiN n m))] 24)) (loN n m) 24
      simp at this
      exact this
    clear B hX hY hN
    rintro W ⟨B, hX, hY, hN, hH, hL⟩
    generalize w8.heap.size + 1 = bl at *
    have gX := hX.grown; have gY := hY.grown; have gN := hN.grown; have gH := hH.grown; have gL := hL.grown
    rcases prod_cases hn hm with ⟨ca, cb, cc⟩ | ⟨ca, cb, cc, cd⟩ | ⟨ca, cb, cc, cd⟩ | ⟨ca, cb, cc⟩
    · have f1 : ∀ w, (Op.equalIn 10000 24 (.agg #[.int .u64 (l0 (hiN n m)), .int .u64 (l1 (hiN n m)), .int .u64 (l2 (hiN n m)), .int .u64 (l3 (hiN n m))]) (.agg #[.int .u64 (l0 0), .int .u64 (l1 0), .int .u64 (l2 0), .int .u64 (l3 0)])).run Try.prog w = .ok true w := fun w => by rw [eq_num (hiN_Num hn hm) Num_zero, decide_eq_true cb]
      have f2 : ∀ w, (Op.equalIn 10000 24 (.agg #[.int .u64 (l0 (loN n m)), .int .u64 (l1 (loN n m)), .int .u64 (l2 (loN n m)), .int .u64 (l3 (loN n m))]) (.agg #[.int .u64 (l0 0), .int .u64 (l1 0), .int .u64 (l2 0), .int .u64 (l3 0)])).run Try.prog w = .ok true w := fun w => by rw [eq_num (loN_Num n m) Num_zero, decide_eq_true cc]
      have f3 : ∀ w, (Op.equalIn 10000 24 (.agg #[.int .u64 (l0 n), .int .u64 (l1 n), .int .u64 (l2 n), .int .u64 (l3 n)]) (.agg #[.int .u64 (l0 0), .int .u64 (l1 0), .int .u64 (l2 0), .int .u64 (l3 0)])).run Try.prog w = .ok true w := fun w => by rw [eq_num hn Num_zero, decide_eq_true ca]
      clear ca cb cc eqy
      refine wp_region_quiet_below (by kernel_rfl) (by kernel_rfl) ?_
      repeat (first | go_big_quiet_skip | (go_big_quiet_want; go_big_quiet_op; go_big_quiet_on))
      refine wpQuiet_nil ?_
      rintro w9 ⟨p, rfl⟩
      have hb := below_regrown W p.d p.os
      generalize grow (redrawn W p.d) p.os = w9 at *
      go_wp2
      go_ret
      exact ⟨rfl, B.trans (hb.mono B.size)⟩
    · have f1 : ∀ w, (Op.equalIn 10000 24 (.agg #[.int .u64 (l0 (hiN n m)), .int .u64 (l1 (hiN n m)), .int .u64 (l2 (hiN n m)), .int .u64 (l3 (hiN n m))]) (.agg #[.int .u64 (l0 0), .int .u64 (l1 0), .int .u64 (l2 0), .int .u64 (l3 0)])).run Try.prog w = .ok true w := fun w => by rw [eq_num (hiN_Num hn hm) Num_zero, decide_eq_true cc]
      have f2 : ∀ w, (Op.equalIn 10000 24 (.agg #[.int .u64 (l0 (loN n m)), .int .u64 (l1 (loN n m)), .int .u64 (l2 (loN n m)), .int .u64 (l3 (loN n m))]) (.agg #[.int .u64 (l0 0), .int .u64 (l1 0), .int .u64 (l2 0), .int .u64 (l3 0)])).run Try.prog w = .ok true w := fun w => by rw [eq_num (loN_Num n m) Num_zero, decide_eq_true cd]
      have f3 : ∀ w, (Op.equalIn 10000 24 (.agg #[.int .u64 (l0 n), .int .u64 (l1 n), .int .u64 (l2 n), .int .u64 (l3 n)]) (.agg #[.int .u64 (l0 0), .int .u64 (l1 0), .int .u64 (l2 0), .int .u64 (l3 0)])).run Try.prog w = .ok false w := fun w => by rw [eq_num hn Num_zero, decide_eq_false ca]
      have f4 : ∀ w, (Op.equalIn 10000 24 (.agg #[.int .u64 (l0 m), .int .u64 (l1 m), .int .u64 (l2 m), .int .u64 (l3 m)]) (.agg #[.int .u64 (l0 0), .int .u64 (l1 0), .int .u64 (l2 0), .int .u64 (l3 0)])).run Try.prog w = .ok true w := fun w => by rw [eq_num hm Num_zero, decide_eq_true cb]
      clear ca cb cc cd eqy
      refine wp_region_quiet_below (by kernel_rfl) (by kernel_rfl) ?_
      repeat (first | go_big_quiet_skip | (go_big_quiet_want; go_big_quiet_op; go_big_quiet_on))
      refine wpQuiet_nil ?_
      rintro w9 ⟨p, rfl⟩
      have hb := below_regrown W p.d p.os
      generalize grow (redrawn W p.d) p.os = w9 at *
      go_wp2
      go_ret
      exact ⟨rfl, B.trans (hb.mono B.size)⟩
    · have f1 : ∀ w, (Op.equalIn 10000 24 (.agg #[.int .u64 (l0 (hiN n m)), .int .u64 (l1 (hiN n m)), .int .u64 (l2 (hiN n m)), .int .u64 (l3 (hiN n m))]) (.agg #[.int .u64 (l0 0), .int .u64 (l1 0), .int .u64 (l2 0), .int .u64 (l3 0)])).run Try.prog w = .ok true w := fun w => by rw [eq_num (hiN_Num hn hm) Num_zero, decide_eq_true cc]
      have f2 : ∀ w, (Op.equalIn 10000 24 (.agg #[.int .u64 (l0 (loN n m)), .int .u64 (l1 (loN n m)), .int .u64 (l2 (loN n m)), .int .u64 (l3 (loN n m))]) (.agg #[.int .u64 (l0 0), .int .u64 (l1 0), .int .u64 (l2 0), .int .u64 (l3 0)])).run Try.prog w = .ok false w := fun w => by rw [eq_num (loN_Num n m) Num_zero, decide_eq_false cd]
      have f3 : ∀ w, (Op.equalIn 10000 24 (.agg #[.int .u64 (l0 n), .int .u64 (l1 n), .int .u64 (l2 n), .int .u64 (l3 n)]) (.agg #[.int .u64 (l0 0), .int .u64 (l1 0), .int .u64 (l2 0), .int .u64 (l3 0)])).run Try.prog w = .ok false w := fun w => by rw [eq_num hn Num_zero, decide_eq_false ca]
      have f4 : ∀ w, (Op.equalIn 10000 24 (.agg #[.int .u64 (l0 m), .int .u64 (l1 m), .int .u64 (l2 m), .int .u64 (l3 m)]) (.agg #[.int .u64 (l0 0), .int .u64 (l1 0), .int .u64 (l2 0), .int .u64 (l3 0)])).run Try.prog w = .ok false w := fun w => by rw [eq_num hm Num_zero, decide_eq_false cb]
      clear ca cb cc cd eqy
      refine wp_region_quiet_below (by kernel_rfl) (by kernel_rfl) ?_
      repeat (first | go_big_quiet_skip | (go_big_quiet_want; go_big_quiet_op; go_big_quiet_on))
      refine wpQuiet_nil ?_
      rintro w9 ⟨p, rfl⟩
      have hb := below_regrown W p.d p.os
      generalize grow (redrawn W p.d) p.os = w9 at *
      go_wp2
      go_ret
      exact ⟨rfl, B.trans (hb.mono B.size)⟩
    · have f1 : ∀ w, (Op.equalIn 10000 24 (.agg #[.int .u64 (l0 (hiN n m)), .int .u64 (l1 (hiN n m)), .int .u64 (l2 (hiN n m)), .int .u64 (l3 (hiN n m))]) (.agg #[.int .u64 (l0 0), .int .u64 (l1 0), .int .u64 (l2 0), .int .u64 (l3 0)])).run Try.prog w = .ok false w := fun w => by rw [eq_num (hiN_Num hn hm) Num_zero, decide_eq_false cc]
      have f3 : ∀ w, (Op.equalIn 10000 24 (.agg #[.int .u64 (l0 n), .int .u64 (l1 n), .int .u64 (l2 n), .int .u64 (l3 n)]) (.agg #[.int .u64 (l0 0), .int .u64 (l1 0), .int .u64 (l2 0), .int .u64 (l3 0)])).run Try.prog w = .ok false w := fun w => by rw [eq_num hn Num_zero, decide_eq_false ca]
      have f4 : ∀ w, (Op.equalIn 10000 24 (.agg #[.int .u64 (l0 m), .int .u64 (l1 m), .int .u64 (l2 m), .int .u64 (l3 m)]) (.agg #[.int .u64 (l0 0), .int .u64 (l1 0), .int .u64 (l2 0), .int .u64 (l3 0)])).run Try.prog w = .ok false w := fun w => by rw [eq_num hm Num_zero, decide_eq_false cb]
      clear ca cb cc eqy
      refine wp_region_quiet_below (by kernel_rfl) (by kernel_rfl) ?_
      repeat (first | go_big_quiet_skip | (go_big_quiet_want; go_big_quiet_op; go_big_quiet_on))
      refine wpQuiet_nil ?_
      rintro w9 ⟨p, rfl⟩
      have hb := below_regrown W p.d p.os
      generalize grow (redrawn W p.d) p.os = w9 at *
      go_wp2
      go_ret
      exact ⟨rfl, B.trans (hb.mono B.size)⟩

end Go.Proofs.Ytjjimkhppoppbaa

import Derived.Test.YtncpjgpioajbeaaGreatDoorFRef
namespace Go.Proofs.YtncpjgpioajbeaaGreatDoor
open Go.RowKit Go.Sort

set_option maxHeartbeats 1000000 in
theorem rgood_yes {k : Int} (hk : k = 0 ∨ k = 1) (w : World) : Calls Tryz.prog 117 #[.int .i64 k] w fun e w' => e = .returned (.bool true) ∧ Below w.heap.size w w' := by
  rcases hk with rfl | rfl
  · skip
    go_enter Tryz.func117, Tryz.ntmps117
    go_wp2
    simp [bodyPost, results, Tryz.results117, go_sem]
    repeat (first | with_reducible exact Below.refl _ _ | with_reducible refine Below.drew ?_ | with_reducible refine Below.alloc ?_ (by first | omega | (simp; done) | (simp; omega)) _ | with_reducible refine Below.setCell ?_ (by first | omega | (simp; done)) _)
  · skip
    go_enter Tryz.func117, Tryz.ntmps117
    go_wp2
    simp [bodyPost, results, Tryz.results117, go_sem]
    repeat (first | with_reducible exact Below.refl _ _ | with_reducible refine Below.drew ?_ | with_reducible refine Below.alloc ?_ (by first | omega | (simp; done) | (simp; omega)) _ | with_reducible refine Below.setCell ?_ (by first | omega | (simp; done)) _)

set_option maxHeartbeats 2000000 in
theorem rtimes_any {k x y : Int} (hx : Num x) (hy : Num y) (w : World) :
    Calls Tryz.prog 145 #[.int .i64 k, .agg #[.int .u64 (l0 x), .int .u64 (l1 x), .int .u64 (l2 x), .int .u64 (l3 x)], .agg #[.int .u64 (l0 y), .int .u64 (l1 y), .int .u64 (l2 y), .int .u64 (l3 y)]] w fun e w' => e = .returned (.agg #[.int .u64 (l0 (modN (rM k) (x * y))), .int .u64 (l1 (modN (rM k) (x * y))), .int .u64 (l2 (modN (rM k) (x * y))), .int .u64 (l3 (modN (rM k) (x * y)))]) ∧ Below w.heap.size w w' := by
  have M1 : Hid (∀ w, Calls Tryz.prog 154 #[.agg #[.int .u64 (l0 x), .int .u64 (l1 x), .int .u64 (l2 x), .int .u64 (l3 x)], .agg #[.int .u64 (l0 y), .int .u64 (l1 y), .int .u64 (l2 y), .int .u64 (l3 y)]] w fun e w' => e = .returned (.tuple #[.agg #[.int .u64 (l0 (hiN x y)), .int .u64 (l1 (hiN x y)), .int .u64 (l2 (hiN x y)), .int .u64 (l3 (hiN x y))], .agg #[.int .u64 (l0 (loN x y)), .int .u64 (l1 (loN x y)), .int .u64 (l2 (loN x y)), .int .u64 (l3 (loN x y))]]) ∧ Below w.heap.size w w') := rmul_any hx hy
  have R1 : Hid (∀ w, Calls Tryz.prog 135 #[.int .i64 k, .agg #[.int .u64 (l0 (hiN x y)), .int .u64 (l1 (hiN x y)), .int .u64 (l2 (hiN x y)), .int .u64 (l3 (hiN x y))], .agg #[.int .u64 (l0 (loN x y)), .int .u64 (l1 (loN x y)), .int .u64 (l2 (loN x y)), .int .u64 (l3 (loN x y))]] w fun e w' => e = .returned (.agg #[.int .u64 (l0 (modN (rM k) (x * y))), .int .u64 (l1 (modN (rM k) (x * y))), .int .u64 (l2 (modN (rM k) (x * y))), .int .u64 (l3 (modN (rM k) (x * y)))]) ∧ Below w.heap.size w w') := fun w => by
    have := rfold_any (k := k) (hiN_Num hx hy) (loN_Num x y) w; rw [wide_mul] at this; exact this
  generalize modN (rM k) (x * y) = R at *
  generalize hiN x y = H at *
  generalize loN x y = L at *
  go_enter Tryz.func145, Tryz.ntmps145
  go_wp2_with fail
  refine calls_world (fun W => Below w.heap.size w W ∧ Blank W (w.heap.size + 1 + 1)) ⟨by repeat (first | with_reducible exact Below.refl _ _ | with_reducible refine Below.alloc ?_ (by first | omega | (simp; done) | (simp; omega)) _), Blank.new (by simp)⟩ ?_
  rintro W ⟨B, hR⟩
  have o3 : w.heap.size ≤ w.heap.size + 1 + 1 := by omega
  generalize w.heap.size + 1 + 1 = br at *
  with_reducible refine (M1.out _).mono ?_
  rintro e w1 ⟨rfl, hb⟩
  replace B := B.trans (hb.mono B.size)
  replace hR := hR.keep hb
  clear hb W
  go_wp2_with fail
  refine calls_world (fun W => Below w.heap.size w W ∧ Blank W br) ⟨(B.alloc B.size _).alloc (by have := B.size; simp; omega) _, (hR.alloc _).alloc _⟩ ?_
  clear B hR
  rintro W ⟨B, hR⟩
  with_reducible refine (R1.out _).mono ?_
  rintro e w2 ⟨rfl, hb⟩
  replace B := B.trans (hb.mono B.size)
  replace hR := hR.keep hb
  clear hb W
  have gR := hR.1.all4; have fR := hR.2.all4
  go_wp2
  simp [bodyPost, results, Tryz.results145, go_sem, gR]
  exact below_set4 B o3 _ _ _ _

set_option maxHeartbeats 2000000 in
theorem rReduce_good {k x y : Int} (hk : k = 0 ∨ k = 1) (hx : Num x) (hy : Num y) (w : World) :
    Calls Tryz.prog 120 #[.int .i64 k, .agg #[.int .u64 (l0 x), .int .u64 (l1 x), .int .u64 (l2 x), .int .u64 (l3 x)], .agg #[.int .u64 (l0 y), .int .u64 (l1 y), .int .u64 (l2 y), .int .u64 (l3 y)]] w fun e w' => e = .returned (.tuple #[.agg #[.int .u64 (l0 (modN (rM k) (wideN x y))), .int .u64 (l1 (modN (rM k) (wideN x y))), .int .u64 (l2 (modN (rM k) (wideN x y))), .int .u64 (l3 (modN (rM k) (wideN x y)))], .int .i64 0]) ∧ Below w.heap.size w w' := by
  have G : Hid (∀ w, Calls Tryz.prog 117 #[.int .i64 k] w fun e w' => e = .returned (.bool true) ∧ Below w.heap.size w w') := rgood_yes hk
  have C : Hid (∀ w, Calls Tryz.prog 135 #[.int .i64 k, .agg #[.int .u64 (l0 x), .int .u64 (l1 x), .int .u64 (l2 x), .int .u64 (l3 x)], .agg #[.int .u64 (l0 y), .int .u64 (l1 y), .int .u64 (l2 y), .int .u64 (l3 y)]] w fun e w' => e = .returned (.agg #[.int .u64 (l0 (modN (rM k) (wideN x y))), .int .u64 (l1 (modN (rM k) (wideN x y))), .int .u64 (l2 (modN (rM k) (wideN x y))), .int .u64 (l3 (modN (rM k) (wideN x y)))]) ∧ Below w.heap.size w w') := rfold_any hx hy
  generalize (modN (rM k) (wideN x y)) = r at *
  clear hk
  go_enter Tryz.func120, Tryz.ntmps120
  go_wp2_with fail
  refine calls_world (fun W => Below w.heap.size w W ∧ Hold W (w.heap.size) x ∧ Hold W (w.heap.size + 1) y ∧ Blank W (w.heap.size + 1 + 1)) ⟨by repeat (first | with_reducible exact Below.refl _ _ | with_reducible refine Below.alloc ?_ (by first | omega | (simp; done) | (simp; omega)) _), ((Hold.fresh (by simp)).alloc _).alloc _, (Hold.fresh (by simp)).alloc _, Blank.new (by simp)⟩ ?_
  rintro W ⟨B, hX, hY, hR⟩
  have o3 : w.heap.size ≤ w.heap.size + 1 + 1 := by omega
  generalize w.heap.size + 1 + 1 = br at *
  generalize w.heap.size + 1 = bw at *
  with_reducible refine (G.out _).mono ?_
  rintro e w1 ⟨rfl, hb⟩
  replace B := B.trans (hb.mono B.size)
  replace hX := hX.keep hb; replace hY := hY.keep hb; replace hR := hR.keep hb
  clear hb W
  have gX := hX.cells
  have gY := hY.cells
  go_wp2_with fail
  with_reducible refine (C.out _).mono ?_
  rintro e w2 ⟨rfl, hb⟩
  replace B := B.trans (hb.mono B.size)
  replace hR := hR.keep hb
  clear hb hX hY gX gY w1
  have gR := hR.1.all4; have fR := hR.2.all4
  go_wp2
  simp [bodyPost, results, Tryz.results120, go_sem, gR]
  exact below_set4 B o3 _ _ _ _

set_option maxHeartbeats 2000000 in
theorem rMul_good {k x y : Int} (hk : k = 0 ∨ k = 1) (hx : Num x) (hy : Num y) (w : World) :
    Calls Tryz.prog 125 #[.int .i64 k, .agg #[.int .u64 (l0 x), .int .u64 (l1 x), .int .u64 (l2 x), .int .u64 (l3 x)], .agg #[.int .u64 (l0 y), .int .u64 (l1 y), .int .u64 (l2 y), .int .u64 (l3 y)]] w fun e w' => e = .returned (.tuple #[.agg #[.int .u64 (l0 (modN (rM k) (x * y))), .int .u64 (l1 (modN (rM k) (x * y))), .int .u64 (l2 (modN (rM k) (x * y))), .int .u64 (l3 (modN (rM k) (x * y)))], .int .i64 0]) ∧ Below w.heap.size w w' := by
  have G : Hid (∀ w, Calls Tryz.prog 117 #[.int .i64 k] w fun e w' => e = .returned (.bool true) ∧ Below w.heap.size w w') := rgood_yes hk
  have C : Hid (∀ w, Calls Tryz.prog 145 #[.int .i64 k, .agg #[.int .u64 (l0 x), .int .u64 (l1 x), .int .u64 (l2 x), .int .u64 (l3 x)], .agg #[.int .u64 (l0 y), .int .u64 (l1 y), .int .u64 (l2 y), .int .u64 (l3 y)]] w fun e w' => e = .returned (.agg #[.int .u64 (l0 (modN (rM k) (x * y))), .int .u64 (l1 (modN (rM k) (x * y))), .int .u64 (l2 (modN (rM k) (x * y))), .int .u64 (l3 (modN (rM k) (x * y)))]) ∧ Below w.heap.size w w') := rtimes_any hx hy
  generalize (modN (rM k) (x * y)) = r at *
  clear hk
  go_enter Tryz.func125, Tryz.ntmps125
  go_wp2_with fail
  refine calls_world (fun W => Below w.heap.size w W ∧ Hold W (w.heap.size) x ∧ Hold W (w.heap.size + 1) y ∧ Blank W (w.heap.size + 1 + 1)) ⟨by repeat (first | with_reducible exact Below.refl _ _ | with_reducible refine Below.alloc ?_ (by first | omega | (simp; done) | (simp; omega)) _), ((Hold.fresh (by simp)).alloc _).alloc _, (Hold.fresh (by simp)).alloc _, Blank.new (by simp)⟩ ?_
  rintro W ⟨B, hX, hY, hR⟩
  have o3 : w.heap.size ≤ w.heap.size + 1 + 1 := by omega
  generalize w.heap.size + 1 + 1 = br at *
  generalize w.heap.size + 1 = bw at *
  with_reducible refine (G.out _).mono ?_
  rintro e w1 ⟨rfl, hb⟩
  replace B := B.trans (hb.mono B.size)
  replace hX := hX.keep hb; replace hY := hY.keep hb; replace hR := hR.keep hb
  clear hb W
  have gX := hX.cells
  have gY := hY.cells
  go_wp2_with fail
  with_reducible refine (C.out _).mono ?_
  rintro e w2 ⟨rfl, hb⟩
  replace B := B.trans (hb.mono B.size)
  replace hR := hR.keep hb
  clear hb hX hY gX gY w1
  have gR := hR.1.all4; have fR := hR.2.all4
  go_wp2
  simp [bodyPost, results, Tryz.results125, go_sem, gR]
  exact below_set4 B o3 _ _ _ _

end Go.Proofs.YtncpjgpioajbeaaGreatDoor

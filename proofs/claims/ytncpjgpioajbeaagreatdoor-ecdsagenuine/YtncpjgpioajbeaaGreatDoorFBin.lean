import Derived.Test.YtncpjgpioajbeaaGreatDoorFOf
import Derived.Test.YtncpjgpioajbeaaGreatDoorFAdd
namespace Go.Proofs.YtncpjgpioajbeaaGreatDoor
open Go.RowKit Go.Sort

/-- k is a kind; m its modulus, c what is left of 2^256. -/
structure Kind (k m c : Int) : Prop where
  em : kM k = m
  ec : kC k = c
  ee : kE k = 0
  fit : Fit m c
theorem kind_p : Kind 0 pN pC := ⟨rfl, rfl, rfl, fit_p⟩
theorem kind_n : Kind 1 nN nC := ⟨rfl, rfl, rfl, fit_n⟩
theorem of_good {k m c : Int} (h : Kind k m c) (w : World) (hm : Mds w) :
    Calls Tryz.prog 36 #[.int .i64 k] w fun e w' => e = .returned (.tuple #[.agg #[.int .u64 (l0 m), .int .u64 (l1 m), .int .u64 (l2 m), .int .u64 (l3 m), .int .u64 (l0 c), .int .u64 (l1 c), .int .u64 (l2 c), .int .u64 (l3 c)], .int .i64 0]) ∧ Below w.heap.size w w' := by
  have := of_any k w hm
  rw [h.em, h.ec, h.ee] at this
  exact this
set_option maxHeartbeats 2000000 in
theorem Reduce_good {k m c x y : Int} (hk : Kind k m c) (hx : Num x) (hy : Num y) (w : World) (hm : Mds w) :
    Calls Tryz.prog 79 #[.int .i64 k, .agg #[.int .u64 (l0 x), .int .u64 (l1 x), .int .u64 (l2 x), .int .u64 (l3 x)], .agg #[.int .u64 (l0 y), .int .u64 (l1 y), .int .u64 (l2 y), .int .u64 (l3 y)]] w fun e w' => e = .returned (.tuple #[.agg #[.int .u64 (l0 (modN m (wideN x y))), .int .u64 (l1 (modN m (wideN x y))), .int .u64 (l2 (modN m (wideN x y))), .int .u64 (l3 (modN m (wideN x y)))], .int .i64 0]) ∧ Below w.heap.size w w' := by
  have C : Hid (∀ w, Calls Tryz.prog 109 #[.agg #[.int .u64 (l0 m), .int .u64 (l1 m), .int .u64 (l2 m), .int .u64 (l3 m), .int .u64 (l0 c), .int .u64 (l1 c), .int .u64 (l2 c), .int .u64 (l3 c)], .agg #[.int .u64 (l0 x), .int .u64 (l1 x), .int .u64 (l2 x), .int .u64 (l3 x)], .agg #[.int .u64 (l0 y), .int .u64 (l1 y), .int .u64 (l2 y), .int .u64 (l3 y)]] w fun e w' => e = .returned (.agg #[.int .u64 (l0 (modN m (wideN x y))), .int .u64 (l1 (modN m (wideN x y))), .int .u64 (l2 (modN m (wideN x y))), .int .u64 (l3 (modN m (wideN x y)))]) ∧ Below w.heap.size w w') := freduce_any hk.fit hx hy
  generalize (modN m (wideN x y)) = r at *
  go_enter Tryz.func79, Tryz.ntmps79
  go_wp2_with fail
  refine calls_world (fun W => Below w.heap.size w W ∧ Mds W ∧ Hold W w.heap.size x ∧ Hold W (w.heap.size + 1) y ∧ Blank W (w.heap.size + 1 + 1)) ⟨by repeat (first | with_reducible exact Below.refl _ _ | with_reducible refine Below.alloc ?_ (by first | omega | (simp; done) | (simp; omega)) _), ((hm.alloc _).alloc _).alloc _, ((Hold.fresh (by simp)).alloc _).alloc _, (Hold.fresh (by simp)).alloc _, Blank.new (by simp)⟩ ?_
  rintro W ⟨B, hD, hX, hY, hR⟩
  have o3 : w.heap.size ≤ w.heap.size + 1 + 1 := by omega
  generalize w.heap.size + 1 + 1 = br at *
  generalize w.heap.size + 1 = bw at *
  with_reducible refine (of_good hk _ hD).mono ?_
  rintro e w1 ⟨rfl, hb⟩
  replace B := B.trans (hb.mono B.size)
  replace hX := hX.keep hb; replace hY := hY.keep hb; replace hR := hR.keep hb
  clear hb hD W
  have gX := hX.allocs; have gY := hY.allocs
  go_wp2_with fail
  refine calls_world (fun W => Below w.heap.size w W ∧ Blank W br) ⟨B.alloc B.size _, hR.alloc _⟩ ?_
  clear B hX hY hR gX gY
  rintro W ⟨B, hR⟩
  with_reducible refine (C.out _).mono ?_
  rintro e w2 ⟨rfl, hb⟩
  replace B := B.trans (hb.mono B.size)
  replace hR := hR.keep hb
  clear hb W
  have gR := hR.1.all4; have fR := hR.2.all4
  go_wp2
  simp [bodyPost, results, Tryz.results79, go_sem, gR]
  exact below_set4 B o3 _ _ _ _

set_option maxHeartbeats 2000000 in
theorem Add_good {k m c x y : Int} (hk : Kind k m c) (hx : Num x) (hy : Num y) (w : World) (hm : Mds w) :
    Calls Tryz.prog 80 #[.int .i64 k, .agg #[.int .u64 (l0 x), .int .u64 (l1 x), .int .u64 (l2 x), .int .u64 (l3 x)], .agg #[.int .u64 (l0 y), .int .u64 (l1 y), .int .u64 (l2 y), .int .u64 (l3 y)]] w fun e w' => e = .returned (.tuple #[.agg #[.int .u64 (l0 (modN m (x + y))), .int .u64 (l1 (modN m (x + y))), .int .u64 (l2 (modN m (x + y))), .int .u64 (l3 (modN m (x + y)))], .int .i64 0]) ∧ Below w.heap.size w w' := by
  have C : Hid (∀ w, Calls Tryz.prog 110 #[.agg #[.int .u64 (l0 m), .int .u64 (l1 m), .int .u64 (l2 m), .int .u64 (l3 m), .int .u64 (l0 c), .int .u64 (l1 c), .int .u64 (l2 c), .int .u64 (l3 c)], .agg #[.int .u64 (l0 x), .int .u64 (l1 x), .int .u64 (l2 x), .int .u64 (l3 x)], .agg #[.int .u64 (l0 y), .int .u64 (l1 y), .int .u64 (l2 y), .int .u64 (l3 y)]] w fun e w' => e = .returned (.agg #[.int .u64 (l0 (modN m (x + y))), .int .u64 (l1 (modN m (x + y))), .int .u64 (l2 (modN m (x + y))), .int .u64 (l3 (modN m (x + y)))]) ∧ Below w.heap.size w w') := fadd_any hk.fit hx hy
  generalize (modN m (x + y)) = r at *
  go_enter Tryz.func80, Tryz.ntmps80
  go_wp2_with fail
  refine calls_world (fun W => Below w.heap.size w W ∧ Mds W ∧ Hold W w.heap.size x ∧ Hold W (w.heap.size + 1) y ∧ Blank W (w.heap.size + 1 + 1)) ⟨by repeat (first | with_reducible exact Below.refl _ _ | with_reducible refine Below.alloc ?_ (by first | omega | (simp; done) | (simp; omega)) _), ((hm.alloc _).alloc _).alloc _, ((Hold.fresh (by simp)).alloc _).alloc _, (Hold.fresh (by simp)).alloc _, Blank.new (by simp)⟩ ?_
  rintro W ⟨B, hD, hX, hY, hR⟩
  have o3 : w.heap.size ≤ w.heap.size + 1 + 1 := by omega
  generalize w.heap.size + 1 + 1 = br at *
  generalize w.heap.size + 1 = bw at *
  with_reducible refine (of_good hk _ hD).mono ?_
  rintro e w1 ⟨rfl, hb⟩
  replace B := B.trans (hb.mono B.size)
  replace hX := hX.keep hb; replace hY := hY.keep hb; replace hR := hR.keep hb
  clear hb hD W
  have gX := hX.allocs; have gY := hY.allocs
  go_wp2_with fail
  refine calls_world (fun W => Below w.heap.size w W ∧ Blank W br) ⟨B.alloc B.size _, hR.alloc _⟩ ?_
  clear B hX hY hR gX gY
  rintro W ⟨B, hR⟩
  with_reducible refine (C.out _).mono ?_
  rintro e w2 ⟨rfl, hb⟩
  replace B := B.trans (hb.mono B.size)
  replace hR := hR.keep hb
  clear hb W
  have gR := hR.1.all4; have fR := hR.2.all4
  go_wp2
  simp [bodyPost, results, Tryz.results80, go_sem, gR]
  exact below_set4 B o3 _ _ _ _

set_option maxHeartbeats 2000000 in
theorem Sub_good {k m c x y : Int} (hk : Kind k m c) (hx : Num x) (hy : Num y) (w : World) (hm : Mds w) :
    Calls Tryz.prog 116 #[.int .i64 k, .agg #[.int .u64 (l0 x), .int .u64 (l1 x), .int .u64 (l2 x), .int .u64 (l3 x)], .agg #[.int .u64 (l0 y), .int .u64 (l1 y), .int .u64 (l2 y), .int .u64 (l3 y)]] w fun e w' => e = .returned (.tuple #[.agg #[.int .u64 (l0 (modN m (x - y))), .int .u64 (l1 (modN m (x - y))), .int .u64 (l2 (modN m (x - y))), .int .u64 (l3 (modN m (x - y)))], .int .i64 0]) ∧ Below w.heap.size w w' := by
  have C : Hid (∀ w, Calls Tryz.prog 88 #[.agg #[.int .u64 (l0 m), .int .u64 (l1 m), .int .u64 (l2 m), .int .u64 (l3 m), .int .u64 (l0 c), .int .u64 (l1 c), .int .u64 (l2 c), .int .u64 (l3 c)], .agg #[.int .u64 (l0 x), .int .u64 (l1 x), .int .u64 (l2 x), .int .u64 (l3 x)], .agg #[.int .u64 (l0 y), .int .u64 (l1 y), .int .u64 (l2 y), .int .u64 (l3 y)]] w fun e w' => e = .returned (.agg #[.int .u64 (l0 (modN m (x - y))), .int .u64 (l1 (modN m (x - y))), .int .u64 (l2 (modN m (x - y))), .int .u64 (l3 (modN m (x - y)))]) ∧ Below w.heap.size w w') := fsub_any hk.fit hx hy
  generalize (modN m (x - y)) = r at *
  go_enter Tryz.func116, Tryz.ntmps116
  go_wp2_with fail
  refine calls_world (fun W => Below w.heap.size w W ∧ Mds W ∧ Hold W w.heap.size x ∧ Hold W (w.heap.size + 1) y ∧ Blank W (w.heap.size + 1 + 1)) ⟨by repeat (first | with_reducible exact Below.refl _ _ | with_reducible refine Below.alloc ?_ (by first | omega | (simp; done) | (simp; omega)) _), ((hm.alloc _).alloc _).alloc _, ((Hold.fresh (by simp)).alloc _).alloc _, (Hold.fresh (by simp)).alloc _, Blank.new (by simp)⟩ ?_
  rintro W ⟨B, hD, hX, hY, hR⟩
  have o3 : w.heap.size ≤ w.heap.size + 1 + 1 := by omega
  generalize w.heap.size + 1 + 1 = br at *
  generalize w.heap.size + 1 = bw at *
  with_reducible refine (of_good hk _ hD).mono ?_
  rintro e w1 ⟨rfl, hb⟩
  replace B := B.trans (hb.mono B.size)
  replace hX := hX.keep hb; replace hY := hY.keep hb; replace hR := hR.keep hb
  clear hb hD W
  have gX := hX.allocs; have gY := hY.allocs
  go_wp2_with fail
  refine calls_world (fun W => Below w.heap.size w W ∧ Blank W br) ⟨B.alloc B.size _, hR.alloc _⟩ ?_
  clear B hX hY hR gX gY
  rintro W ⟨B, hR⟩
  with_reducible refine (C.out _).mono ?_
  rintro e w2 ⟨rfl, hb⟩
  replace B := B.trans (hb.mono B.size)
  replace hR := hR.keep hb
  clear hb W
  have gR := hR.1.all4; have fR := hR.2.all4
  go_wp2
  simp [bodyPost, results, Tryz.results116, go_sem, gR]
  exact below_set4 B o3 _ _ _ _

set_option maxHeartbeats 2000000 in
theorem Mul_good {k m c x y : Int} (hk : Kind k m c) (hx : Num x) (hy : Num y) (w : World) (hm : Mds w) :
    Calls Tryz.prog 53 #[.int .i64 k, .agg #[.int .u64 (l0 x), .int .u64 (l1 x), .int .u64 (l2 x), .int .u64 (l3 x)], .agg #[.int .u64 (l0 y), .int .u64 (l1 y), .int .u64 (l2 y), .int .u64 (l3 y)]] w fun e w' => e = .returned (.tuple #[.agg #[.int .u64 (l0 (modN m (x * y))), .int .u64 (l1 (modN m (x * y))), .int .u64 (l2 (modN m (x * y))), .int .u64 (l3 (modN m (x * y)))], .int .i64 0]) ∧ Below w.heap.size w w' := by
  have C : Hid (∀ w, Calls Tryz.prog 86 #[.agg #[.int .u64 (l0 m), .int .u64 (l1 m), .int .u64 (l2 m), .int .u64 (l3 m), .int .u64 (l0 c), .int .u64 (l1 c), .int .u64 (l2 c), .int .u64 (l3 c)], .agg #[.int .u64 (l0 x), .int .u64 (l1 x), .int .u64 (l2 x), .int .u64 (l3 x)], .agg #[.int .u64 (l0 y), .int .u64 (l1 y), .int .u64 (l2 y), .int .u64 (l3 y)]] w fun e w' => e = .returned (.agg #[.int .u64 (l0 (modN m (x * y))), .int .u64 (l1 (modN m (x * y))), .int .u64 (l2 (modN m (x * y))), .int .u64 (l3 (modN m (x * y)))]) ∧ Below w.heap.size w w') := fmul_any hk.fit hx hy
  generalize (modN m (x * y)) = r at *
  go_enter Tryz.func53, Tryz.ntmps53
  go_wp2_with fail
  refine calls_world (fun W => Below w.heap.size w W ∧ Mds W ∧ Hold W w.heap.size x ∧ Hold W (w.heap.size + 1) y ∧ Blank W (w.heap.size + 1 + 1)) ⟨by repeat (first | with_reducible exact Below.refl _ _ | with_reducible refine Below.alloc ?_ (by first | omega | (simp; done) | (simp; omega)) _), ((hm.alloc _).alloc _).alloc _, ((Hold.fresh (by simp)).alloc _).alloc _, (Hold.fresh (by simp)).alloc _, Blank.new (by simp)⟩ ?_
  rintro W ⟨B, hD, hX, hY, hR⟩
  have o3 : w.heap.size ≤ w.heap.size + 1 + 1 := by omega
  generalize w.heap.size + 1 + 1 = br at *
  generalize w.heap.size + 1 = bw at *
  with_reducible refine (of_good hk _ hD).mono ?_
  rintro e w1 ⟨rfl, hb⟩
  replace B := B.trans (hb.mono B.size)
  replace hX := hX.keep hb; replace hY := hY.keep hb; replace hR := hR.keep hb
  clear hb hD W
  have gX := hX.allocs; have gY := hY.allocs
  go_wp2_with fail
  refine calls_world (fun W => Below w.heap.size w W ∧ Blank W br) ⟨B.alloc B.size _, hR.alloc _⟩ ?_
  clear B hX hY hR gX gY
  rintro W ⟨B, hR⟩
  with_reducible refine (C.out _).mono ?_
  rintro e w2 ⟨rfl, hb⟩
  replace B := B.trans (hb.mono B.size)
  replace hR := hR.keep hb
  clear hb W
  have gR := hR.1.all4; have fR := hR.2.all4
  go_wp2
  simp [bodyPost, results, Tryz.results53, go_sem, gR]
  exact below_set4 B o3 _ _ _ _

end Go.Proofs.YtncpjgpioajbeaaGreatDoor

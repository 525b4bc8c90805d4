import Derived.Test.YtncpjgpioajbeaaGreatDoorFExp
import Derived.Test.YtncpjgpioajbeaaGreatDoorFAdd
import Derived.Test.YtncpjgpioajbeaaGreatDoorAdd
import Derived.Test.YtncpjgpioajbeaaGreatDoorHold
import Derived.Test.YtncpjgpioajbeaaGreatDoorLen
import Derived.Test.YtncpjgpioajbeaaGreatDoorRefNum
import Derived.Test.YtncpjgpioajbeaaGreatDoorFReduce
import Derived.Deep.LoopGhost
import Derived.Deep.RegionHeld3
namespace Go.Proofs.YtncpjgpioajbeaaGreatDoor
open Go.RowKit Go.Sort

/-- k is a kind; m its modulus, c what is left of 2^256. -/
structure Kind (k m c : Int) : Prop where
  em : kM k = m
  ec : kC k = c
  ee : kE k = 0
  fit : Fit m c
theorem kind_p : Kind 0 pN pC := ⟨rfl, rfl, rfl, fit_p⟩
theorem kind_n : Kind 1 nN nC := ⟨rfl, rfl, rfl, fit_n⟩
theorem of_good {k m c : Int} (h : Kind k m c) (w : World) (hm : Mds w) :
    Calls Tryz.prog 36 #[.int .i64 k] w fun e w' => e = .returned (.tuple #[.agg #[.int .u64 (l0 m), .int .u64 (l1 m), .int .u64 (l2 m), .int .u64 (l3 m), .int .u64 (l0 c), .int .u64 (l1 c), .int .u64 (l2 c), .int .u64 (l3 c)], .int .i64 0]) ∧ Below w.heap.size w w' := by
  have := of_any k w hm
  rw [h.em, h.ec, h.ee] at this
  exact this
set_option maxHeartbeats 2000000 in
theorem Reduce_good {k m c x y : Int} (hk : Kind k m c) (hx : Num x) (hy : Num y) (w : World) (hm : Mds w) :
    Calls Tryz.prog 79 #[.int .i64 k, .agg #[.int .u64 (l0 x), .int .u64 (l1 x), .int .u64 (l2 x), .int .u64 (l3 x)], .agg #[.int .u64 (l0 y), .int .u64 (l1 y), .int .u64 (l2 y), .int .u64 (l3 y)]] w fun e w' => e = .returned (.tuple #[.agg #[.int .u64 (l0 (modN m (wideN x y))), .int .u64 (l1 (modN m (wideN x y))), .int .u64 (l2 (modN m (wideN x y))), .int .u64 (l3 (modN m (wideN x y)))], .int .i64 0]) ∧ Below w.heap.size w w' := by
  have C : Hid (∀ w, Calls Tryz.prog 109 #[.agg #[.int .u64 (l0 m), .int .u64 (l1 m), .int .u64 (l2 m), .int .u64 (l3 m), .int .u64 (l0 c), .int .u64 (l1 c), .int .u64 (l2 c), .int .u64 (l3 c)], .agg #[.int .u64 (l0 x), .int .u64 (l1 x), .int .u64 (l2 x), .int .u64 (l3 x)], .agg #[.int .u64 (l0 y), .int .u64 (l1 y), .int .u64 (l2 y), .int .u64 (l3 y)]] w fun e w' => e = .returned (.agg #[.int .u64 (l0 (modN m (wideN x y))), .int .u64 (l1 (modN m (wideN x y))), .int .u64 (l2 (modN m (wideN x y))), .int .u64 (l3 (modN m (wideN x y)))]) ∧ Below w.heap.size w w') := freduce_any hk.fit hx hy
  generalize (modN m (wideN x y)) = r at *
  go_enter Tryz.func79, Tryz.ntmps79
  go_wp2_with fail
  refine calls_world (fun W => Below w.heap.size w W ∧ Mds W ∧ Hold W w.heap.size x ∧ Hold W (w.heap.size + 1) y ∧ Blank W (w.heap.size + 1 + 1)) ⟨by repeat (first | with_reducible exact Below.refl _ _ | with_reducible refine Below.alloc ?_ (by first | omega | (simp; done) | (simp; omega)) _), ((hm.alloc _).alloc _).alloc _, ((Hold.fresh (by simp)).alloc _).alloc _, (Hold.fresh (by simp)).alloc _, Blank.new (by simp)⟩ ?_
  rintro W ⟨B, hD, hX, hY, hR⟩
  have o3 : w.heap.size ≤ w.heap.size + 1 + 1 := by omega
  generalize w.heap.size + 1 + 1 = br at *
  generalize w.heap.size + 1 = bw at *
  with_reducible refine (of_good hk _ hD).mono ?_
  rintro e w1 ⟨rfl, hb⟩
  replace B := B.trans (hb.mono B.size)
  replace hX := hX.keep hb; replace hY := hY.keep hb; replace hR := hR.keep hb
  clear hb hD W
  have gX := hX.allocs; have gY := hY.allocs
  go_wp2_with fail
  refine calls_world (fun W => Below w.heap.size w W ∧ Blank W br) ⟨B.alloc B.size _, hR.alloc _⟩ ?_
  clear B hX hY hR gX gY
  rintro W ⟨B, hR⟩
  with_reducible refine (C.out _).mono ?_
  rintro e w2 ⟨rfl, hb⟩
  replace B := B.trans (hb.mono B.size)
  replace hR := hR.keep hb
  clear hb W
  have gR := hR.1.all4; have fR := hR.2.all4
  go_wp2
  simp [bodyPost, results, Tryz.results79, go_sem, gR]
  exact below_set4 B o3 _ _ _ _

set_option maxHeartbeats 2000000 in
theorem Add_good {k m c x y : Int} (hk : Kind k m c) (hx : Num x) (hy : Num y) (w : World) (hm : Mds w) :
    Calls Tryz.prog 80 #[.int .i64 k, .agg #[.int .u64 (l0 x), .int .u64 (l1 x), .int .u64 (l2 x), .int .u64 (l3 x)], .agg #[.int .u64 (l0 y), .int .u64 (l1 y), .int .u64 (l2 y), .int .u64 (l3 y)]] w fun e w' => e = .returned (.tuple #[.agg #[.int .u64 (l0 (modN m (x + y))), .int .u64 (l1 (modN m (x + y))), .int .u64 (l2 (modN m (x + y))), .int .u64 (l3 (modN m (x + y)))], .int .i64 0]) ∧ Below w.heap.size w w' := by
  have C : Hid (∀ w, Calls Tryz.prog 110 #[.agg #[.int .u64 (l0 m), .int .u64 (l1 m), .int .u64 (l2 m), .int .u64 (l3 m), .int .u64 (l0 c), .int .u64 (l1 c), .int .u64 (l2 c), .int .u64 (l3 c)], .agg #[.int .u64 (l0 x), .int .u64 (l1 x), .int .u64 (l2 x), .int .u64 (l3 x)], .agg #[.int .u64 (l0 y), .int .u64 (l1 y), .int .u64 (l2 y), .int .u64 (l3 y)]] w fun e w' => e = .returned (.agg #[.int .u64 (l0 (modN m (x + y))), .int .u64 (l1 (modN m (x + y))), .int .u64 (l2 (modN m (x + y))), .int .u64 (l3 (modN m (x + y)))]) ∧ Below w.heap.size w w') := fadd_any hk.fit hx hy
  generalize (modN m (x + y)) = r at *
  go_enter Tryz.func80, Tryz.ntmps80
  go_wp2_with fail
  refine calls_world (fun W => Below w.heap.size w W ∧ Mds W ∧ Hold W w.heap.size x ∧ Hold W (w.heap.size + 1) y ∧ Blank W (w.heap.size + 1 + 1)) ⟨by repeat (first | with_reducible exact Below.refl _ _ | with_reducible refine Below.alloc ?_ (by first | omega | (simp; done) | (simp; omega)) _), ((hm.alloc _).alloc _).alloc _, ((Hold.fresh (by simp)).alloc _).alloc _, (Hold.fresh (by simp)).alloc _, Blank.new (by simp)⟩ ?_
  rintro W ⟨B, hD, hX, hY, hR⟩
  have o3 : w.heap.size ≤ w.heap.size + 1 + 1 := by omega
  generalize w.heap.size + 1 + 1 = br at *
  generalize w.heap.size + 1 = bw at *
  with_reducible refine (of_good hk _ hD).mono ?_
  rintro e w1 ⟨rfl, hb⟩
  replace B := B.trans (hb.mono B.size)
  replace hX := hX.keep hb; replace hY := hY.keep hb; replace hR := hR.keep hb
  clear hb hD W
  have gX := hX.allocs; have gY := hY.allocs
  go_wp2_with fail
  refine calls_world (fun W => Below w.heap.size w W ∧ Blank W br) ⟨B.alloc B.size _, hR.alloc _⟩ ?_
  clear B hX hY hR gX gY
  rintro W ⟨B, hR⟩
  with_reducible refine (C.out _).mono ?_
  rintro e w2 ⟨rfl, hb⟩
  replace B := B.trans (hb.mono B.size)
  replace hR := hR.keep hb
  clear hb W
  have gR := hR.1.all4; have fR := hR.2.all4
  go_wp2
  simp [bodyPost, results, Tryz.results80, go_sem, gR]
  exact below_set4 B o3 _ _ _ _

set_option maxHeartbeats 2000000 in
theorem Sub_good {k m c x y : Int} (hk : Kind k m c) (hx : Num x) (hy : Num y) (w : World) (hm : Mds w) :
    Calls Tryz.prog 116 #[.int .i64 k, .agg #[.int .u64 (l0 x), .int .u64 (l1 x), .int .u64 (l2 x), .int .u64 (l3 x)], .agg #[.int .u64 (l0 y), .int .u64 (l1 y), .int .u64 (l2 y), .int .u64 (l3 y)]] w fun e w' => e = .returned (.tuple #[.agg #[.int .u64 (l0 (modN m (x - y))), .int .u64 (l1 (modN m (x - y))), .int .u64 (l2 (modN m (x - y))), .int .u64 (l3 (modN m (x - y)))], .int .i64 0]) ∧ Below w.heap.size w w' := by
  have C : Hid (∀ w, Calls Tryz.prog 88 #[.agg #[.int .u64 (l0 m), .int .u64 (l1 m), .int .u64 (l2 m), .int .u64 (l3 m), .int .u64 (l0 c), .int .u64 (l1 c), .int .u64 (l2 c), .int .u64 (l3 c)], .agg #[.int .u64 (l0 x), .int .u64 (l1 x), .int .u64 (l2 x), .int .u64 (l3 x)], .agg #[.int .u64 (l0 y), .int .u64 (l1 y), .int .u64 (l2 y), .int .u64 (l3 y)]] w fun e w' => e = .returned (.agg #[.int .u64 (l0 (modN m (x - y))), .int .u64 (l1 (modN m (x - y))), .int .u64 (l2 (modN m (x - y))), .int .u64 (l3 (modN m (x - y)))]) ∧ Below w.heap.size w w') := fsub_any hk.fit hx hy
  generalize (modN m (x - y)) = r at *
  go_enter Tryz.func116, Tryz.ntmps116
  go_wp2_with fail
  refine calls_world (fun W => Below w.heap.size w W ∧ Mds W ∧ Hold W w.heap.size x ∧ Hold W (w.heap.size + 1) y ∧ Blank W (w.heap.size + 1 + 1)) ⟨by repeat (first | with_reducible exact Below.refl _ _ | with_reducible refine Below.alloc ?_ (by first | omega | (simp; done) | (simp; omega)) _), ((hm.alloc _).alloc _).alloc _, ((Hold.fresh (by simp)).alloc _).alloc _, (Hold.fresh (by simp)).alloc _, Blank.new (by simp)⟩ ?_
  rintro W ⟨B, hD, hX, hY, hR⟩
  have o3 : w.heap.size ≤ w.heap.size + 1 + 1 := by omega
  generalize w.heap.size + 1 + 1 = br at *
  generalize w.heap.size + 1 = bw at *
  with_reducible refine (of_good hk _ hD).mono ?_
  rintro e w1 ⟨rfl, hb⟩
  replace B := B.trans (hb.mono B.size)
  replace hX := hX.keep hb; replace hY := hY.keep hb; replace hR := hR.keep hb
  clear hb hD W
  have gX := hX.allocs; have gY := hY.allocs
  go_wp2_with fail
  refine calls_world (fun W => Below w.heap.size w W ∧ Blank W br) ⟨B.alloc B.size _, hR.alloc _⟩ ?_
  clear B hX hY hR gX gY
  rintro W ⟨B, hR⟩
  with_reducible refine (C.out _).mono ?_
  rintro e w2 ⟨rfl, hb⟩
  replace B := B.trans (hb.mono B.size)
  replace hR := hR.keep hb
  clear hb W
  have gR := hR.1.all4; have fR := hR.2.all4
  go_wp2
  simp [bodyPost, results, Tryz.results116, go_sem, gR]
  exact below_set4 B o3 _ _ _ _

set_option maxHeartbeats 2000000 in
theorem Mul_good {k m c x y : Int} (hk : Kind k m c) (hx : Num x) (hy : Num y) (w : World) (hm : Mds w) :
    Calls Tryz.prog 53 #[.int .i64 k, .agg #[.int .u64 (l0 x), .int .u64 (l1 x), .int .u64 (l2 x), .int .u64 (l3 x)], .agg #[.int .u64 (l0 y), .int .u64 (l1 y), .int .u64 (l2 y), .int .u64 (l3 y)]] w fun e w' => e = .returned (.tuple #[.agg #[.int .u64 (l0 (modN m (x * y))), .int .u64 (l1 (modN m (x * y))), .int .u64 (l2 (modN m (x * y))), .int .u64 (l3 (modN m (x * y)))], .int .i64 0]) ∧ Below w.heap.size w w' := by
  have C : Hid (∀ w, Calls Tryz.prog 86 #[.agg #[.int .u64 (l0 m), .int .u64 (l1 m), .int .u64 (l2 m), .int .u64 (l3 m), .int .u64 (l0 c), .int .u64 (l1 c), .int .u64 (l2 c), .int .u64 (l3 c)], .agg #[.int .u64 (l0 x), .int .u64 (l1 x), .int .u64 (l2 x), .int .u64 (l3 x)], .agg #[.int .u64 (l0 y), .int .u64 (l1 y), .int .u64 (l2 y), .int .u64 (l3 y)]] w fun e w' => e = .returned (.agg #[.int .u64 (l0 (modN m (x * y))), .int .u64 (l1 (modN m (x * y))), .int .u64 (l2 (modN m (x * y))), .int .u64 (l3 (modN m (x * y)))]) ∧ Below w.heap.size w w') := fmul_any hk.fit hx hy
  generalize (modN m (x * y)) = r at *
  go_enter Tryz.func53, Tryz.ntmps53
  go_wp2_with fail
  refine calls_world (fun W => Below w.heap.size w W ∧ Mds W ∧ Hold W w.heap.size x ∧ Hold W (w.heap.size + 1) y ∧ Blank W (w.heap.size + 1 + 1)) ⟨by repeat (first | with_reducible exact Below.refl _ _ | with_reducible refine Below.alloc ?_ (by first | omega | (simp; done) | (simp; omega)) _), ((hm.alloc _).alloc _).alloc _, ((Hold.fresh (by simp)).alloc _).alloc _, (Hold.fresh (by simp)).alloc _, Blank.new (by simp)⟩ ?_
  rintro W ⟨B, hD, hX, hY, hR⟩
  have o3 : w.heap.size ≤ w.heap.size + 1 + 1 := by omega
  generalize w.heap.size + 1 + 1 = br at *
  generalize w.heap.size + 1 = bw at *
  with_reducible refine (of_good hk _ hD).mono ?_
  rintro e w1 ⟨rfl, hb⟩
  replace B := B.trans (hb.mono B.size)
  replace hX := hX.keep hb; replace hY := hY.keep hb; replace hR := hR.keep hb
  clear hb hD W
  have gX := hX.allocs; have gY := hY.allocs
  go_wp2_with fail
  refine calls_world (fun W => Below w.heap.size w W ∧ Blank W br) ⟨B.alloc B.size _, hR.alloc _⟩ ?_
  clear B hX hY hR gX gY
  rintro W ⟨B, hR⟩
  with_reducible refine (C.out _).mono ?_
  rintro e w2 ⟨rfl, hb⟩
  replace B := B.trans (hb.mono B.size)
  replace hR := hR.keep hb
  clear hb W
  have gR := hR.1.all4; have fR := hR.2.all4
  go_wp2
  simp [bodyPost, results, Tryz.results53, go_sem, gR]
  exact below_set4 B o3 _ _ _ _

end Go.Proofs.YtncpjgpioajbeaaGreatDoor

namespace Go.Proofs.YtncpjgpioajbeaaGreatDoor
open Go.RowKit Go.Sort

set_option maxHeartbeats 2000000 in
theorem Modulus_walk {k m c e0 : Int} (O : Hid (∀ w, Mds w → Calls Tryz.prog 36 #[.int .i64 k] w fun e w' => e = .returned (.tuple #[.agg #[.int .u64 (l0 m), .int .u64 (l1 m), .int .u64 (l2 m), .int .u64 (l3 m), .int .u64 (l0 c), .int .u64 (l1 c), .int .u64 (l2 c), .int .u64 (l3 c)], .int .i64 e0]) ∧ Below w.heap.size w w')) (w : World) (hm : Mds w) :
    Calls Tryz.prog 16 #[.int .i64 k] w fun e w' => e = .returned (.tuple #[.agg #[.int .u64 (l0 m), .int .u64 (l1 m), .int .u64 (l2 m), .int .u64 (l3 m)], .int .i64 e0]) ∧ Below w.heap.size w w' := by
  go_enter Tryz.func16, Tryz.ntmps16
  go_wp2_with fail
  refine calls_world (fun W => Below w.heap.size w W ∧ Mds W ∧ Blank W w.heap.size) ⟨by repeat (first | with_reducible exact Below.refl _ _ | with_reducible refine Below.alloc ?_ (by first | omega | (simp; done) | (simp; omega)) _), hm.alloc _, Blank.new (by simp)⟩ ?_
  rintro W ⟨B, hD, hR⟩
  have o3 : w.heap.size ≤ w.heap.size := by omega
  with_reducible refine (O.out _ hD).mono ?_
  rintro e w1 ⟨rfl, hb⟩
  replace B := B.trans (hb.mono B.size)
  replace hR := hR.keep hb
  have lr := hR.1.lt (by simp)
  have nr : w1.heap.size ≠ w.heap.size := by omega
  have nr' := nr.symm
  clear hb hD W lr
  have gR := fun o => (hR.alloc o).1.all4
  have fR := fun o => (hR.alloc o).2.all4
  have BB : Hid (∀ o, Below w.heap.size w (w1.alloc o)) := fun o => B.alloc B.size o
  clear B hR
  go_wp2
  simp [bodyPost, results, Tryz.results16, go_sem, *]
  repeat (first | with_reducible exact BB.out _ | with_reducible refine Below.drew ?_ | with_reducible refine Below.setCell ?_ (by with_reducible assumption) _)

theorem Modulus_good {k m c : Int} (hk : Kind k m c) (w : World) (hm : Mds w) :
    Calls Tryz.prog 16 #[.int .i64 k] w fun e w' => e = .returned (.tuple #[.agg #[.int .u64 (l0 m), .int .u64 (l1 m), .int .u64 (l2 m), .int .u64 (l3 m)], .int .i64 0]) ∧ Below w.heap.size w w' := Modulus_walk (fun w h => of_good hk w h) w hm
set_option maxHeartbeats 2000000 in
theorem Neg_good {k m c x : Int} (hk : Kind k m c) (hx : Num x) (w : World) (hm : Mds w) :
    Calls Tryz.prog 54 #[.int .i64 k, .agg #[.int .u64 (l0 x), .int .u64 (l1 x), .int .u64 (l2 x), .int .u64 (l3 x)]] w fun e w' => e = .returned (.tuple #[.agg #[.int .u64 (l0 (modN m (0 - x))), .int .u64 (l1 (modN m (0 - x))), .int .u64 (l2 (modN m (0 - x))), .int .u64 (l3 (modN m (0 - x)))], .int .i64 0]) ∧ Below w.heap.size w w' := by
  have C : Hid (∀ w, Calls Tryz.prog 88 #[.agg #[.int .u64 (l0 m), .int .u64 (l1 m), .int .u64 (l2 m), .int .u64 (l3 m), .int .u64 (l0 c), .int .u64 (l1 c), .int .u64 (l2 c), .int .u64 (l3 c)], .agg #[.int .u64 0, .int .u64 0, .int .u64 0, .int .u64 0], .agg #[.int .u64 (l0 x), .int .u64 (l1 x), .int .u64 (l2 x), .int .u64 (l3 x)]] w fun e w' => e = .returned (.agg #[.int .u64 (l0 (modN m (0 - x))), .int .u64 (l1 (modN m (0 - x))), .int .u64 (l2 (modN m (0 - x))), .int .u64 (l3 (modN m (0 - x)))]) ∧ Below w.heap.size w w') := fun w => by
    have := fsub_any (x := 0) hk.fit ⟨by decide, by decide⟩ hx w
    obtain ⟨z0, z1, z2, z3⟩ := zero_limbs
    rw [z0, z1, z2, z3] at this
    exact this
  have bz := build_zero
  generalize modN m (0 - x) = r at *
  go_enter Tryz.func54, Tryz.ntmps54
  go_wp2_with fail
  refine calls_world (fun W => Below w.heap.size w W ∧ Mds W ∧ Hold W w.heap.size x ∧ Blank W (w.heap.size + 1)) ⟨by repeat (first | with_reducible exact Below.refl _ _ | with_reducible refine Below.alloc ?_ (by first | omega | (simp; done) | (simp; omega)) _), (hm.alloc _).alloc _, (Hold.fresh (by simp)).alloc _, Blank.new (by simp)⟩ ?_
  rintro W ⟨B, hD, hX, hR⟩
  have o3 : w.heap.size ≤ w.heap.size + 1 := by omega
  generalize w.heap.size + 1 = br at *
  with_reducible refine (of_good hk _ hD).mono ?_
  rintro e w1 ⟨rfl, hb⟩
  replace B := B.trans (hb.mono B.size)
  replace hX := hX.keep hb; replace hR := hR.keep hb
  clear hb hD W
  have gX := hX.allocs
  go_wp2_with fail
  refine calls_world (fun W => Below w.heap.size w W ∧ Blank W br) ⟨B.alloc B.size _, hR.alloc _⟩ ?_
  clear B hX hR gX
  rintro W ⟨B, hR⟩
  with_reducible refine (C.out _).mono ?_
  rintro e w2 ⟨rfl, hb⟩
  replace B := B.trans (hb.mono B.size)
  replace hR := hR.keep hb
  clear hb W
  have gR := hR.1.all4; have fR := hR.2.all4
  go_wp2
  simp [bodyPost, results, Tryz.results54, go_sem, gR]
  exact below_set4 B o3 _ _ _ _

end Go.Proofs.YtncpjgpioajbeaaGreatDoor

namespace Go.Proofs.YtncpjgpioajbeaaGreatDoor
open Go.RowKit Go.Sort

set_option maxRecDepth 100000 in
set_option maxHeartbeats 8000000 in
theorem Root_walk {m c x a q z r s t b u ra re : Int} (em : m = pN) (ec : c = pC)
    (S1 : Hid (∀ w, Calls Tryz.prog 82 #[.agg #[.int .u64 (l0 m), .int .u64 (l1 m), .int .u64 (l2 m), .int .u64 (l3 m)], .int .i64 2] w fun e w' => e = .returned (.agg #[.int .u64 (l0 a), .int .u64 (l1 a), .int .u64 (l2 a), .int .u64 (l3 a)]) ∧ Below w.heap.size w w')) (F1 : Hid (∀ w, Calls Tryz.prog 84 #[.int .u64 1] w fun e w' => e = .returned (.agg #[.int .u64 (l0 1), .int .u64 (l1 1), .int .u64 (l2 1), .int .u64 (l3 1)]) ∧ Below w.heap.size w w')) (A1 : Hid (∀ w, Calls Tryz.prog 83 #[.agg #[.int .u64 (l0 a), .int .u64 (l1 a), .int .u64 (l2 a), .int .u64 (l3 a)], .agg #[.int .u64 (l0 1), .int .u64 (l1 1), .int .u64 (l2 1), .int .u64 (l3 1)]] w fun e w' => e = .returned (.tuple #[.agg #[.int .u64 (l0 q), .int .u64 (l1 q), .int .u64 (l2 q), .int .u64 (l3 q)], .int .u64 z]) ∧ Below w.heap.size w w'))
    (E1 : Hid (∀ w, Calls Tryz.prog 85 #[.agg #[.int .u64 (l0 m), .int .u64 (l1 m), .int .u64 (l2 m), .int .u64 (l3 m), .int .u64 (l0 c), .int .u64 (l1 c), .int .u64 (l2 c), .int .u64 (l3 c)], .agg #[.int .u64 (l0 x), .int .u64 (l1 x), .int .u64 (l2 x), .int .u64 (l3 x)], .agg #[.int .u64 (l0 q), .int .u64 (l1 q), .int .u64 (l2 q), .int .u64 (l3 q)]] w fun e w' => e = .returned (.agg #[.int .u64 (l0 r), .int .u64 (l1 r), .int .u64 (l2 r), .int .u64 (l3 r)]) ∧ Below w.heap.size w w')) (M1 : Hid (∀ w, Calls Tryz.prog 86 #[.agg #[.int .u64 (l0 m), .int .u64 (l1 m), .int .u64 (l2 m), .int .u64 (l3 m), .int .u64 (l0 c), .int .u64 (l1 c), .int .u64 (l2 c), .int .u64 (l3 c)], .agg #[.int .u64 (l0 r), .int .u64 (l1 r), .int .u64 (l2 r), .int .u64 (l3 r)], .agg #[.int .u64 (l0 r), .int .u64 (l1 r), .int .u64 (l2 r), .int .u64 (l3 r)]] w fun e w' => e = .returned (.agg #[.int .u64 (l0 s), .int .u64 (l1 s), .int .u64 (l2 s), .int .u64 (l3 s)]) ∧ Below w.heap.size w w')) (O1 : Hid (∀ w, Calls Tryz.prog 87 #[.agg #[.int .u64 (l0 m), .int .u64 (l1 m), .int .u64 (l2 m), .int .u64 (l3 m), .int .u64 (l0 c), .int .u64 (l1 c), .int .u64 (l2 c), .int .u64 (l3 c)], .agg #[.int .u64 (l0 x), .int .u64 (l1 x), .int .u64 (l2 x), .int .u64 (l3 x)]] w fun e w' => e = .returned (.agg #[.int .u64 (l0 t), .int .u64 (l1 t), .int .u64 (l2 t), .int .u64 (l3 t)]) ∧ Below w.heap.size w w')) (ns : Num s) (nt : Num t)
    (B1 : Hid (∀ w, Calls Tryz.prog 81 #[.agg #[.int .u64 (l0 r), .int .u64 (l1 r), .int .u64 (l2 r), .int .u64 (l3 r)], .int .i64 0] w fun e w' => e = .returned (.int .i64 b) ∧ Below w.heap.size w w')) (S2 : Hid (∀ w, Calls Tryz.prog 88 #[.agg #[.int .u64 (l0 m), .int .u64 (l1 m), .int .u64 (l2 m), .int .u64 (l3 m), .int .u64 (l0 c), .int .u64 (l1 c), .int .u64 (l2 c), .int .u64 (l3 c)], .agg #[.int .u64 0, .int .u64 0, .int .u64 0, .int .u64 0], .agg #[.int .u64 (l0 r), .int .u64 (l1 r), .int .u64 (l2 r), .int .u64 (l3 r)]] w fun e w' => e = .returned (.agg #[.int .u64 (l0 u), .int .u64 (l1 u), .int .u64 (l2 u), .int .u64 (l3 u)]) ∧ Below w.heap.size w w'))
    (cs : Hid ((s ≠ t ∧ ra = 0 ∧ re = 41) ∨ (s = t ∧ b = 0 ∧ ra = r ∧ re = 0) ∨ (s = t ∧ b = 1 ∧ ra = u ∧ re = 0))) (w : World) (hm : Mds w) :
    Calls Tryz.prog 48 #[.agg #[.int .u64 (l0 x), .int .u64 (l1 x), .int .u64 (l2 x), .int .u64 (l3 x)]] w fun e w' => e = .returned (.tuple #[.agg #[.int .u64 (l0 ra), .int .u64 (l1 ra), .int .u64 (l2 ra), .int .u64 (l3 ra)], .int .i64 re]) ∧ Below w.heap.size w w' := by
  have bz := build_zero
  generalize ht : (1 : Int) = T at F1 A1
  have gD := fun o o2 => ((hm.alloc o).alloc o2).p.cells
  rw [← em, ← ec] at gD
  clear em ec
  go_enter Tryz.func48, Tryz.ntmps48
  go_wp2_with fail
  refine calls_world (fun W => Below w.heap.size w W ∧ Hold W w.heap.size x ∧ Blank W (w.heap.size + 1) ∧ HoldM W (w.heap.size + 1 + 1) m c) ⟨by repeat (first | with_reducible exact Below.refl _ _ | with_reducible refine Below.alloc ?_ (by first | omega | (simp; done) | (simp; omega)) _), ((Hold.fresh (by simp)).alloc _).alloc _, (Blank.new (by simp)).alloc _, ?_⟩ ?_
  · have := HoldM.new ((w.alloc (.cells #[.int .u64 (l0 x), .int .u64 (l1 x), .int .u64 (l2 x), .int .u64 (l3 x)] 24)).alloc (.cells #[.int .u64 0, .int .u64 0, .int .u64 0, .int .u64 0] 24)) m c 68
    simp at this
    exact this
  clear gD hm
  rintro W ⟨B, hX, hR, hF⟩
  have o3 : w.heap.size ≤ w.heap.size + 1 := by omega
  generalize w.heap.size + 1 + 1 = bf at *
  generalize w.heap.size + 1 = br at *
  with_reducible refine (S1.out _).mono ?_
  rintro e w1 ⟨rfl, hb⟩
  replace B := B.trans (hb.mono B.size)
  replace hX := hX.keep hb; replace hR := hR.keep hb; replace hF := hF.keep hb
  clear hb W
  go_wp2_with fail
  refine calls_world (fun W => Below w.heap.size w W ∧ Hold W w.heap.size x ∧ Blank W br ∧ HoldM W bf m c) ⟨B, hX, hR, hF⟩ ?_
  clear B hX hR hF 
  rintro W ⟨B, hX, hR, hF⟩
  subst ht
  with_reducible refine (F1.out _).mono ?_
  rintro e w2 ⟨rfl, hb⟩
  replace B := B.trans (hb.mono B.size)
  replace hX := hX.keep hb; replace hR := hR.keep hb; replace hF := hF.keep hb
  clear hb W
  go_wp2_with fail
  refine calls_world (fun W => Below w.heap.size w W ∧ Hold W w.heap.size x ∧ Blank W br ∧ HoldM W bf m c) ⟨B, hX, hR, hF⟩ ?_
  clear B hX hR hF 
  rintro W ⟨B, hX, hR, hF⟩
  with_reducible refine (A1.out _).mono ?_
  rintro e w3 ⟨rfl, hb⟩
  replace B := B.trans (hb.mono B.size)
  replace hX := hX.keep hb; replace hR := hR.keep hb; replace hF := hF.keep hb
  clear hb W
  have ghX := hX.allocs
  have ghF := fun o => (hF.alloc o).cells
  go_wp2_with fail
  refine calls_world (fun W => Below w.heap.size w W ∧ Hold W w.heap.size x ∧ Blank W br ∧ HoldM W bf m c ∧ Hold W w3.heap.size q) ⟨B.alloc B.size _, hX.alloc _, hR.alloc _, hF.alloc _, Hold.new _ _ _⟩ ?_
  clear B hX hR hF ghX ghF
  rintro W ⟨B, hX, hR, hF, hQ⟩
  generalize w3.heap.size = bq at *
  clear hQ
  with_reducible refine (E1.out _).mono ?_
  rintro e w4 ⟨rfl, hb⟩
  replace B := B.trans (hb.mono B.size)
  replace hF := hF.keep hb; replace hX := hX.keep hb; replace hR := hR.keep hb
  clear hb W
  go_wp2_with fail
  have nr1 : w4.heap.size ≠ br := by have := hR.1.lt (by simp); omega
  have nr2 := nr1.symm
  have nf1 : w4.heap.size ≠ bf := by have := hF.lt; omega
  have og : w.heap.size ≤ w4.heap.size := B.size
  refine wp_world (fun W => Below w.heap.size w W ∧ HoldM W bf m c ∧ Hold W w.heap.size x ∧ Blank W br ∧ Var W w4.heap.size r) ⟨B.alloc B.size _, hF.alloc _, hX.alloc _, hR.alloc _, Var.new rfl⟩ ?_
  clear B hF hX hR
  rintro W ⟨B, hF, hX, hR, hV⟩
  generalize w4.heap.size = bv at *
  have gF := hF.grown; have gX := hX.grown; have gV := hV.1.grown
  have hq := eq_num ns nt
  refine wp_region_quiet_below (by kernel_rfl) (by kernel_rfl) ?_
  repeat
    first
      | go_big_quiet_skip
      | (go_big_quiet_want; go_big_quiet_op; go_big_quiet_on)
      | (go_big_quiet_want
         go_big_quiet_op
         apply Exists.intro
         refine ⟨fun p => ?_, ?_⟩
         · (first | (go_at_call 86; with_reducible exact Calls.regrown_of (M1.out _)) | (go_at_call 87; with_reducible exact Calls.regrown_of (O1.out _)))
         go_big_quiet_on)
  refine wpQuiet_nil ?_
  rintro w5 ⟨p, rfl⟩
  have hb := below_regrown W p.d p.os
  generalize grow (redrawn W p.d) p.os = w5 at *
  replace B := B.trans (hb.mono B.size)
  replace hF := hF.keep hb; replace hR := hR.keep hb; replace hV := hV.keep hb
  clear hb hX gF gX gV W
  generalize hdb : (!decide (s = t)) = db
  rcases cs.out with ⟨c1, rfl, rfl⟩ | ⟨c1, rfl, rfl, rfl⟩ | ⟨c1, rfl, rfl, rfl⟩
  · obtain rfl : db = true := by rw [← hdb]; simp [c1]
    clear hdb
    have gR := hR.1.all4; have fR := hR.2.all4

    clear hF hV hq c1
    go_wp2
    simp [bodyPost, results, Tryz.results48, go_sem, gR]
    exact ⟨⟨by decide, by decide, by decide, by decide⟩, below_set4 B o3 _ _ _ _⟩
  · obtain rfl : db = false := by rw [← hdb]; simp [c1]
    clear hdb
    subst c1
    have gV := hV.1.cells
    clear hq
    go_wp2_with fail
    with_reducible refine (B1.out _).mono ?_
    rintro e w6 ⟨rfl, hb⟩
    replace B := B.trans (hb.mono B.size)
    replace hR := hR.keep hb; replace hV := hV.keep hb
    clear hb gV hF w5
    have gV := hV.1.cells; have gR := hR.1.all4; have fR := hR.2.all4
    go_wp2
    simp [bodyPost, results, Tryz.results48, go_sem, gR]
    exact below_set4 B o3 _ _ _ _
  · obtain rfl : db = false := by rw [← hdb]; simp [c1]
    clear hdb
    subst c1
    have gV := hV.1.cells
    clear hq
    go_wp2_with fail
    with_reducible refine (B1.out _).mono ?_
    rintro e w6 ⟨rfl, hb⟩
    replace B := B.trans (hb.mono B.size)
    replace hR := hR.keep hb; replace hV := hV.keep hb; replace hF := hF.keep hb
    clear hb gV w5
    have gV := hV.1.cells; have gF := hF.cells
    go_wp2_with fail
    with_reducible refine (S2.out _).mono ?_
    rintro e w7 ⟨rfl, hb⟩
    replace B := B.trans (hb.mono B.size)
    replace hR := hR.keep hb; replace hV := hV.keep hb
    clear hb gV gF hF w6
    have gV := hV.1.cells; have qV := hV.2.all4; have gR := hR.1.all4; have fR := hR.2.all4
    go_wp2
    simp [bodyPost, results, Tryz.results48, go_sem, *]
    repeat (first | with_reducible exact B | with_reducible refine Below.drew ?_ | with_reducible refine Below.setCell ?_ (by with_reducible assumption) _)
end Go.Proofs.YtncpjgpioajbeaaGreatDoor

namespace Go.Proofs.YtncpjgpioajbeaaGreatDoor
open Go.RowKit Go.Sort

set_option maxHeartbeats 2000000 in
theorem cplus_any {x y : Int} (hx : Num x) (hy : Num y) (w : World) (hm : Mds w) :
    Calls Tryz.prog 89 #[.agg #[.int .u64 (l0 x), .int .u64 (l1 x), .int .u64 (l2 x), .int .u64 (l3 x)], .agg #[.int .u64 (l0 y), .int .u64 (l1 y), .int .u64 (l2 y), .int .u64 (l3 y)]] w fun e w' => e = .returned (.agg #[.int .u64 (l0 (modN pN (x + y))), .int .u64 (l1 (modN pN (x + y))), .int .u64 (l2 (modN pN (x + y))), .int .u64 (l3 (modN pN (x + y)))]) ∧ Below w.heap.size w w' := by
  have C : Hid (∀ w, Mds w → Calls Tryz.prog 80 #[.int .i64 0, .agg #[.int .u64 (l0 x), .int .u64 (l1 x), .int .u64 (l2 x), .int .u64 (l3 x)], .agg #[.int .u64 (l0 y), .int .u64 (l1 y), .int .u64 (l2 y), .int .u64 (l3 y)]] w fun e w' => e = .returned (.tuple #[.agg #[.int .u64 (l0 (modN pN (x + y))), .int .u64 (l1 (modN pN (x + y))), .int .u64 (l2 (modN pN (x + y))), .int .u64 (l3 (modN pN (x + y)))], .int .i64 0]) ∧ Below w.heap.size w w') := fun w hm => Add_good kind_p hx hy w hm
  generalize modN pN (x + y) = r at *
  clear hx hy
  go_enter Tryz.func89, Tryz.ntmps89
  go_wp2_with fail
  refine calls_world (fun W => Below w.heap.size w W ∧ Mds W ∧ Blank W (w.heap.size + 1 + 1)) ⟨by repeat (first | with_reducible exact Below.refl _ _ | with_reducible refine Below.alloc ?_ (by first | omega | (simp; done) | (simp; omega)) _), ((hm.alloc _).alloc _).alloc _, Blank.new (by simp)⟩ ?_
  rintro W ⟨B, hD, hR⟩
  have o3 : w.heap.size ≤ w.heap.size + 1 + 1 := by omega
  generalize w.heap.size + 1 + 1 = br at *
  with_reducible refine (C.out _ hD).mono ?_
  rintro e w1 ⟨rfl, hb⟩
  replace B := B.trans (hb.mono B.size)
  replace hR := hR.keep hb
  have lr := hR.1.lt (by simp)
  have nr : w1.heap.size ≠ br := by omega
  have nr' := nr.symm
  clear hb hD W lr
  have gR := fun o => (hR.alloc o).1.all4
  have fR := fun o => (hR.alloc o).2.all4
  have BB : Hid (∀ o, Below w.heap.size w (w1.alloc o)) := fun o => B.alloc B.size o
  clear B hR
  go_wp2
  simp [bodyPost, results, Tryz.results89, go_sem, *]
  repeat (first | with_reducible exact BB.out _ | with_reducible refine Below.drew ?_ | with_reducible refine Below.setCell ?_ (by with_reducible assumption) _)

set_option maxHeartbeats 2000000 in
theorem cminus_any {x y : Int} (hx : Num x) (hy : Num y) (w : World) (hm : Mds w) :
    Calls Tryz.prog 90 #[.agg #[.int .u64 (l0 x), .int .u64 (l1 x), .int .u64 (l2 x), .int .u64 (l3 x)], .agg #[.int .u64 (l0 y), .int .u64 (l1 y), .int .u64 (l2 y), .int .u64 (l3 y)]] w fun e w' => e = .returned (.agg #[.int .u64 (l0 (modN pN (x - y))), .int .u64 (l1 (modN pN (x - y))), .int .u64 (l2 (modN pN (x - y))), .int .u64 (l3 (modN pN (x - y)))]) ∧ Below w.heap.size w w' := by
  have C : Hid (∀ w, Mds w → Calls Tryz.prog 116 #[.int .i64 0, .agg #[.int .u64 (l0 x), .int .u64 (l1 x), .int .u64 (l2 x), .int .u64 (l3 x)], .agg #[.int .u64 (l0 y), .int .u64 (l1 y), .int .u64 (l2 y), .int .u64 (l3 y)]] w fun e w' => e = .returned (.tuple #[.agg #[.int .u64 (l0 (modN pN (x - y))), .int .u64 (l1 (modN pN (x - y))), .int .u64 (l2 (modN pN (x - y))), .int .u64 (l3 (modN pN (x - y)))], .int .i64 0]) ∧ Below w.heap.size w w') := fun w hm => Sub_good kind_p hx hy w hm
  generalize modN pN (x - y) = r at *
  clear hx hy
  go_enter Tryz.func90, Tryz.ntmps90
  go_wp2_with fail
  refine calls_world (fun W => Below w.heap.size w W ∧ Mds W ∧ Blank W (w.heap.size + 1 + 1)) ⟨by repeat (first | with_reducible exact Below.refl _ _ | with_reducible refine Below.alloc ?_ (by first | omega | (simp; done) | (simp; omega)) _), ((hm.alloc _).alloc _).alloc _, Blank.new (by simp)⟩ ?_
  rintro W ⟨B, hD, hR⟩
  have o3 : w.heap.size ≤ w.heap.size + 1 + 1 := by omega
  generalize w.heap.size + 1 + 1 = br at *
  with_reducible refine (C.out _ hD).mono ?_
  rintro e w1 ⟨rfl, hb⟩
  replace B := B.trans (hb.mono B.size)
  replace hR := hR.keep hb
  have lr := hR.1.lt (by simp)
  have nr : w1.heap.size ≠ br := by omega
  have nr' := nr.symm
  clear hb hD W lr
  have gR := fun o => (hR.alloc o).1.all4
  have fR := fun o => (hR.alloc o).2.all4
  have BB : Hid (∀ o, Below w.heap.size w (w1.alloc o)) := fun o => B.alloc B.size o
  clear B hR
  go_wp2
  simp [bodyPost, results, Tryz.results90, go_sem, *]
  repeat (first | with_reducible exact BB.out _ | with_reducible refine Below.drew ?_ | with_reducible refine Below.setCell ?_ (by with_reducible assumption) _)

set_option maxHeartbeats 2000000 in
theorem ctimes_any {x y : Int} (hx : Num x) (hy : Num y) (w : World) (hm : Mds w) :
    Calls Tryz.prog 63 #[.agg #[.int .u64 (l0 x), .int .u64 (l1 x), .int .u64 (l2 x), .int .u64 (l3 x)], .agg #[.int .u64 (l0 y), .int .u64 (l1 y), .int .u64 (l2 y), .int .u64 (l3 y)]] w fun e w' => e = .returned (.agg #[.int .u64 (l0 (modN pN (x * y))), .int .u64 (l1 (modN pN (x * y))), .int .u64 (l2 (modN pN (x * y))), .int .u64 (l3 (modN pN (x * y)))]) ∧ Below w.heap.size w w' := by
  have C : Hid (∀ w, Mds w → Calls Tryz.prog 53 #[.int .i64 0, .agg #[.int .u64 (l0 x), .int .u64 (l1 x), .int .u64 (l2 x), .int .u64 (l3 x)], .agg #[.int .u64 (l0 y), .int .u64 (l1 y), .int .u64 (l2 y), .int .u64 (l3 y)]] w fun e w' => e = .returned (.tuple #[.agg #[.int .u64 (l0 (modN pN (x * y))), .int .u64 (l1 (modN pN (x * y))), .int .u64 (l2 (modN pN (x * y))), .int .u64 (l3 (modN pN (x * y)))], .int .i64 0]) ∧ Below w.heap.size w w') := fun w hm => Mul_good kind_p hx hy w hm
  generalize modN pN (x * y) = r at *
  clear hx hy
  go_enter Tryz.func63, Tryz.ntmps63
  go_wp2_with fail
  refine calls_world (fun W => Below w.heap.size w W ∧ Mds W ∧ Blank W (w.heap.size + 1 + 1)) ⟨by repeat (first | with_reducible exact Below.refl _ _ | with_reducible refine Below.alloc ?_ (by first | omega | (simp; done) | (simp; omega)) _), ((hm.alloc _).alloc _).alloc _, Blank.new (by simp)⟩ ?_
  rintro W ⟨B, hD, hR⟩
  have o3 : w.heap.size ≤ w.heap.size + 1 + 1 := by omega
  generalize w.heap.size + 1 + 1 = br at *
  with_reducible refine (C.out _ hD).mono ?_
  rintro e w1 ⟨rfl, hb⟩
  replace B := B.trans (hb.mono B.size)
  replace hR := hR.keep hb
  have lr := hR.1.lt (by simp)
  have nr : w1.heap.size ≠ br := by omega
  have nr' := nr.symm
  clear hb hD W lr
  have gR := fun o => (hR.alloc o).1.all4
  have fR := fun o => (hR.alloc o).2.all4
  have BB : Hid (∀ o, Below w.heap.size w (w1.alloc o)) := fun o => B.alloc B.size o
  clear B hR
  go_wp2
  simp [bodyPost, results, Tryz.results63, go_sem, *]
  repeat (first | with_reducible exact BB.out _ | with_reducible refine Below.drew ?_ | with_reducible refine Below.setCell ?_ (by with_reducible assumption) _)

set_option maxHeartbeats 2000000 in
theorem csquare_any {x : Int} (hx : Num x) (w : World) (hm : Mds w) :
    Calls Tryz.prog 62 #[.agg #[.int .u64 (l0 x), .int .u64 (l1 x), .int .u64 (l2 x), .int .u64 (l3 x)]] w fun e w' => e = .returned (.agg #[.int .u64 (l0 (modN pN (x * x))), .int .u64 (l1 (modN pN (x * x))), .int .u64 (l2 (modN pN (x * x))), .int .u64 (l3 (modN pN (x * x)))]) ∧ Below w.heap.size w w' := by
  have C : Hid (∀ w, Mds w → Calls Tryz.prog 63 #[.agg #[.int .u64 (l0 x), .int .u64 (l1 x), .int .u64 (l2 x), .int .u64 (l3 x)], .agg #[.int .u64 (l0 x), .int .u64 (l1 x), .int .u64 (l2 x), .int .u64 (l3 x)]] w fun e w' => e = .returned (.agg #[.int .u64 (l0 (modN pN (x * x))), .int .u64 (l1 (modN pN (x * x))), .int .u64 (l2 (modN pN (x * x))), .int .u64 (l3 (modN pN (x * x)))]) ∧ Below w.heap.size w w') := fun w hm => ctimes_any hx hx w hm
  generalize modN pN (x * x) = r at *
  clear hx
  go_enter Tryz.func62, Tryz.ntmps62
  go_wp2_with fail
  refine calls_world (fun W => Below w.heap.size w W ∧ Mds W ∧ Blank W (w.heap.size + 1)) ⟨by repeat (first | with_reducible exact Below.refl _ _ | with_reducible refine Below.alloc ?_ (by first | omega | (simp; done) | (simp; omega)) _), (hm.alloc _).alloc _, Blank.new (by simp)⟩ ?_
  rintro W ⟨B, hD, hR⟩
  have o3 : w.heap.size ≤ w.heap.size + 1 := by omega
  generalize w.heap.size + 1 = br at *
  with_reducible refine (C.out _ hD).mono ?_
  rintro e w1 ⟨rfl, hb⟩
  replace B := B.trans (hb.mono B.size)
  replace hR := hR.keep hb
  clear hb hD W
  have gR := hR.1.all4; have fR := hR.2.all4
  go_wp2
  simp [bodyPost, results, Tryz.results62, go_sem, gR]
  exact below_set4 B o3 _ _ _ _

set_option maxHeartbeats 2000000 in
theorem ctwice_any {x : Int} (hx : Num x) (w : World) (hm : Mds w) :
    Calls Tryz.prog 92 #[.agg #[.int .u64 (l0 x), .int .u64 (l1 x), .int .u64 (l2 x), .int .u64 (l3 x)]] w fun e w' => e = .returned (.agg #[.int .u64 (l0 (modN pN (x + x))), .int .u64 (l1 (modN pN (x + x))), .int .u64 (l2 (modN pN (x + x))), .int .u64 (l3 (modN pN (x + x)))]) ∧ Below w.heap.size w w' := by
  have C : Hid (∀ w, Mds w → Calls Tryz.prog 89 #[.agg #[.int .u64 (l0 x), .int .u64 (l1 x), .int .u64 (l2 x), .int .u64 (l3 x)], .agg #[.int .u64 (l0 x), .int .u64 (l1 x), .int .u64 (l2 x), .int .u64 (l3 x)]] w fun e w' => e = .returned (.agg #[.int .u64 (l0 (modN pN (x + x))), .int .u64 (l1 (modN pN (x + x))), .int .u64 (l2 (modN pN (x + x))), .int .u64 (l3 (modN pN (x + x)))]) ∧ Below w.heap.size w w') := fun w hm => cplus_any hx hx w hm
  generalize modN pN (x + x) = r at *
  clear hx
  go_enter Tryz.func92, Tryz.ntmps92
  go_wp2_with fail
  refine calls_world (fun W => Below w.heap.size w W ∧ Mds W ∧ Blank W (w.heap.size + 1)) ⟨by repeat (first | with_reducible exact Below.refl _ _ | with_reducible refine Below.alloc ?_ (by first | omega | (simp; done) | (simp; omega)) _), (hm.alloc _).alloc _, Blank.new (by simp)⟩ ?_
  rintro W ⟨B, hD, hR⟩
  have o3 : w.heap.size ≤ w.heap.size + 1 := by omega
  generalize w.heap.size + 1 = br at *
  with_reducible refine (C.out _ hD).mono ?_
  rintro e w1 ⟨rfl, hb⟩
  replace B := B.trans (hb.mono B.size)
  replace hR := hR.keep hb
  clear hb hD W
  have gR := hR.1.all4; have fR := hR.2.all4
  go_wp2
  simp [bodyPost, results, Tryz.results92, go_sem, gR]
  exact below_set4 B o3 _ _ _ _

set_option maxHeartbeats 2000000 in
theorem copposite_any {x : Int} (hx : Num x) (w : World) (hm : Mds w) :
    Calls Tryz.prog 50 #[.agg #[.int .u64 (l0 x), .int .u64 (l1 x), .int .u64 (l2 x), .int .u64 (l3 x)]] w fun e w' => e = .returned (.agg #[.int .u64 (l0 (modN pN (0 - x))), .int .u64 (l1 (modN pN (0 - x))), .int .u64 (l2 (modN pN (0 - x))), .int .u64 (l3 (modN pN (0 - x)))]) ∧ Below w.heap.size w w' := by
  have C : Hid (∀ w, Mds w → Calls Tryz.prog 90 #[.agg #[.int .u64 0, .int .u64 0, .int .u64 0, .int .u64 0], .agg #[.int .u64 (l0 x), .int .u64 (l1 x), .int .u64 (l2 x), .int .u64 (l3 x)]] w fun e w' => e = .returned (.agg #[.int .u64 (l0 (modN pN (0 - x))), .int .u64 (l1 (modN pN (0 - x))), .int .u64 (l2 (modN pN (0 - x))), .int .u64 (l3 (modN pN (0 - x)))]) ∧ Below w.heap.size w w') := fun w hm => by
    have := cminus_any (x := 0) ⟨by decide, by decide⟩ hx w hm
    obtain ⟨z0, z1, z2, z3⟩ := zero_limbs
    rw [z0, z1, z2, z3] at this
    exact this
  have bz := build_zero
  generalize modN pN (0 - x) = r at *
  clear hx
  go_enter Tryz.func50, Tryz.ntmps50
  go_wp2_with fail
  refine calls_world (fun W => Below w.heap.size w W ∧ Mds W ∧ Blank W (w.heap.size + 1)) ⟨by repeat (first | with_reducible exact Below.refl _ _ | with_reducible refine Below.alloc ?_ (by first | omega | (simp; done) | (simp; omega)) _), (hm.alloc _).alloc _, Blank.new (by simp)⟩ ?_
  rintro W ⟨B, hD, hR⟩
  have o3 : w.heap.size ≤ w.heap.size + 1 := by omega
  generalize w.heap.size + 1 = br at *
  with_reducible refine (C.out _ hD).mono ?_
  rintro e w1 ⟨rfl, hb⟩
  replace B := B.trans (hb.mono B.size)
  replace hR := hR.keep hb
  clear hb hD W
  have gR := hR.1.all4; have fR := hR.2.all4
  go_wp2
  simp [bodyPost, results, Tryz.results50, go_sem, gR]
  exact below_set4 B o3 _ _ _ _

set_option maxHeartbeats 2000000 in
theorem cbelow_any {x : Int} (hx : Num x) (w : World) (hm : Mds w) :
    Calls Tryz.prog 47 #[.agg #[.int .u64 (l0 x), .int .u64 (l1 x), .int .u64 (l2 x), .int .u64 (l3 x)]] w fun e w' => e = .returned (.bool (decide (x < pN))) ∧ Below w.heap.size w w' := by
  have C := fun w => cmp_any hx fit_p.num w
  have hv : decide (cmpN x pN < 0) = decide (x < pN) := by
    unfold cmpN
    by_cases h' : x = pN
    · rw [h']; simp
    · by_cases h : x < pN <;> simp [h, h']
  have O : Hid (∀ w, Mds w → Calls Tryz.prog 16 #[.int .i64 0] w fun e w' => e = .returned (.tuple #[.agg #[.int .u64 (l0 pN), .int .u64 (l1 pN), .int .u64 (l2 pN), .int .u64 (l3 pN)], .int .i64 0]) ∧ Below w.heap.size w w') := fun w hm => Modulus_good kind_p w hm
  generalize decide (x < pN) = r at *
  generalize cmpN x pN = q at *
  generalize pN = p at *
  clear hx
  go_enter Tryz.func47, Tryz.ntmps47
  go_wp2_with fail
  refine calls_world (fun W => Below w.heap.size w W ∧ Mds W ∧ Hold W w.heap.size x) ⟨by repeat (first | with_reducible exact Below.refl _ _ | with_reducible refine Below.alloc ?_ (by first | omega | (simp; done) | (simp; omega)) _), hm.alloc _, Hold.fresh (by simp)⟩ ?_
  rintro W ⟨B, hD, hX⟩
  with_reducible refine (O.out _ hD).mono ?_
  rintro e w1 ⟨rfl, hb⟩
  replace B := B.trans (hb.mono B.size)
  replace hX := hX.keep hb
  clear hb hD W
  have gX := hX.allocs
  go_wp2_with fail
  refine calls_world (fun W => Below w.heap.size w W) (B.alloc B.size _) ?_
  clear B hX gX
  rintro W B
  with_reducible refine (C _).mono ?_
  rintro e w2 ⟨rfl, hb⟩
  replace B := B.trans (hb.mono B.size)
  clear hb W
  go_wp2
  simp [bodyPost, results, Tryz.results47, go_sem]
  exact B
end Go.Proofs.YtncpjgpioajbeaaGreatDoor

namespace Go.Proofs.YtncpjgpioajbeaaGreatDoor
open Go.RowKit Go.Sort

/-- Block b holds these values, from its first cell on. -/
def Cl (W : World) (b : Nat) (vs : List Value) : Prop := ∀ i, i < vs.length → W.cell? ⟨b, i, none⟩ = some (vs.getD i (.bool false))
theorem Cl.lt {W : World} {b : Nat} {l : List Value} (h : Cl W b l) (hl : 0 < l.length) : b < W.heap.size := World.block_lt_of_cell? W ⟨b, 0, none⟩ (h 0 hl)
theorem Cl.keep {W w1 : World} {b : Nat} {l : List Value} (h : Cl W b l) (hb : Below W.heap.size W w1) : Cl w1 b l := fun i hi => cell_keep hb (h i hi)
theorem Cl.alloc {W : World} {b : Nat} {l : List Value} (h : Cl W b l) (o : Obj) : Cl (W.alloc o) b l := h.keep ((Below.refl _ _).alloc (Nat.le_refl _) o)
theorem Cl.set {W : World} {b b' i : Nat} {l : List Value} (h : Cl W b l) (ne : b' ≠ b) (v : Value) : Cl (W.setCell ⟨b', i, none⟩ v) b l := fun j hj => by
  rw [World.cell?_setCell_far _ _ _ _ (by exact ne)]; exact h j hj
theorem Cl.new {W : World} {b : Nat} {a : Array Value} {t : TypeId} (l : List Value) (e : b = W.heap.size) (ha : a = l.toArray) : Cl (W.alloc (.cells a t)) b l := by
  subst e; subst ha
  intro i hi
  rw [World.cell?_alloc_mark]
  simp [List.getD, List.getElem?_eq_getElem hi]

theorem cell_far {w : World} {b i b' i' : Nat} {u v : Value} (h : w.cell? ⟨b, i, none⟩ = some v) (ne : b' ≠ b) : (w.setCell ⟨b', i', none⟩ u).cell? ⟨b, i, none⟩ = some v := by
  rw [World.cell?_setCell_far _ _ _ _ ne]; exact h

/-- A point in a block. -/
def Pnt (W : World) (b : Nat) (x y : Int) (i : Bool) : Prop := Cl W b [.int .u64 (l0 x), .int .u64 (l1 x), .int .u64 (l2 x), .int .u64 (l3 x), .int .u64 (l0 y), .int .u64 (l1 y), .int .u64 (l2 y), .int .u64 (l3 y), .bool i]
theorem Pnt.lt {W : World} {b : Nat} {x y : Int} {i : Bool} (h : Pnt W b x y i) : b < W.heap.size := Cl.lt h (by simp)
theorem Pnt.keep {W w1 : World} {b : Nat} {x y : Int} {i : Bool} (h : Pnt W b x y i) (hb : Below W.heap.size W w1) : Pnt w1 b x y i := Cl.keep h hb
theorem Pnt.alloc {W : World} {b : Nat} {x y : Int} {i : Bool} (h : Pnt W b x y i) (o : Obj) : Pnt (W.alloc o) b x y i := Cl.alloc h o
theorem Pnt.cells {W : World} {b : Nat} {x y : Int} {i : Bool} (h : Pnt W b x y i) :
    W.cell? ⟨b, 0, none⟩ = some (.int .u64 (l0 x)) ∧ W.cell? ⟨b, 1, none⟩ = some (.int .u64 (l1 x)) ∧ W.cell? ⟨b, 2, none⟩ = some (.int .u64 (l2 x)) ∧ W.cell? ⟨b, 3, none⟩ = some (.int .u64 (l3 x)) ∧ W.cell? ⟨b, 4, none⟩ = some (.int .u64 (l0 y)) ∧ W.cell? ⟨b, 5, none⟩ = some (.int .u64 (l1 y)) ∧ W.cell? ⟨b, 6, none⟩ = some (.int .u64 (l2 y)) ∧ W.cell? ⟨b, 7, none⟩ = some (.int .u64 (l3 y)) ∧ W.cell? ⟨b, 8, none⟩ = some (.bool i) := ⟨h 0 (by simp), h 1 (by simp), h 2 (by simp), h 3 (by simp), h 4 (by simp), h 5 (by simp), h 6 (by simp), h 7 (by simp), h 8 (by simp)⟩
theorem Pnt.new {W : World} {b : Nat} {t : TypeId} {x y : Int} {i : Bool} (e : b = W.heap.size) : Pnt (W.alloc (.cells #[.int .u64 (l0 x), .int .u64 (l1 x), .int .u64 (l2 x), .int .u64 (l3 x), .int .u64 (l0 y), .int .u64 (l1 y), .int .u64 (l2 y), .int .u64 (l3 y), .bool i] t)) b x y i := Cl.new _ e rfl
theorem Pnt.grown {W : World} {b : Nat} {x y : Int} {i : Bool} (h : Pnt W b x y i) : ∀ d os,
    (grow (redrawn W d) os).cell? ⟨b, 0, none⟩ = some (.int .u64 (l0 x)) ∧ (grow (redrawn W d) os).cell? ⟨b, 1, none⟩ = some (.int .u64 (l1 x)) ∧ (grow (redrawn W d) os).cell? ⟨b, 2, none⟩ = some (.int .u64 (l2 x)) ∧ (grow (redrawn W d) os).cell? ⟨b, 3, none⟩ = some (.int .u64 (l3 x)) ∧ (grow (redrawn W d) os).cell? ⟨b, 4, none⟩ = some (.int .u64 (l0 y)) ∧ (grow (redrawn W d) os).cell? ⟨b, 5, none⟩ = some (.int .u64 (l1 y)) ∧ (grow (redrawn W d) os).cell? ⟨b, 6, none⟩ = some (.int .u64 (l2 y)) ∧ (grow (redrawn W d) os).cell? ⟨b, 7, none⟩ = some (.int .u64 (l3 y)) ∧ (grow (redrawn W d) os).cell? ⟨b, 8, none⟩ = some (.bool i) := fun d os => (h.keep (below_regrown W d os)).cells

/-- Three numbers in a block. -/
def Thr (W : World) (b : Nat) (x y z : Int) : Prop := Cl W b [.int .u64 (l0 x), .int .u64 (l1 x), .int .u64 (l2 x), .int .u64 (l3 x), .int .u64 (l0 y), .int .u64 (l1 y), .int .u64 (l2 y), .int .u64 (l3 y), .int .u64 (l0 z), .int .u64 (l1 z), .int .u64 (l2 z), .int .u64 (l3 z)]
theorem Thr.lt {W : World} {b : Nat} {x y z : Int} (h : Thr W b x y z) : b < W.heap.size := Cl.lt h (by simp)
theorem Thr.keep {W w1 : World} {b : Nat} {x y z : Int} (h : Thr W b x y z) (hb : Below W.heap.size W w1) : Thr w1 b x y z := Cl.keep h hb
theorem Thr.alloc {W : World} {b : Nat} {x y z : Int} (h : Thr W b x y z) (o : Obj) : Thr (W.alloc o) b x y z := Cl.alloc h o
theorem Thr.cells {W : World} {b : Nat} {x y z : Int} (h : Thr W b x y z) :
    W.cell? ⟨b, 0, none⟩ = some (.int .u64 (l0 x)) ∧ W.cell? ⟨b, 1, none⟩ = some (.int .u64 (l1 x)) ∧ W.cell? ⟨b, 2, none⟩ = some (.int .u64 (l2 x)) ∧ W.cell? ⟨b, 3, none⟩ = some (.int .u64 (l3 x)) ∧ W.cell? ⟨b, 4, none⟩ = some (.int .u64 (l0 y)) ∧ W.cell? ⟨b, 5, none⟩ = some (.int .u64 (l1 y)) ∧ W.cell? ⟨b, 6, none⟩ = some (.int .u64 (l2 y)) ∧ W.cell? ⟨b, 7, none⟩ = some (.int .u64 (l3 y)) ∧ W.cell? ⟨b, 8, none⟩ = some (.int .u64 (l0 z)) ∧ W.cell? ⟨b, 9, none⟩ = some (.int .u64 (l1 z)) ∧ W.cell? ⟨b, 10, none⟩ = some (.int .u64 (l2 z)) ∧ W.cell? ⟨b, 11, none⟩ = some (.int .u64 (l3 z)) := ⟨h 0 (by simp), h 1 (by simp), h 2 (by simp), h 3 (by simp), h 4 (by simp), h 5 (by simp), h 6 (by simp), h 7 (by simp), h 8 (by simp), h 9 (by simp), h 10 (by simp), h 11 (by simp)⟩
theorem Thr.new {W : World} {b : Nat} {t : TypeId} {x y z : Int} (e : b = W.heap.size) : Thr (W.alloc (.cells #[.int .u64 (l0 x), .int .u64 (l1 x), .int .u64 (l2 x), .int .u64 (l3 x), .int .u64 (l0 y), .int .u64 (l1 y), .int .u64 (l2 y), .int .u64 (l3 y), .int .u64 (l0 z), .int .u64 (l1 z), .int .u64 (l2 z), .int .u64 (l3 z)] t)) b x y z := Cl.new _ e rfl
theorem Thr.grown {W : World} {b : Nat} {x y z : Int} (h : Thr W b x y z) : ∀ d os,
    (grow (redrawn W d) os).cell? ⟨b, 0, none⟩ = some (.int .u64 (l0 x)) ∧ (grow (redrawn W d) os).cell? ⟨b, 1, none⟩ = some (.int .u64 (l1 x)) ∧ (grow (redrawn W d) os).cell? ⟨b, 2, none⟩ = some (.int .u64 (l2 x)) ∧ (grow (redrawn W d) os).cell? ⟨b, 3, none⟩ = some (.int .u64 (l3 x)) ∧ (grow (redrawn W d) os).cell? ⟨b, 4, none⟩ = some (.int .u64 (l0 y)) ∧ (grow (redrawn W d) os).cell? ⟨b, 5, none⟩ = some (.int .u64 (l1 y)) ∧ (grow (redrawn W d) os).cell? ⟨b, 6, none⟩ = some (.int .u64 (l2 y)) ∧ (grow (redrawn W d) os).cell? ⟨b, 7, none⟩ = some (.int .u64 (l3 y)) ∧ (grow (redrawn W d) os).cell? ⟨b, 8, none⟩ = some (.int .u64 (l0 z)) ∧ (grow (redrawn W d) os).cell? ⟨b, 9, none⟩ = some (.int .u64 (l1 z)) ∧ (grow (redrawn W d) os).cell? ⟨b, 10, none⟩ = some (.int .u64 (l2 z)) ∧ (grow (redrawn W d) os).cell? ⟨b, 11, none⟩ = some (.int .u64 (l3 z)) := fun d os => (h.keep (below_regrown W d os)).cells
theorem Pnt.set4 {W : World} {b b' : Nat} {x y : Int} {i : Bool} (h : Pnt W b x y i) (ne : b' ≠ b) (v0 v1 v2 v3 : Value) : Pnt ((((W.setCell ⟨b', 0, none⟩ v0).setCell ⟨b', 1, none⟩ v1).setCell ⟨b', 2, none⟩ v2).setCell ⟨b', 3, none⟩ v3) b x y i :=
  Cl.set (Cl.set (Cl.set (Cl.set h ne v0) ne v1) ne v2) ne v3
theorem Thr.set4 {W : World} {b b' : Nat} {x y z : Int} (h : Thr W b x y z) (ne : b' ≠ b) (v0 v1 v2 v3 : Value) : Thr ((((W.setCell ⟨b', 0, none⟩ v0).setCell ⟨b', 1, none⟩ v1).setCell ⟨b', 2, none⟩ v2).setCell ⟨b', 3, none⟩ v3) b x y z :=
  Cl.set (Cl.set (Cl.set (Cl.set h ne v0) ne v1) ne v2) ne v3

/-- A block of 9 cells as it is laid, that may be written. -/
def Bk9 (W : World) (b : Nat) : Prop := Cl W b [.int .u64 0, .int .u64 0, .int .u64 0, .int .u64 0, .int .u64 0, .int .u64 0, .int .u64 0, .int .u64 0, .bool false] ∧ Loose W b 9
theorem Bk9.lt {W : World} {b : Nat} (h : Bk9 W b) : b < W.heap.size := Cl.lt h.1 (by simp)
theorem Bk9.keep {W w1 : World} {b : Nat} (h : Bk9 W b) (hb : Below W.heap.size W w1) : Bk9 w1 b := ⟨h.1.keep hb, h.2.keep hb h.lt⟩
theorem Bk9.alloc {W : World} {b : Nat} (h : Bk9 W b) (o : Obj) : Bk9 (W.alloc o) b := h.keep ((Below.refl _ _).alloc (Nat.le_refl _) o)
theorem Bk9.set4 {W : World} {b b' : Nat} (h : Bk9 W b) (ne : b' ≠ b) (v0 v1 v2 v3 : Value) : Bk9 ((((W.setCell ⟨b', 0, none⟩ v0).setCell ⟨b', 1, none⟩ v1).setCell ⟨b', 2, none⟩ v2).setCell ⟨b', 3, none⟩ v3) b :=
  ⟨Cl.set (Cl.set (Cl.set (Cl.set h.1 ne v0) ne v1) ne v2) ne v3, (((h.2.set _ _).set _ _).set _ _).set _ _⟩
theorem Bk9.cells {W : World} {b : Nat} (h : Bk9 W b) : W.cell? ⟨b, 0, none⟩ = some (.int .u64 0) ∧ W.cell? ⟨b, 1, none⟩ = some (.int .u64 0) ∧ W.cell? ⟨b, 2, none⟩ = some (.int .u64 0) ∧ W.cell? ⟨b, 3, none⟩ = some (.int .u64 0) ∧ W.cell? ⟨b, 4, none⟩ = some (.int .u64 0) ∧ W.cell? ⟨b, 5, none⟩ = some (.int .u64 0) ∧ W.cell? ⟨b, 6, none⟩ = some (.int .u64 0) ∧ W.cell? ⟨b, 7, none⟩ = some (.int .u64 0) ∧ W.cell? ⟨b, 8, none⟩ = some (.bool false) := ⟨h.1 0 (by simp), h.1 1 (by simp), h.1 2 (by simp), h.1 3 (by simp), h.1 4 (by simp), h.1 5 (by simp), h.1 6 (by simp), h.1 7 (by simp), h.1 8 (by simp)⟩
theorem Bk9.free {W : World} {b : Nat} (h : Bk9 W b) : W.frozen? ⟨b, 0, none⟩ = false ∧ W.frozen? ⟨b, 1, none⟩ = false ∧ W.frozen? ⟨b, 2, none⟩ = false ∧ W.frozen? ⟨b, 3, none⟩ = false ∧ W.frozen? ⟨b, 4, none⟩ = false ∧ W.frozen? ⟨b, 5, none⟩ = false ∧ W.frozen? ⟨b, 6, none⟩ = false ∧ W.frozen? ⟨b, 7, none⟩ = false ∧ W.frozen? ⟨b, 8, none⟩ = false := ⟨h.2 0 (by decide), h.2 1 (by decide), h.2 2 (by decide), h.2 3 (by decide), h.2 4 (by decide), h.2 5 (by decide), h.2 6 (by decide), h.2 7 (by decide), h.2 8 (by decide)⟩
theorem Bk9.new {W : World} {b : Nat} {t : TypeId} (e : b = W.heap.size) : Bk9 (W.alloc (.cells #[.int .u64 0, .int .u64 0, .int .u64 0, .int .u64 0, .int .u64 0, .int .u64 0, .int .u64 0, .int .u64 0, .bool false] t)) b := ⟨Cl.new _ e rfl, by subst e; exact Loose.new _ _ _ _⟩

/-- A block of 12 cells as it is laid, that may be written. -/
def Bk12 (W : World) (b : Nat) : Prop := Cl W b [.int .u64 0, .int .u64 0, .int .u64 0, .int .u64 0, .int .u64 0, .int .u64 0, .int .u64 0, .int .u64 0, .int .u64 0, .int .u64 0, .int .u64 0, .int .u64 0] ∧ Loose W b 12
theorem Bk12.lt {W : World} {b : Nat} (h : Bk12 W b) : b < W.heap.size := Cl.lt h.1 (by simp)
theorem Bk12.keep {W w1 : World} {b : Nat} (h : Bk12 W b) (hb : Below W.heap.size W w1) : Bk12 w1 b := ⟨h.1.keep hb, h.2.keep hb h.lt⟩
theorem Bk12.alloc {W : World} {b : Nat} (h : Bk12 W b) (o : Obj) : Bk12 (W.alloc o) b := h.keep ((Below.refl _ _).alloc (Nat.le_refl _) o)
theorem Bk12.set4 {W : World} {b b' : Nat} (h : Bk12 W b) (ne : b' ≠ b) (v0 v1 v2 v3 : Value) : Bk12 ((((W.setCell ⟨b', 0, none⟩ v0).setCell ⟨b', 1, none⟩ v1).setCell ⟨b', 2, none⟩ v2).setCell ⟨b', 3, none⟩ v3) b :=
  ⟨Cl.set (Cl.set (Cl.set (Cl.set h.1 ne v0) ne v1) ne v2) ne v3, (((h.2.set _ _).set _ _).set _ _).set _ _⟩
theorem Bk12.cells {W : World} {b : Nat} (h : Bk12 W b) : W.cell? ⟨b, 0, none⟩ = some (.int .u64 0) ∧ W.cell? ⟨b, 1, none⟩ = some (.int .u64 0) ∧ W.cell? ⟨b, 2, none⟩ = some (.int .u64 0) ∧ W.cell? ⟨b, 3, none⟩ = some (.int .u64 0) ∧ W.cell? ⟨b, 4, none⟩ = some (.int .u64 0) ∧ W.cell? ⟨b, 5, none⟩ = some (.int .u64 0) ∧ W.cell? ⟨b, 6, none⟩ = some (.int .u64 0) ∧ W.cell? ⟨b, 7, none⟩ = some (.int .u64 0) ∧ W.cell? ⟨b, 8, none⟩ = some (.int .u64 0) ∧ W.cell? ⟨b, 9, none⟩ = some (.int .u64 0) ∧ W.cell? ⟨b, 10, none⟩ = some (.int .u64 0) ∧ W.cell? ⟨b, 11, none⟩ = some (.int .u64 0) := ⟨h.1 0 (by simp), h.1 1 (by simp), h.1 2 (by simp), h.1 3 (by simp), h.1 4 (by simp), h.1 5 (by simp), h.1 6 (by simp), h.1 7 (by simp), h.1 8 (by simp), h.1 9 (by simp), h.1 10 (by simp), h.1 11 (by simp)⟩
theorem Bk12.free {W : World} {b : Nat} (h : Bk12 W b) : W.frozen? ⟨b, 0, none⟩ = false ∧ W.frozen? ⟨b, 1, none⟩ = false ∧ W.frozen? ⟨b, 2, none⟩ = false ∧ W.frozen? ⟨b, 3, none⟩ = false ∧ W.frozen? ⟨b, 4, none⟩ = false ∧ W.frozen? ⟨b, 5, none⟩ = false ∧ W.frozen? ⟨b, 6, none⟩ = false ∧ W.frozen? ⟨b, 7, none⟩ = false ∧ W.frozen? ⟨b, 8, none⟩ = false ∧ W.frozen? ⟨b, 9, none⟩ = false ∧ W.frozen? ⟨b, 10, none⟩ = false ∧ W.frozen? ⟨b, 11, none⟩ = false := ⟨h.2 0 (by decide), h.2 1 (by decide), h.2 2 (by decide), h.2 3 (by decide), h.2 4 (by decide), h.2 5 (by decide), h.2 6 (by decide), h.2 7 (by decide), h.2 8 (by decide), h.2 9 (by decide), h.2 10 (by decide), h.2 11 (by decide)⟩
theorem Bk12.new {W : World} {b : Nat} {t : TypeId} (e : b = W.heap.size) : Bk12 (W.alloc (.cells #[.int .u64 0, .int .u64 0, .int .u64 0, .int .u64 0, .int .u64 0, .int .u64 0, .int .u64 0, .int .u64 0, .int .u64 0, .int .u64 0, .int .u64 0, .int .u64 0] t)) b := ⟨Cl.new _ e rfl, by subst e; exact Loose.new _ _ _ _⟩

end Go.Proofs.YtncpjgpioajbeaaGreatDoor

namespace Go.Proofs.YtncpjgpioajbeaaGreatDoor
open Go.RowKit Go.Sort

/-- The inverse by Fermat. -/
def invN (m x : Int) : Int := powN m x (m - 2)
theorem two_off {m c : Int} (hf : Fit m c) : difN m 2 = m - 2 ∧ Num (m - 2) := by
  obtain ⟨h1, h2, h3⟩ := hf
  exact ⟨by unfold difN; omega, by omega, by omega⟩

set_option maxHeartbeats 4000000 in
theorem finverse_any {m c x : Int} (hf : Fit m c) (hx : Num x) (w : World) :
    Calls Tryz.prog 91 #[.agg #[.int .u64 (l0 m), .int .u64 (l1 m), .int .u64 (l2 m), .int .u64 (l3 m), .int .u64 (l0 c), .int .u64 (l1 c), .int .u64 (l2 c), .int .u64 (l3 c)], .agg #[.int .u64 (l0 x), .int .u64 (l1 x), .int .u64 (l2 x), .int .u64 (l3 x)]] w fun e w' => e = .returned (.agg #[.int .u64 (l0 (invN m x)), .int .u64 (l1 (invN m x)), .int .u64 (l2 (invN m x)), .int .u64 (l3 (invN m x))]) ∧ Below w.heap.size w w' := by
  obtain ⟨q1, q2⟩ := two_off hf
  have F1 : Hid (∀ w, Calls Tryz.prog 84 #[.int .u64 2] w fun e w' => e = .returned (.agg #[.int .u64 (l0 2), .int .u64 (l1 2), .int .u64 (l2 2), .int .u64 (l3 2)]) ∧ Below w.heap.size w w') := from_any ⟨by decide, by decide⟩
  have S1 : Hid (∀ w, Calls Tryz.prog 37 #[.agg #[.int .u64 (l0 m), .int .u64 (l1 m), .int .u64 (l2 m), .int .u64 (l3 m)], .agg #[.int .u64 (l0 2), .int .u64 (l1 2), .int .u64 (l2 2), .int .u64 (l3 2)]] w fun e w' => e = .returned (.tuple #[.agg #[.int .u64 (l0 (m - 2)), .int .u64 (l1 (m - 2)), .int .u64 (l2 (m - 2)), .int .u64 (l3 (m - 2))], .int .u64 (borN m 2)]) ∧ Below w.heap.size w w') := fun w => by
    have := sub_any (m := 2) hf.num ⟨by decide, by decide⟩ w; rw [q1] at this; exact this
  have E1 : Hid (∀ w, Calls Tryz.prog 85 #[.agg #[.int .u64 (l0 m), .int .u64 (l1 m), .int .u64 (l2 m), .int .u64 (l3 m), .int .u64 (l0 c), .int .u64 (l1 c), .int .u64 (l2 c), .int .u64 (l3 c)], .agg #[.int .u64 (l0 x), .int .u64 (l1 x), .int .u64 (l2 x), .int .u64 (l3 x)], .agg #[.int .u64 (l0 (m - 2)), .int .u64 (l1 (m - 2)), .int .u64 (l2 (m - 2)), .int .u64 (l3 (m - 2))]] w fun e w' => e = .returned (.agg #[.int .u64 (l0 (invN m x)), .int .u64 (l1 (invN m x)), .int .u64 (l2 (invN m x)), .int .u64 (l3 (invN m x))]) ∧ Below w.heap.size w w') := fexp_any hf hx q2
  clear q1 q2 hf hx
  generalize invN m x = R at *
  generalize m - 2 = D at *
  generalize borN m 2 = z at *
  generalize ht : (2 : Int) = T at F1 S1
  go_enter Tryz.func91, Tryz.ntmps91
  go_wp2_with fail
  refine wp_world (fun W => Below w.heap.size w W ∧ HoldM W w.heap.size m c ∧ Hold W (w.heap.size + 1) x ∧ Blank W (w.heap.size + 1 + 1)) ⟨by repeat (first | with_reducible exact Below.refl _ _ | with_reducible refine Below.alloc ?_ (by first | omega | (simp; done) | (simp; omega)) _), ((HoldM.new w m c _).alloc _).alloc _, (Hold.fresh (by simp)).alloc _, Blank.new (by simp)⟩ ?_
  rintro W ⟨B, hF, hX, hR⟩
  have o3 : w.heap.size ≤ w.heap.size + 1 + 1 := by omega
  generalize w.heap.size + 1 + 1 = br at *
  generalize w.heap.size + 1 = bx at *
  generalize hbf : w.heap.size = bf at *
  subst ht
  have gF := hF.cells
  have lf : bf < W.heap.size := hF.lt
  have lx : bx < W.heap.size := World.block_lt_of_cell? W _ hX.1
  have lr : br < W.heap.size := hR.1.lt (by simp)
  have BB : Hid (Below bf w W) := B
  have HF : Hid (HoldM W bf m c) := hF
  have HX : Hid (Hold W bx x) := hX
  have HR : Hid (Blank W br) := hR
  have geB : bf ≤ W.heap.size := by omega
  clear B hF hX hR
  refine wp_out (fun a' W' => ∃ bs, Below bf w W' ∧ HoldM W' bf m c ∧ Hold W' bx x ∧ Blank W' br ∧ Hold W' bs D ∧ a' = { tmps := #[.agg #[.int .u64 (l0 m), .int .u64 (l1 m), .int .u64 (l2 m), .int .u64 (l3 m), .int .u64 (l0 c), .int .u64 (l1 c), .int .u64 (l2 c), .int .u64 (l3 c)], .agg #[.int .u64 (l0 x), .int .u64 (l1 x), .int .u64 (l2 x), .int .u64 (l3 x)], .pointer (some { block := bf, off := 0 }), .pointer (some { block := bx, off := 0 }), .pointer (some { block := br, off := 0 }), .pointer (some { block := bs, off := 0 }), .int .u64 z, .tuple #[.agg #[.int .u64 (l0 D), .int .u64 (l1 D), .int .u64 (l2 D), .int .u64 (l3 D)], .int .u64 z], .pointer (some { block := bf, off := 0 }), .agg #[.int .u64 (l0 m), .int .u64 (l1 m), .int .u64 (l2 m), .int .u64 (l3 m)], .agg #[.int .u64 (l0 2), .int .u64 (l1 2), .int .u64 (l2 2), .int .u64 (l3 2)], .tuple #[.agg #[.int .u64 (l0 D), .int .u64 (l1 D), .int .u64 (l2 D), .int .u64 (l3 D)], .int .u64 z], .agg #[.int .u64 (l0 D), .int .u64 (l1 D), .int .u64 (l2 D), .int .u64 (l3 D)], .int .u64 z, Go.undef, Go.undef, Go.undef, Go.undef], defers := [] }) ?_ ?_
  · have dz : W.drew.heap.size = W.heap.size := rfl
    clear E1
    have _ : bf < W.heap.size := by omega
    have _ : bf ≤ W.heap.size := by omega
    have _ : bf < W.heap.size + 1 := by omega
    have _ : bf < W.heap.size + 1 + 1 := by omega
    have _ : bf ≠ W.heap.size := by omega
    have _ : W.heap.size ≠ bf := by omega
    have _ : bf ≠ W.heap.size + 1 := by omega
    have _ : W.heap.size + 1 ≠ bf := by omega
    have _ : bx < W.heap.size := by omega
    have _ : bx ≤ W.heap.size := by omega
    have _ : bx < W.heap.size + 1 := by omega
    have _ : bx < W.heap.size + 1 + 1 := by omega
    have _ : bx ≠ W.heap.size := by omega
    have _ : W.heap.size ≠ bx := by omega
    have _ : bx ≠ W.heap.size + 1 := by omega
    have _ : W.heap.size + 1 ≠ bx := by omega
    have _ : br < W.heap.size := by omega
    have _ : br ≤ W.heap.size := by omega
    have _ : br < W.heap.size + 1 := by omega
    have _ : br < W.heap.size + 1 + 1 := by omega
    have _ : br ≠ W.heap.size := by omega
    have _ : W.heap.size ≠ br := by omega
    have _ : br ≠ W.heap.size + 1 := by omega
    have _ : W.heap.size + 1 ≠ br := by omega
    go_region_held3 (fun w' => w'.cell? ⟨bf, 0, none⟩ = some (.int .u64 (l0 m)) ∧ w'.cell? ⟨bf, 1, none⟩ = some (.int .u64 (l1 m)) ∧ w'.cell? ⟨bf, 2, none⟩ = some (.int .u64 (l2 m)) ∧ w'.cell? ⟨bf, 3, none⟩ = some (.int .u64 (l3 m))) (((try dsimp only); (repeat' (apply And.intro)); (all_goals repeat (first | with_reducible assumption | with_reducible apply cell_keep hb2 | with_reducible apply cell_keep hb1 | with_reducible apply cell_alloc | (with_reducible refine cell_set ?_ (by with_reducible assumption)) | (simp [go_sem, *]; done)))))
      (first
        | (go_at_call 84; with_reducible refine (F1.out _).mono ?_; rintro e w1 ⟨rfl, hb1⟩; have hc1 := oldCells hb1; have hz1 := hb1.size; (try simp at hz1); (try (have := fun j => oldCells hb1 (W.heap.size) j (by first | omega | (simp; done) | (simp; omega)))); (try (have := fun j => oldCells hb1 (W.heap.size + 1) j (by first | omega | (simp; done) | (simp; omega)))); have _ : bf < w1.heap.size := (by omega); have _ : bf ≤ w1.heap.size := (by omega); have _ : bf < w1.heap.size + 1 := (by omega); have _ : bf < w1.heap.size + 1 + 1 := (by omega); have _ : bf ≠ w1.heap.size := (by omega); have _ : w1.heap.size ≠ bf := (by omega); have _ : bf ≠ w1.heap.size + 1 := (by omega); have _ : w1.heap.size + 1 ≠ bf := (by omega); have _ : bx < w1.heap.size := (by omega); have _ : bx ≤ w1.heap.size := (by omega); have _ : bx < w1.heap.size + 1 := (by omega); have _ : bx < w1.heap.size + 1 + 1 := (by omega); have _ : bx ≠ w1.heap.size := (by omega); have _ : w1.heap.size ≠ bx := (by omega); have _ : bx ≠ w1.heap.size + 1 := (by omega); have _ : w1.heap.size + 1 ≠ bx := (by omega); have _ : br < w1.heap.size := (by omega); have _ : br ≤ w1.heap.size := (by omega); have _ : br < w1.heap.size + 1 := (by omega); have _ : br < w1.heap.size + 1 + 1 := (by omega); have _ : br ≠ w1.heap.size := (by omega); have _ : w1.heap.size ≠ br := (by omega); have _ : br ≠ w1.heap.size + 1 := (by omega); have _ : w1.heap.size + 1 ≠ br := (by omega); (try (have _ : W.heap.size < w1.heap.size := (by omega))); (try (have _ : W.heap.size ≤ w1.heap.size := (by omega))); (try (have _ : W.heap.size ≠ w1.heap.size := (by omega))); (try (have _ : w1.heap.size ≠ W.heap.size := (by omega))); (try (have _ : W.heap.size < w1.heap.size + 1 := (by omega))); (try (have _ : W.heap.size + 1 < w1.heap.size := (by omega))); (try (have _ : W.heap.size + 1 ≤ w1.heap.size := (by omega))); (try (have _ : W.heap.size + 1 ≠ w1.heap.size := (by omega))); (try (have _ : w1.heap.size ≠ W.heap.size + 1 := (by omega))); (try (have _ : W.heap.size + 1 < w1.heap.size + 1 := (by omega))))
        | (go_at_call 37; with_reducible refine (S1.out _).mono ?_; rintro e w2 ⟨rfl, hb2⟩; have hc2 := oldCells hb2; have hz2 := hb2.size; (try simp at hz2); (try (have := fun j => oldCells hb2 (W.heap.size) j (by first | omega | (simp; done) | (simp; omega)))); (try (have := fun j => oldCells hb2 (W.heap.size + 1) j (by first | omega | (simp; done) | (simp; omega)))); (try (have := fun j => oldCells hb2 (w1.heap.size) j (by first | omega | (simp; done) | (simp; omega)))); (try (have := fun j => oldCells hb2 (w1.heap.size + 1) j (by first | omega | (simp; done) | (simp; omega)))); have _ : bf < w2.heap.size := (by omega); have _ : bf ≤ w2.heap.size := (by omega); have _ : bf < w2.heap.size + 1 := (by omega); have _ : bf < w2.heap.size + 1 + 1 := (by omega); have _ : bf ≠ w2.heap.size := (by omega); have _ : w2.heap.size ≠ bf := (by omega); have _ : bf ≠ w2.heap.size + 1 := (by omega); have _ : w2.heap.size + 1 ≠ bf := (by omega); have _ : bx < w2.heap.size := (by omega); have _ : bx ≤ w2.heap.size := (by omega); have _ : bx < w2.heap.size + 1 := (by omega); have _ : bx < w2.heap.size + 1 + 1 := (by omega); have _ : bx ≠ w2.heap.size := (by omega); have _ : w2.heap.size ≠ bx := (by omega); have _ : bx ≠ w2.heap.size + 1 := (by omega); have _ : w2.heap.size + 1 ≠ bx := (by omega); have _ : br < w2.heap.size := (by omega); have _ : br ≤ w2.heap.size := (by omega); have _ : br < w2.heap.size + 1 := (by omega); have _ : br < w2.heap.size + 1 + 1 := (by omega); have _ : br ≠ w2.heap.size := (by omega); have _ : w2.heap.size ≠ br := (by omega); have _ : br ≠ w2.heap.size + 1 := (by omega); have _ : w2.heap.size + 1 ≠ br := (by omega); (try (have _ : W.heap.size < w2.heap.size := (by omega))); (try (have _ : W.heap.size ≤ w2.heap.size := (by omega))); (try (have _ : W.heap.size ≠ w2.heap.size := (by omega))); (try (have _ : w2.heap.size ≠ W.heap.size := (by omega))); (try (have _ : W.heap.size < w2.heap.size + 1 := (by omega))); (try (have _ : W.heap.size + 1 < w2.heap.size := (by omega))); (try (have _ : W.heap.size + 1 ≤ w2.heap.size := (by omega))); (try (have _ : W.heap.size + 1 ≠ w2.heap.size := (by omega))); (try (have _ : w2.heap.size ≠ W.heap.size + 1 := (by omega))); (try (have _ : W.heap.size + 1 < w2.heap.size + 1 := (by omega))); (try (have _ : w1.heap.size < w2.heap.size := (by omega))); (try (have _ : w1.heap.size ≤ w2.heap.size := (by omega))); (try (have _ : w1.heap.size ≠ w2.heap.size := (by omega))); (try (have _ : w2.heap.size ≠ w1.heap.size := (by omega))); (try (have _ : w1.heap.size < w2.heap.size + 1 := (by omega))); (try (have _ : w1.heap.size + 1 < w2.heap.size := (by omega))); (try (have _ : w1.heap.size + 1 ≤ w2.heap.size := (by omega))); (try (have _ : w1.heap.size + 1 ≠ w2.heap.size := (by omega))); (try (have _ : w2.heap.size ≠ w1.heap.size + 1 := (by omega))); (try (have _ : w1.heap.size + 1 < w2.heap.size + 1 := (by omega)))))
    all_goals (refine OutQ.intro ⟨_, ?_, ?_, ?_, ?_, ?_, rfl⟩)
    all_goals repeat (first | with_reducible exact BB.out | with_reducible exact HF.out | with_reducible exact HX.out | with_reducible exact HR.out | with_reducible refine Hold.fresh (by first | rfl | (simp; done) | fail) | with_reducible refine Hold.sets4 ?_ | with_reducible refine Hold.alloc ?_ _ | with_reducible refine Hold.drew ?_ | with_reducible refine Hold.set4 ?_ (by with_reducible assumption) _ _ _ _ | with_reducible refine HoldM.alloc ?_ _ | with_reducible refine HoldM.drew ?_ | with_reducible refine HoldM.set4 ?_ (by with_reducible assumption) _ _ _ _ | with_reducible refine Blank.alloc ?_ _ | with_reducible refine Blank.drew ?_ | with_reducible refine Blank.set4 ?_ (by with_reducible assumption) _ _ _ _ | with_reducible refine below_alloc hbf ?_ _ | with_reducible refine Below.drew ?_ | with_reducible refine Below.setCell ?_ (by with_reducible assumption) _ | with_reducible refine Has.fresh (by first | rfl | (simp; done) | fail) (by first | (simp; done) | fail) | with_reducible refine Has.alloc ?_ _ | with_reducible refine Has.drew ?_ | with_reducible refine Has.keep ?_ hb2 | with_reducible refine Hold.keep ?_ hb2 | with_reducible refine HoldM.keep ?_ hb2 | with_reducible refine Blank.keep ?_ hb2 | with_reducible refine below_then hbf ?_ hb2 | with_reducible refine Has.keep ?_ hb1 | with_reducible refine Hold.keep ?_ hb1 | with_reducible refine HoldM.keep ?_ hb1 | with_reducible refine Blank.keep ?_ hb1 | with_reducible refine below_then hbf ?_ hb1)
  rintro _ W1 ⟨bs, B, hF, hX, hR, hS, rfl⟩
  subst hbf
  clear BB HF HR HX gF lf lx lr geB F1 S1 W
  have gF := hF.cells; have gX := hX.cells; have gS := hS.cells
  go_wp2_with fail
  with_reducible refine (E1.out _).mono ?_
  rintro e w1 ⟨rfl, hb⟩
  replace B := B.trans (hb.mono B.size)
  replace hR := hR.keep hb
  clear hb gF gX gS hF hX hS
  have gR := hR.1.all4; have fR := hR.2.all4
  go_wp2
  simp [bodyPost, results, Tryz.results91, go_sem, gR]
  exact below_set4 B o3 _ _ _ _

set_option maxHeartbeats 2000000 in
theorem Inverse_good {k m c x : Int} (hk : Kind k m c) (hx : Num x) (hz : modN m x ≠ 0) (w : World) (hm : Mds w) :
    Calls Tryz.prog 51 #[.int .i64 k, .agg #[.int .u64 (l0 x), .int .u64 (l1 x), .int .u64 (l2 x), .int .u64 (l3 x)]] w fun e w' => e = .returned (.tuple #[.agg #[.int .u64 (l0 (invN m x)), .int .u64 (l1 (invN m x)), .int .u64 (l2 (invN m x)), .int .u64 (l3 (invN m x))], .int .i64 0]) ∧ Below w.heap.size w w' := by
  have O1 : Hid (∀ w, Calls Tryz.prog 87 #[.agg #[.int .u64 (l0 m), .int .u64 (l1 m), .int .u64 (l2 m), .int .u64 (l3 m), .int .u64 (l0 c), .int .u64 (l1 c), .int .u64 (l2 c), .int .u64 (l3 c)], .agg #[.int .u64 (l0 x), .int .u64 (l1 x), .int .u64 (l2 x), .int .u64 (l3 x)]] w fun e w' => e = .returned (.agg #[.int .u64 (l0 (modN m x)), .int .u64 (l1 (modN m x)), .int .u64 (l2 (modN m x)), .int .u64 (l3 (modN m x))]) ∧ Below w.heap.size w w') := once_any hk.fit hx
  have I1 : Hid (∀ w, Calls Tryz.prog 91 #[.agg #[.int .u64 (l0 m), .int .u64 (l1 m), .int .u64 (l2 m), .int .u64 (l3 m), .int .u64 (l0 c), .int .u64 (l1 c), .int .u64 (l2 c), .int .u64 (l3 c)], .agg #[.int .u64 (l0 x), .int .u64 (l1 x), .int .u64 (l2 x), .int .u64 (l3 x)]] w fun e w' => e = .returned (.agg #[.int .u64 (l0 (invN m x)), .int .u64 (l1 (invN m x)), .int .u64 (l2 (invN m x)), .int .u64 (l3 (invN m x))]) ∧ Below w.heap.size w w') := finverse_any hk.fit hx
  have hq := feq_zero (modN_Num hk.fit x)
  rw [show decide (modN m x = 0) = false by simp [hz]] at hq
  clear hz hx
  generalize modN m x = r at *
  generalize invN m x = R at *
  have bz := build_zero
  go_enter Tryz.func51, Tryz.ntmps51
  go_wp2_with fail
  refine calls_world (fun W => Below w.heap.size w W ∧ Mds W ∧ Hold W w.heap.size x ∧ Blank W (w.heap.size + 1)) ⟨by repeat (first | with_reducible exact Below.refl _ _ | with_reducible refine Below.alloc ?_ (by first | omega | (simp; done) | (simp; omega)) _), (hm.alloc _).alloc _, (Hold.fresh (by simp)).alloc _, Blank.new (by simp)⟩ ?_
  rintro W ⟨B, hD, hX, hR⟩
  have o3 : w.heap.size ≤ w.heap.size + 1 := by omega
  generalize w.heap.size + 1 = br at *
  with_reducible refine (of_good hk _ hD).mono ?_
  rintro e w1 ⟨rfl, hb⟩
  replace B := B.trans (hb.mono B.size)
  replace hX := hX.keep hb; replace hR := hR.keep hb
  clear hb hD W
  have gX := hX.allocs
  go_wp2_with fail
  refine calls_world (fun W => Below w.heap.size w W ∧ HoldM W w1.heap.size m c ∧ Hold W w.heap.size x ∧ Blank W br) ⟨B.alloc B.size _, HoldM.new _ _ _ _, hX.alloc _, hR.alloc _⟩ ?_
  clear B hX hR gX
  rintro W ⟨B, hF, hX, hR⟩
  generalize w1.heap.size = bf at *
  with_reducible refine (O1.out _).mono ?_
  rintro e w2 ⟨rfl, hb⟩
  replace B := B.trans (hb.mono B.size)
  replace hF := hF.keep hb; replace hX := hX.keep hb; replace hR := hR.keep hb
  clear hb W
  have gF := hF.cells; have gX := hX.cells
  go_wp2_with fail
  with_reducible refine (I1.out _).mono ?_
  rintro e w3 ⟨rfl, hb⟩
  replace B := B.trans (hb.mono B.size)
  replace hR := hR.keep hb
  clear hb gF gX hF hX hq bz
  have gR := hR.1.all4; have fR := hR.2.all4
  go_wp2
  simp [bodyPost, results, Tryz.results51, go_sem, gR]
  exact below_set4 B o3 _ _ _ _

end Go.Proofs.YtncpjgpioajbeaaGreatDoor

namespace Go.Proofs.YtncpjgpioajbeaaGreatDoor
open Go.RowKit Go.Sort

set_option maxHeartbeats 2000000 in
theorem eorder_walk {n : Int} (O : Hid (∀ w, Mds w → Calls Tryz.prog 16 #[.int .i64 1] w fun e w' => e = .returned (.tuple #[.agg #[.int .u64 (l0 n), .int .u64 (l1 n), .int .u64 (l2 n), .int .u64 (l3 n)], .int .i64 0]) ∧ Below w.heap.size w w')) (w : World) (hm : Mds w) :
    Calls Tryz.prog 71 #[] w fun e w' => e = .returned (.agg #[.int .u64 (l0 n), .int .u64 (l1 n), .int .u64 (l2 n), .int .u64 (l3 n)]) ∧ Below w.heap.size w w' := by
  go_enter Tryz.func71, Tryz.ntmps71
  go_wp2_with fail
  refine calls_world (fun W => Below w.heap.size w W ∧ Mds W ∧ Blank W w.heap.size) ⟨by repeat (first | with_reducible exact Below.refl _ _ | with_reducible refine Below.alloc ?_ (by first | omega | (simp; done) | (simp; omega)) _), hm.alloc _, Blank.new rfl⟩ ?_
  rintro W ⟨B, hD, hR⟩
  with_reducible refine (O.out _ hD).mono ?_
  rintro e w1 ⟨rfl, hb⟩
  replace B := B.trans (hb.mono B.size)
  replace hR := hR.keep hb
  have lr := hR.1.lt (by simp)
  have nr : w1.heap.size ≠ w.heap.size := by omega
  have nr' := nr.symm
  have o3 : w.heap.size ≤ w.heap.size := Nat.le_refl _
  clear hb W hD
  have gR := fun o => (hR.alloc o).1.all4
  have fR := fun o => (hR.alloc o).2.all4
  have gR0 := hR.1.all4
  have fR0 := hR.2.all4
  have BB : Hid (Below w.heap.size w w1) := B
  clear B hR
  go_wp2
  simp [bodyPost, results, Tryz.results71, go_sem, *]
  repeat (first | with_reducible exact BB.out | with_reducible refine Below.setCell ?_ o3 _ | with_reducible refine Below.alloc ?_ (by first | omega | (simp; omega)) _)

theorem ezero_walk {x : Int} {v : Bool} (E : ∀ w, (Op.equalIn 10000 24 (.agg #[.int .u64 (l0 x), .int .u64 (l1 x), .int .u64 (l2 x), .int .u64 (l3 x)]) (.agg #[.int .u64 0, .int .u64 0, .int .u64 0, .int .u64 0])).run Tryz.prog w = .ok v w) (w : World) : Calls Tryz.prog 34 #[.agg #[.int .u64 (l0 x), .int .u64 (l1 x), .int .u64 (l2 x), .int .u64 (l3 x)]] w fun e w' => e = .returned (.bool v) ∧ Below w.heap.size w w' := by
  go_enter Tryz.func34, Tryz.ntmps34
  go_wp2
  simp [bodyPost, results, Tryz.results34, go_sem]
  repeat (first | with_reducible exact Below.refl _ _ | with_reducible refine Below.alloc ?_ (by first | omega | (simp; done) | (simp; omega)) _ | with_reducible refine Below.setCell ?_ (by first | omega | (simp; done) | (simp; omega)) _)

set_option maxRecDepth 100000 in
set_option maxHeartbeats 4000000 in
theorem ebelow_walk {x n q : Int} {v : Bool} (O : Hid (∀ w, Mds w → Calls Tryz.prog 71 #[] w fun e w' => e = .returned (.agg #[.int .u64 (l0 n), .int .u64 (l1 n), .int .u64 (l2 n), .int .u64 (l3 n)]) ∧ Below w.heap.size w w')) (C : Hid (∀ w, Calls Tryz.prog 17 #[.agg #[.int .u64 (l0 x), .int .u64 (l1 x), .int .u64 (l2 x), .int .u64 (l3 x)], .agg #[.int .u64 (l0 n), .int .u64 (l1 n), .int .u64 (l2 n), .int .u64 (l3 n)]] w fun e w' => e = .returned (.int .i64 q) ∧ Below w.heap.size w w')) (hv : decide (q < 0) = v) (w : World) (hm : Mds w) :
    Calls Tryz.prog 35 #[.agg #[.int .u64 (l0 x), .int .u64 (l1 x), .int .u64 (l2 x), .int .u64 (l3 x)]] w fun e w' => e = .returned (.bool v) ∧ Below w.heap.size w w' := by
  go_enter Tryz.func35, Tryz.ntmps35
  go_wp2_with fail
  refine wp_world (fun W => Below w.heap.size w W ∧ Mds W ∧ Hold W w.heap.size x) ⟨by repeat (first | with_reducible exact Below.refl _ _ | with_reducible refine Below.alloc ?_ (by first | omega | (simp; done) | (simp; omega)) _), hm.alloc _, Hold.fresh (by simp)⟩ ?_
  rintro W ⟨B, hD, hX⟩
  have ghX := hX.grown
  have hDg : ∀ d os, Mds (grow (redrawn W d) os) := fun d os => hD.keep (below_regrown W d os)
  refine wp_region_quiet_below (by kernel_rfl) (by kernel_rfl) ?_
  repeat
    first
      | go_big_quiet_skip
      | (go_big_quiet_want; go_big_quiet_op; go_big_quiet_on)
      | (go_big_quiet_want
         go_big_quiet_op
         apply Exists.intro
         refine ⟨fun p => ?_, ?_⟩
         · (first | (go_at_call 71; with_reducible exact Calls.regrown_of (O.out _ (hDg p.d p.os))) | (go_at_call 17; with_reducible exact Calls.regrown_of (C.out _)))
         go_big_quiet_on)
  refine wpQuiet_nil ?_
  rintro w1 ⟨p, rfl⟩
  have hb := below_regrown W p.d p.os
  generalize grow (redrawn W p.d) p.os = w1 at *
  replace B := B.trans (hb.mono B.size)
  replace hD := hD.keep hb; replace hX := hX.keep hb
  clear hb W ghX hDg
  clear hD hX
  go_wp2
  simp [bodyPost, results, Tryz.results35, go_sem]
  exact B

set_option maxRecDepth 100000 in
set_option maxHeartbeats 4000000 in
theorem elow_walk {x n h q : Int} {v : Bool} (O : Hid (∀ w, Mds w → Calls Tryz.prog 71 #[] w fun e w' => e = .returned (.agg #[.int .u64 (l0 n), .int .u64 (l1 n), .int .u64 (l2 n), .int .u64 (l3 n)]) ∧ Below w.heap.size w w')) (C0 : Hid (∀ w, Calls Tryz.prog 82 #[.agg #[.int .u64 (l0 n), .int .u64 (l1 n), .int .u64 (l2 n), .int .u64 (l3 n)], .int .i64 1] w fun e w' => e = .returned (.agg #[.int .u64 (l0 h), .int .u64 (l1 h), .int .u64 (l2 h), .int .u64 (l3 h)]) ∧ Below w.heap.size w w')) (C : Hid (∀ w, Calls Tryz.prog 17 #[.agg #[.int .u64 (l0 x), .int .u64 (l1 x), .int .u64 (l2 x), .int .u64 (l3 x)], .agg #[.int .u64 (l0 h), .int .u64 (l1 h), .int .u64 (l2 h), .int .u64 (l3 h)]] w fun e w' => e = .returned (.int .i64 q) ∧ Below w.heap.size w w')) (hv : decide (q ≤ 0) = v) (w : World) (hm : Mds w) :
    Calls Tryz.prog 46 #[.agg #[.int .u64 (l0 x), .int .u64 (l1 x), .int .u64 (l2 x), .int .u64 (l3 x)]] w fun e w' => e = .returned (.bool v) ∧ Below w.heap.size w w' := by
  go_enter Tryz.func46, Tryz.ntmps46
  go_wp2_with fail
  refine wp_world (fun W => Below w.heap.size w W ∧ Mds W ∧ Hold W w.heap.size x) ⟨by repeat (first | with_reducible exact Below.refl _ _ | with_reducible refine Below.alloc ?_ (by first | omega | (simp; done) | (simp; omega)) _), hm.alloc _, Hold.fresh (by simp)⟩ ?_
  rintro W ⟨B, hD, hX⟩
  have ghX := hX.grown
  have hDg : ∀ d os, Mds (grow (redrawn W d) os) := fun d os => hD.keep (below_regrown W d os)
  refine wp_region_quiet_below (by kernel_rfl) (by kernel_rfl) ?_
  repeat
    first
      | go_big_quiet_skip
      | (go_big_quiet_want; go_big_quiet_op; go_big_quiet_on)
      | (go_big_quiet_want
         go_big_quiet_op
         apply Exists.intro
         refine ⟨fun p => ?_, ?_⟩
         · (first | (go_at_call 71; with_reducible exact Calls.regrown_of (O.out _ (hDg p.d p.os))) | (go_at_call 82; with_reducible exact Calls.regrown_of (C0.out _)) | (go_at_call 17; with_reducible exact Calls.regrown_of (C.out _)))
         go_big_quiet_on)
  refine wpQuiet_nil ?_
  rintro w1 ⟨p, rfl⟩
  have hb := below_regrown W p.d p.os
  generalize grow (redrawn W p.d) p.os = w1 at *
  replace B := B.trans (hb.mono B.size)
  replace hD := hD.keep hb; replace hX := hX.keep hb
  clear hb W ghX hDg
  clear hD hX
  go_wp2
  simp [bodyPost, results, Tryz.results46, go_sem]
  exact B

set_option maxRecDepth 100000 in
set_option maxHeartbeats 4000000 in
theorem einside_zero {x : Int} (C0 : Hid (∀ w, Calls Tryz.prog 34 #[.agg #[.int .u64 (l0 x), .int .u64 (l1 x), .int .u64 (l2 x), .int .u64 (l3 x)]] w fun e w' => e = .returned (.bool true) ∧ Below w.heap.size w w')) (w : World) (hm : Mds w) :
    Calls Tryz.prog 13 #[.agg #[.int .u64 (l0 x), .int .u64 (l1 x), .int .u64 (l2 x), .int .u64 (l3 x)]] w fun e w' => e = .returned (.bool false) ∧ Below w.heap.size w w' := by
  go_enter Tryz.func13, Tryz.ntmps13
  go_wp2_with fail
  refine calls_world (fun W => Below w.heap.size w W ∧ Mds W ∧ Hold W w.heap.size x) ⟨by repeat (first | with_reducible exact Below.refl _ _ | with_reducible refine Below.alloc ?_ (by first | omega | (simp; done) | (simp; omega)) _), hm.alloc _, Hold.fresh (by simp)⟩ ?_
  rintro W ⟨B, hD, hX⟩
  with_reducible refine (C0.out _).mono ?_
  rintro e w9 ⟨rfl, hb⟩
  replace B := B.trans (hb.mono B.size)
  clear hb hX hD W
  go_wp2
  simp [bodyPost, results, Tryz.results13, go_sem]
  exact B

set_option maxRecDepth 100000 in
set_option maxHeartbeats 4000000 in
theorem einside_yes {x : Int} {v : Bool} (C0 : Hid (∀ w, Calls Tryz.prog 34 #[.agg #[.int .u64 (l0 x), .int .u64 (l1 x), .int .u64 (l2 x), .int .u64 (l3 x)]] w fun e w' => e = .returned (.bool false) ∧ Below w.heap.size w w')) (C1 : Hid (∀ w, Mds w → Calls Tryz.prog 35 #[.agg #[.int .u64 (l0 x), .int .u64 (l1 x), .int .u64 (l2 x), .int .u64 (l3 x)]] w fun e w' => e = .returned (.bool v) ∧ Below w.heap.size w w')) (w : World) (hm : Mds w) :
    Calls Tryz.prog 13 #[.agg #[.int .u64 (l0 x), .int .u64 (l1 x), .int .u64 (l2 x), .int .u64 (l3 x)]] w fun e w' => e = .returned (.bool v) ∧ Below w.heap.size w w' := by
  go_enter Tryz.func13, Tryz.ntmps13
  go_wp2_with fail
  refine calls_world (fun W => Below w.heap.size w W ∧ Mds W ∧ Hold W w.heap.size x) ⟨by repeat (first | with_reducible exact Below.refl _ _ | with_reducible refine Below.alloc ?_ (by first | omega | (simp; done) | (simp; omega)) _), hm.alloc _, Hold.fresh (by simp)⟩ ?_
  rintro W ⟨B, hD, hX⟩
  with_reducible refine (C0.out _).mono ?_
  rintro e w1 ⟨rfl, hb⟩
  replace B := B.trans (hb.mono B.size)
  replace hD := hD.keep hb; replace hX := hX.keep hb
  clear hb W
  have ghX := hX.cells
  go_wp2_with fail
  refine calls_world (fun W => Below w.heap.size w W ∧ Mds W ∧ Hold W w.heap.size x) ⟨B, hD, hX⟩ ?_
  clear B hD hX ghX
  rintro W ⟨B, hD, hX⟩
  with_reducible refine (C1.out _ hD).mono ?_
  rintro e w9 ⟨rfl, hb⟩
  replace B := B.trans (hb.mono B.size)
  clear hb hX hD W
  go_wp2
  simp [bodyPost, results, Tryz.results13, go_sem]
  exact B

set_option maxRecDepth 100000 in
set_option maxHeartbeats 4000000 in
theorem echeck_0 {r s : Int} {o : Bool} (C1 : Hid (∀ w, Mds w → Calls Tryz.prog 13 #[.agg #[.int .u64 (l0 r), .int .u64 (l1 r), .int .u64 (l2 r), .int .u64 (l3 r)]] w fun e w' => e = .returned (.bool false) ∧ Below w.heap.size w w')) (w : World) (hm : Mds w) :
    Calls Tryz.prog 23 #[.agg #[.int .u64 (l0 r), .int .u64 (l1 r), .int .u64 (l2 r), .int .u64 (l3 r), .int .u64 (l0 s), .int .u64 (l1 s), .int .u64 (l2 s), .int .u64 (l3 s), .bool o]] w fun e w' => e = .returned (.int .i64 61) ∧ Below w.heap.size w w' := by
  go_enter Tryz.func23, Tryz.ntmps23
  go_wp2_with fail
  refine calls_world (fun W => Below w.heap.size w W ∧ Mds W ∧ Pnt W w.heap.size r s o) ⟨by repeat (first | with_reducible exact Below.refl _ _ | with_reducible refine Below.alloc ?_ (by first | omega | (simp; done) | (simp; omega)) _), hm.alloc _, Pnt.new rfl⟩ ?_
  rintro W ⟨B, hD, hP⟩
  with_reducible refine (C1.out _ hD).mono ?_
  rintro e w9 ⟨rfl, hb⟩
  replace B := B.trans (hb.mono B.size)
  clear hb hP W hD
  go_wp2
  simp [bodyPost, results, Tryz.results23, go_sem]
  exact B

set_option maxRecDepth 100000 in
set_option maxHeartbeats 4000000 in
theorem echeck_1 {r s : Int} {o : Bool} (C1 : Hid (∀ w, Mds w → Calls Tryz.prog 13 #[.agg #[.int .u64 (l0 r), .int .u64 (l1 r), .int .u64 (l2 r), .int .u64 (l3 r)]] w fun e w' => e = .returned (.bool true) ∧ Below w.heap.size w w')) (C2 : Hid (∀ w, Mds w → Calls Tryz.prog 13 #[.agg #[.int .u64 (l0 s), .int .u64 (l1 s), .int .u64 (l2 s), .int .u64 (l3 s)]] w fun e w' => e = .returned (.bool false) ∧ Below w.heap.size w w')) (w : World) (hm : Mds w) :
    Calls Tryz.prog 23 #[.agg #[.int .u64 (l0 r), .int .u64 (l1 r), .int .u64 (l2 r), .int .u64 (l3 r), .int .u64 (l0 s), .int .u64 (l1 s), .int .u64 (l2 s), .int .u64 (l3 s), .bool o]] w fun e w' => e = .returned (.int .i64 62) ∧ Below w.heap.size w w' := by
  go_enter Tryz.func23, Tryz.ntmps23
  go_wp2_with fail
  refine calls_world (fun W => Below w.heap.size w W ∧ Mds W ∧ Pnt W w.heap.size r s o) ⟨by repeat (first | with_reducible exact Below.refl _ _ | with_reducible refine Below.alloc ?_ (by first | omega | (simp; done) | (simp; omega)) _), hm.alloc _, Pnt.new rfl⟩ ?_
  rintro W ⟨B, hD, hP⟩
  with_reducible refine (C1.out _ hD).mono ?_
  rintro e w1 ⟨rfl, hb⟩
  replace B := B.trans (hb.mono B.size)
  replace hD := hD.keep hb; replace hP := hP.keep hb
  clear hb W
  have ghP := hP.cells
  go_wp2_with fail
  refine calls_world (fun W => Below w.heap.size w W ∧ Mds W ∧ Pnt W w.heap.size r s o) ⟨B, hD, hP⟩ ?_
  clear B hD hP ghP
  rintro W ⟨B, hD, hP⟩
  with_reducible refine (C2.out _ hD).mono ?_
  rintro e w9 ⟨rfl, hb⟩
  replace B := B.trans (hb.mono B.size)
  clear hb hP W hD
  go_wp2
  simp [bodyPost, results, Tryz.results23, go_sem]
  exact B

set_option maxRecDepth 100000 in
set_option maxHeartbeats 4000000 in
theorem echeck_2 {r s : Int} {o : Bool} (C1 : Hid (∀ w, Mds w → Calls Tryz.prog 13 #[.agg #[.int .u64 (l0 r), .int .u64 (l1 r), .int .u64 (l2 r), .int .u64 (l3 r)]] w fun e w' => e = .returned (.bool true) ∧ Below w.heap.size w w')) (C2 : Hid (∀ w, Mds w → Calls Tryz.prog 13 #[.agg #[.int .u64 (l0 s), .int .u64 (l1 s), .int .u64 (l2 s), .int .u64 (l3 s)]] w fun e w' => e = .returned (.bool true) ∧ Below w.heap.size w w')) (C3 : Hid (∀ w, Mds w → Calls Tryz.prog 46 #[.agg #[.int .u64 (l0 s), .int .u64 (l1 s), .int .u64 (l2 s), .int .u64 (l3 s)]] w fun e w' => e = .returned (.bool false) ∧ Below w.heap.size w w')) (w : World) (hm : Mds w) :
    Calls Tryz.prog 23 #[.agg #[.int .u64 (l0 r), .int .u64 (l1 r), .int .u64 (l2 r), .int .u64 (l3 r), .int .u64 (l0 s), .int .u64 (l1 s), .int .u64 (l2 s), .int .u64 (l3 s), .bool o]] w fun e w' => e = .returned (.int .i64 63) ∧ Below w.heap.size w w' := by
  go_enter Tryz.func23, Tryz.ntmps23
  go_wp2_with fail
  refine calls_world (fun W => Below w.heap.size w W ∧ Mds W ∧ Pnt W w.heap.size r s o) ⟨by repeat (first | with_reducible exact Below.refl _ _ | with_reducible refine Below.alloc ?_ (by first | omega | (simp; done) | (simp; omega)) _), hm.alloc _, Pnt.new rfl⟩ ?_
  rintro W ⟨B, hD, hP⟩
  with_reducible refine (C1.out _ hD).mono ?_
  rintro e w1 ⟨rfl, hb⟩
  replace B := B.trans (hb.mono B.size)
  replace hD := hD.keep hb; replace hP := hP.keep hb
  clear hb W
  have ghP := hP.cells
  go_wp2_with fail
  refine calls_world (fun W => Below w.heap.size w W ∧ Mds W ∧ Pnt W w.heap.size r s o) ⟨B, hD, hP⟩ ?_
  clear B hD hP ghP
  rintro W ⟨B, hD, hP⟩
  with_reducible refine (C2.out _ hD).mono ?_
  rintro e w2 ⟨rfl, hb⟩
  replace B := B.trans (hb.mono B.size)
  replace hD := hD.keep hb; replace hP := hP.keep hb
  clear hb W
  have ghP := hP.cells
  go_wp2_with fail
  refine calls_world (fun W => Below w.heap.size w W ∧ Mds W ∧ Pnt W w.heap.size r s o) ⟨B, hD, hP⟩ ?_
  clear B hD hP ghP
  rintro W ⟨B, hD, hP⟩
  with_reducible refine (C3.out _ hD).mono ?_
  rintro e w9 ⟨rfl, hb⟩
  replace B := B.trans (hb.mono B.size)
  clear hb hP W hD
  go_wp2
  simp [bodyPost, results, Tryz.results23, go_sem]
  exact B

set_option maxRecDepth 100000 in
set_option maxHeartbeats 4000000 in
theorem echeck_3 {r s : Int} {o : Bool} (C1 : Hid (∀ w, Mds w → Calls Tryz.prog 13 #[.agg #[.int .u64 (l0 r), .int .u64 (l1 r), .int .u64 (l2 r), .int .u64 (l3 r)]] w fun e w' => e = .returned (.bool true) ∧ Below w.heap.size w w')) (C2 : Hid (∀ w, Mds w → Calls Tryz.prog 13 #[.agg #[.int .u64 (l0 s), .int .u64 (l1 s), .int .u64 (l2 s), .int .u64 (l3 s)]] w fun e w' => e = .returned (.bool true) ∧ Below w.heap.size w w')) (C3 : Hid (∀ w, Mds w → Calls Tryz.prog 46 #[.agg #[.int .u64 (l0 s), .int .u64 (l1 s), .int .u64 (l2 s), .int .u64 (l3 s)]] w fun e w' => e = .returned (.bool true) ∧ Below w.heap.size w w')) (w : World) (hm : Mds w) :
    Calls Tryz.prog 23 #[.agg #[.int .u64 (l0 r), .int .u64 (l1 r), .int .u64 (l2 r), .int .u64 (l3 r), .int .u64 (l0 s), .int .u64 (l1 s), .int .u64 (l2 s), .int .u64 (l3 s), .bool o]] w fun e w' => e = .returned (.int .i64 0) ∧ Below w.heap.size w w' := by
  go_enter Tryz.func23, Tryz.ntmps23
  go_wp2_with fail
  refine calls_world (fun W => Below w.heap.size w W ∧ Mds W ∧ Pnt W w.heap.size r s o) ⟨by repeat (first | with_reducible exact Below.refl _ _ | with_reducible refine Below.alloc ?_ (by first | omega | (simp; done) | (simp; omega)) _), hm.alloc _, Pnt.new rfl⟩ ?_
  rintro W ⟨B, hD, hP⟩
  with_reducible refine (C1.out _ hD).mono ?_
  rintro e w1 ⟨rfl, hb⟩
  replace B := B.trans (hb.mono B.size)
  replace hD := hD.keep hb; replace hP := hP.keep hb
  clear hb W
  have ghP := hP.cells
  go_wp2_with fail
  refine calls_world (fun W => Below w.heap.size w W ∧ Mds W ∧ Pnt W w.heap.size r s o) ⟨B, hD, hP⟩ ?_
  clear B hD hP ghP
  rintro W ⟨B, hD, hP⟩
  with_reducible refine (C2.out _ hD).mono ?_
  rintro e w2 ⟨rfl, hb⟩
  replace B := B.trans (hb.mono B.size)
  replace hD := hD.keep hb; replace hP := hP.keep hb
  clear hb W
  have ghP := hP.cells
  go_wp2_with fail
  refine calls_world (fun W => Below w.heap.size w W ∧ Mds W ∧ Pnt W w.heap.size r s o) ⟨B, hD, hP⟩ ?_
  clear B hD hP ghP
  rintro W ⟨B, hD, hP⟩
  with_reducible refine (C3.out _ hD).mono ?_
  rintro e w9 ⟨rfl, hb⟩
  replace B := B.trans (hb.mono B.size)
  clear hb hP W hD
  go_wp2
  simp [bodyPost, results, Tryz.results23, go_sem]
  exact B

theorem num_n : Num nN := ⟨by decide, by decide⟩
theorem eorder_any (w : World) (hm : Mds w) : Calls Tryz.prog 71 #[] w fun e w' => e = .returned (.agg #[.int .u64 (l0 nN), .int .u64 (l1 nN), .int .u64 (l2 nN), .int .u64 (l3 nN)]) ∧ Below w.heap.size w w' := eorder_walk (fun w hm => Modulus_good kind_n w hm) w hm
theorem cmp_lt (x n : Int) : decide (cmpN x n < 0) = decide (x < n) := by
  unfold cmpN
  by_cases h' : x = n
  · rw [h']; simp
  · by_cases h : x < n <;> simp [h, h']
theorem cmp_le (x n : Int) : decide (cmpN x n ≤ 0) = decide (x ≤ n) := by
  unfold cmpN
  by_cases h' : x = n
  · rw [h']; simp
  · by_cases h : x < n
    · simp [h, h', Int.le_of_lt h]
    · have : ¬ x ≤ n := by omega
      simp [h, h', this]
theorem eqz6 {n : Int} (hn : Num n) {v : Bool} (e : decide (n = 0) = v) : ∀ w, (Op.equalIn 10000 24 (.agg #[.int .u64 (l0 n), .int .u64 (l1 n), .int .u64 (l2 n), .int .u64 (l3 n)]) (.agg #[.int .u64 0, .int .u64 0, .int .u64 0, .int .u64 0])).run Tryz.prog w = .ok v w := fun w => by
  have := eq_num hn (m := 0) ⟨by decide, by decide⟩ w
  obtain ⟨z0, z1, z2, z3⟩ := zero_limbs
  rw [z0, z1, z2, z3, e] at this
  exact this
def fitN (x : Int) : Bool := !decide (x = 0) && decide (x < nN)
def lowN (x : Int) : Bool := decide (x ≤ shrN nN 1)
def chkN (r s : Int) : Int := if fitN r = false then 61 else if fitN s = false then 62 else if lowN s = false then 63 else 0
theorem einside_any {x : Int} (hx : Num x) : Hid (∀ w, Mds w → Calls Tryz.prog 13 #[.agg #[.int .u64 (l0 x), .int .u64 (l1 x), .int .u64 (l2 x), .int .u64 (l3 x)]] w fun e w' => e = .returned (.bool (fitN x)) ∧ Below w.heap.size w w') := fun w hm => by
  unfold fitN
  by_cases h : x = 0
  · rw [decide_eq_true h]
    exact einside_zero (fun w => ezero_walk (eqz6 hx (decide_eq_true h)) w) w hm
  · rw [decide_eq_false h]
    exact einside_yes (fun w => ezero_walk (eqz6 hx (decide_eq_false h)) w) (fun w hm => ebelow_walk (fun w hm => eorder_any w hm) (fun w => cmp_any hx num_n w) (cmp_lt x nN) w hm) w hm
theorem num_half : Num (shrN nN 1) := ⟨by decide +kernel, by decide +kernel⟩
theorem elow_any {x : Int} (hx : Num x) : Hid (∀ w, Mds w → Calls Tryz.prog 46 #[.agg #[.int .u64 (l0 x), .int .u64 (l1 x), .int .u64 (l2 x), .int .u64 (l3 x)]] w fun e w' => e = .returned (.bool (lowN x)) ∧ Below w.heap.size w w') := fun w hm =>
  elow_walk (fun w hm => eorder_any w hm) (fun w => shr_any num_n w) (fun w => cmp_any hx num_half w) (cmp_le x _) w hm
theorem echeck_any {r s : Int} {o : Bool} (hr : Num r) (hs : Num s) : Hid (∀ w, Mds w → Calls Tryz.prog 23 #[.agg #[.int .u64 (l0 r), .int .u64 (l1 r), .int .u64 (l2 r), .int .u64 (l3 r), .int .u64 (l0 s), .int .u64 (l1 s), .int .u64 (l2 s), .int .u64 (l3 s), .bool o]] w fun e w' => e = .returned (.int .i64 (chkN r s)) ∧ Below w.heap.size w w') := fun w hm => by
  have a := einside_any hr; have b := einside_any hs; have c := elow_any hs
  unfold chkN
  cases h1 : fitN r with
  | false => rw [h1] at a; exact echeck_0 a w hm
  | true =>
    rw [h1] at a
    cases h2 : fitN s with
    | false => rw [h2] at b; exact echeck_1 a b w hm
    | true =>
      rw [h2] at b
      cases h3 : lowN s with
      | false => rw [h3] at c; exact echeck_2 a b c w hm
      | true => rw [h3] at c; exact echeck_3 a b c w hm
end Go.Proofs.YtncpjgpioajbeaaGreatDoor

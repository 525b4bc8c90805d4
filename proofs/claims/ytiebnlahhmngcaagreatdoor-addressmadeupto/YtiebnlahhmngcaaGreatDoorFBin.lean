import Derived.Test.YtiebnlahhmngcaaGreatDoorFExp
import Derived.Test.YtiebnlahhmngcaaGreatDoorFAdd
import Derived.Test.YtiebnlahhmngcaaGreatDoorFReduce
import Derived.Test.YtiebnlahhmngcaaGreatDoorHold
import Derived.Test.YtiebnlahhmngcaaGreatDoorRefNum
import Derived.Test.YtiebnlahhmngcaaGreatDoorAdd
import Derived.Test.YtiebnlahhmngcaaGreatDoorLen
import Derived.Deep.LoopGhost
import Derived.Deep.RegionHeld3
namespace Go.Proofs.YtiebnlahhmngcaaGreatDoor
open Go.RowKit Go.Sort

/-- k is a kind; m its modulus, c what is left of 2^256. -/
structure Kind (k m c : Int) : Prop where
  em : kM k = m
  ec : kC k = c
  ee : kE k = 0
  fit : Fit m c
theorem kind_p : Kind 0 pN pC := ⟨rfl, rfl, rfl, fit_p⟩
theorem kind_n : Kind 1 nN nC := ⟨rfl, rfl, rfl, fit_n⟩
theorem of_good {k m c : Int} (h : Kind k m c) (w : World) (hm : Mds w) :
    Calls Tryz.prog 67 #[.int .i64 k] w fun e w' => e = .returned (.tuple #[.agg #[.int .u64 (l0 m), .int .u64 (l1 m), .int .u64 (l2 m), .int .u64 (l3 m), .int .u64 (l0 c), .int .u64 (l1 c), .int .u64 (l2 c), .int .u64 (l3 c)], .int .i64 0]) ∧ Below w.heap.size w w' := by
  have := of_any k w hm
  rw [h.em, h.ec, h.ee] at this
  exact this
set_option maxHeartbeats 2000000 in
theorem Add_good {k m c x y : Int} (hk : Kind k m c) (hx : Num x) (hy : Num y) (w : World) (hm : Mds w) :
    Calls Tryz.prog 77 #[.int .i64 k, .agg #[.int .u64 (l0 x), .int .u64 (l1 x), .int .u64 (l2 x), .int .u64 (l3 x)], .agg #[.int .u64 (l0 y), .int .u64 (l1 y), .int .u64 (l2 y), .int .u64 (l3 y)]] w fun e w' => e = .returned (.tuple #[.agg #[.int .u64 (l0 (modN m (x + y))), .int .u64 (l1 (modN m (x + y))), .int .u64 (l2 (modN m (x + y))), .int .u64 (l3 (modN m (x + y)))], .int .i64 0]) ∧ Below w.heap.size w w' := by
  have C : Hid (∀ w, Calls Tryz.prog 92 #[.agg #[.int .u64 (l0 m), .int .u64 (l1 m), .int .u64 (l2 m), .int .u64 (l3 m), .int .u64 (l0 c), .int .u64 (l1 c), .int .u64 (l2 c), .int .u64 (l3 c)], .agg #[.int .u64 (l0 x), .int .u64 (l1 x), .int .u64 (l2 x), .int .u64 (l3 x)], .agg #[.int .u64 (l0 y), .int .u64 (l1 y), .int .u64 (l2 y), .int .u64 (l3 y)]] w fun e w' => e = .returned (.agg #[.int .u64 (l0 (modN m (x + y))), .int .u64 (l1 (modN m (x + y))), .int .u64 (l2 (modN m (x + y))), .int .u64 (l3 (modN m (x + y)))]) ∧ Below w.heap.size w w') := fadd_any hk.fit hx hy
  generalize (modN m (x + y)) = r at *
  go_enter Tryz.func77, Tryz.ntmps77
  go_wp2_with fail
  refine calls_world (fun W => Below w.heap.size w W ∧ Mds W ∧ Hold W w.heap.size x ∧ Hold W (w.heap.size + 1) y ∧ Blank W (w.heap.size + 1 + 1)) ⟨by repeat (first | with_reducible exact Below.refl _ _ | with_reducible refine Below.alloc ?_ (by first | omega | (simp; done) | (simp; omega)) _), ((hm.alloc _).alloc _).alloc _, ((Hold.fresh (by simp)).alloc _).alloc _, (Hold.fresh (by simp)).alloc _, Blank.new (by simp)⟩ ?_
  rintro W ⟨B, hD, hX, hY, hR⟩
  have o3 : w.heap.size ≤ w.heap.size + 1 + 1 := by omega
  generalize w.heap.size + 1 + 1 = br at *
  generalize w.heap.size + 1 = bw at *
  with_reducible refine (of_good hk _ hD).mono ?_
  rintro e w1 ⟨rfl, hb⟩
  replace B := B.trans (hb.mono B.size)
  replace hX := hX.keep hb; replace hY := hY.keep hb; replace hR := hR.keep hb
  clear hb hD W
  have gX := hX.allocs; have gY := hY.allocs
  go_wp2_with fail
  refine calls_world (fun W => Below w.heap.size w W ∧ Blank W br) ⟨B.alloc B.size _, hR.alloc _⟩ ?_
  clear B hX hY hR gX gY
  rintro W ⟨B, hR⟩
  with_reducible refine (C.out _).mono ?_
  rintro e w2 ⟨rfl, hb⟩
  replace B := B.trans (hb.mono B.size)
  replace hR := hR.keep hb
  clear hb W
  have gR := hR.1.all4; have fR := hR.2.all4
  go_wp2
  simp [bodyPost, results, Tryz.results77, go_sem, gR]
  exact below_set4 B o3 _ _ _ _

set_option maxHeartbeats 2000000 in
theorem Sub_good {k m c x y : Int} (hk : Kind k m c) (hx : Num x) (hy : Num y) (w : World) (hm : Mds w) :
    Calls Tryz.prog 78 #[.int .i64 k, .agg #[.int .u64 (l0 x), .int .u64 (l1 x), .int .u64 (l2 x), .int .u64 (l3 x)], .agg #[.int .u64 (l0 y), .int .u64 (l1 y), .int .u64 (l2 y), .int .u64 (l3 y)]] w fun e w' => e = .returned (.tuple #[.agg #[.int .u64 (l0 (modN m (x - y))), .int .u64 (l1 (modN m (x - y))), .int .u64 (l2 (modN m (x - y))), .int .u64 (l3 (modN m (x - y)))], .int .i64 0]) ∧ Below w.heap.size w w' := by
  have C : Hid (∀ w, Calls Tryz.prog 93 #[.agg #[.int .u64 (l0 m), .int .u64 (l1 m), .int .u64 (l2 m), .int .u64 (l3 m), .int .u64 (l0 c), .int .u64 (l1 c), .int .u64 (l2 c), .int .u64 (l3 c)], .agg #[.int .u64 (l0 x), .int .u64 (l1 x), .int .u64 (l2 x), .int .u64 (l3 x)], .agg #[.int .u64 (l0 y), .int .u64 (l1 y), .int .u64 (l2 y), .int .u64 (l3 y)]] w fun e w' => e = .returned (.agg #[.int .u64 (l0 (modN m (x - y))), .int .u64 (l1 (modN m (x - y))), .int .u64 (l2 (modN m (x - y))), .int .u64 (l3 (modN m (x - y)))]) ∧ Below w.heap.size w w') := fsub_any hk.fit hx hy
  generalize (modN m (x - y)) = r at *
  go_enter Tryz.func78, Tryz.ntmps78
  go_wp2_with fail
  refine calls_world (fun W => Below w.heap.size w W ∧ Mds W ∧ Hold W w.heap.size x ∧ Hold W (w.heap.size + 1) y ∧ Blank W (w.heap.size + 1 + 1)) ⟨by repeat (first | with_reducible exact Below.refl _ _ | with_reducible refine Below.alloc ?_ (by first | omega | (simp; done) | (simp; omega)) _), ((hm.alloc _).alloc _).alloc _, ((Hold.fresh (by simp)).alloc _).alloc _, (Hold.fresh (by simp)).alloc _, Blank.new (by simp)⟩ ?_
  rintro W ⟨B, hD, hX, hY, hR⟩
  have o3 : w.heap.size ≤ w.heap.size + 1 + 1 := by omega
  generalize w.heap.size + 1 + 1 = br at *
  generalize w.heap.size + 1 = bw at *
  with_reducible refine (of_good hk _ hD).mono ?_
  rintro e w1 ⟨rfl, hb⟩
  replace B := B.trans (hb.mono B.size)
  replace hX := hX.keep hb; replace hY := hY.keep hb; replace hR := hR.keep hb
  clear hb hD W
  have gX := hX.allocs; have gY := hY.allocs
  go_wp2_with fail
  refine calls_world (fun W => Below w.heap.size w W ∧ Blank W br) ⟨B.alloc B.size _, hR.alloc _⟩ ?_
  clear B hX hY hR gX gY
  rintro W ⟨B, hR⟩
  with_reducible refine (C.out _).mono ?_
  rintro e w2 ⟨rfl, hb⟩
  replace B := B.trans (hb.mono B.size)
  replace hR := hR.keep hb
  clear hb W
  have gR := hR.1.all4; have fR := hR.2.all4
  go_wp2
  simp [bodyPost, results, Tryz.results78, go_sem, gR]
  exact below_set4 B o3 _ _ _ _

set_option maxHeartbeats 2000000 in
theorem Mul_good {k m c x y : Int} (hk : Kind k m c) (hx : Num x) (hy : Num y) (w : World) (hm : Mds w) :
    Calls Tryz.prog 70 #[.int .i64 k, .agg #[.int .u64 (l0 x), .int .u64 (l1 x), .int .u64 (l2 x), .int .u64 (l3 x)], .agg #[.int .u64 (l0 y), .int .u64 (l1 y), .int .u64 (l2 y), .int .u64 (l3 y)]] w fun e w' => e = .returned (.tuple #[.agg #[.int .u64 (l0 (modN m (x * y))), .int .u64 (l1 (modN m (x * y))), .int .u64 (l2 (modN m (x * y))), .int .u64 (l3 (modN m (x * y)))], .int .i64 0]) ∧ Below w.heap.size w w' := by
  have C : Hid (∀ w, Calls Tryz.prog 81 #[.agg #[.int .u64 (l0 m), .int .u64 (l1 m), .int .u64 (l2 m), .int .u64 (l3 m), .int .u64 (l0 c), .int .u64 (l1 c), .int .u64 (l2 c), .int .u64 (l3 c)], .agg #[.int .u64 (l0 x), .int .u64 (l1 x), .int .u64 (l2 x), .int .u64 (l3 x)], .agg #[.int .u64 (l0 y), .int .u64 (l1 y), .int .u64 (l2 y), .int .u64 (l3 y)]] w fun e w' => e = .returned (.agg #[.int .u64 (l0 (modN m (x * y))), .int .u64 (l1 (modN m (x * y))), .int .u64 (l2 (modN m (x * y))), .int .u64 (l3 (modN m (x * y)))]) ∧ Below w.heap.size w w') := fmul_any hk.fit hx hy
  generalize (modN m (x * y)) = r at *
  go_enter Tryz.func70, Tryz.ntmps70
  go_wp2_with fail
  refine calls_world (fun W => Below w.heap.size w W ∧ Mds W ∧ Hold W w.heap.size x ∧ Hold W (w.heap.size + 1) y ∧ Blank W (w.heap.size + 1 + 1)) ⟨by repeat (first | with_reducible exact Below.refl _ _ | with_reducible refine Below.alloc ?_ (by first | omega | (simp; done) | (simp; omega)) _), ((hm.alloc _).alloc _).alloc _, ((Hold.fresh (by simp)).alloc _).alloc _, (Hold.fresh (by simp)).alloc _, Blank.new (by simp)⟩ ?_
  rintro W ⟨B, hD, hX, hY, hR⟩
  have o3 : w.heap.size ≤ w.heap.size + 1 + 1 := by omega
  generalize w.heap.size + 1 + 1 = br at *
  generalize w.heap.size + 1 = bw at *
  with_reducible refine (of_good hk _ hD).mono ?_
  rintro e w1 ⟨rfl, hb⟩
  replace B := B.trans (hb.mono B.size)
  replace hX := hX.keep hb; replace hY := hY.keep hb; replace hR := hR.keep hb
  clear hb hD W
  have gX := hX.allocs; have gY := hY.allocs
  go_wp2_with fail
  refine calls_world (fun W => Below w.heap.size w W ∧ Blank W br) ⟨B.alloc B.size _, hR.alloc _⟩ ?_
  clear B hX hY hR gX gY
  rintro W ⟨B, hR⟩
  with_reducible refine (C.out _).mono ?_
  rintro e w2 ⟨rfl, hb⟩
  replace B := B.trans (hb.mono B.size)
  replace hR := hR.keep hb
  clear hb W
  have gR := hR.1.all4; have fR := hR.2.all4
  go_wp2
  simp [bodyPost, results, Tryz.results70, go_sem, gR]
  exact below_set4 B o3 _ _ _ _

end Go.Proofs.YtiebnlahhmngcaaGreatDoor

namespace Go.Proofs.YtiebnlahhmngcaaGreatDoor
open Go.RowKit Go.Sort

set_option maxHeartbeats 2000000 in
theorem Modulus_walk {k m c e0 : Int} (O : Hid (∀ w, Mds w → Calls Tryz.prog 67 #[.int .i64 k] w fun e w' => e = .returned (.tuple #[.agg #[.int .u64 (l0 m), .int .u64 (l1 m), .int .u64 (l2 m), .int .u64 (l3 m), .int .u64 (l0 c), .int .u64 (l1 c), .int .u64 (l2 c), .int .u64 (l3 c)], .int .i64 e0]) ∧ Below w.heap.size w w')) (w : World) (hm : Mds w) :
    Calls Tryz.prog 87 #[.int .i64 k] w fun e w' => e = .returned (.tuple #[.agg #[.int .u64 (l0 m), .int .u64 (l1 m), .int .u64 (l2 m), .int .u64 (l3 m)], .int .i64 e0]) ∧ Below w.heap.size w w' := by
  go_enter Tryz.func87, Tryz.ntmps87
  go_wp2_with fail
  refine calls_world (fun W => Below w.heap.size w W ∧ Mds W ∧ Blank W w.heap.size) ⟨by repeat (first | with_reducible exact Below.refl _ _ | with_reducible refine Below.alloc ?_ (by first | omega | (simp; done) | (simp; omega)) _), hm.alloc _, Blank.new (by simp)⟩ ?_
  rintro W ⟨B, hD, hR⟩
  have o3 : w.heap.size ≤ w.heap.size := by omega
  with_reducible refine (O.out _ hD).mono ?_
  rintro e w1 ⟨rfl, hb⟩
  replace B := B.trans (hb.mono B.size)
  replace hR := hR.keep hb
  have lr := hR.1.lt (by simp)
  have nr : w1.heap.size ≠ w.heap.size := by omega
  have nr' := nr.symm
  clear hb hD W lr
  have gR := fun o => (hR.alloc o).1.all4
  have fR := fun o => (hR.alloc o).2.all4
  have BB : Hid (∀ o, Below w.heap.size w (w1.alloc o)) := fun o => B.alloc B.size o
  clear B hR
  go_wp2
  simp [bodyPost, results, Tryz.results87, go_sem, *]
  repeat (first | with_reducible exact BB.out _ | with_reducible refine Below.drew ?_ | with_reducible refine Below.setCell ?_ (by with_reducible assumption) _)

theorem Modulus_good {k m c : Int} (hk : Kind k m c) (w : World) (hm : Mds w) :
    Calls Tryz.prog 87 #[.int .i64 k] w fun e w' => e = .returned (.tuple #[.agg #[.int .u64 (l0 m), .int .u64 (l1 m), .int .u64 (l2 m), .int .u64 (l3 m)], .int .i64 0]) ∧ Below w.heap.size w w' := Modulus_walk (fun w h => of_good hk w h) w hm
end Go.Proofs.YtiebnlahhmngcaaGreatDoor

namespace Go.Proofs.YtiebnlahhmngcaaGreatDoor
open Go.RowKit Go.Sort

def rC (k : Int) : Int := if k = 0 then pC else nC
/-- The blocks are apart. -/
structure RA (w : World) (bh bl br bz bm bc : Nat) : Prop where
  h : w.heap.size ≤ bh
  l : w.heap.size ≤ bl
  r : w.heap.size ≤ br
  hl : bh ≠ bl
  hr : bh ≠ br
  hz : bh ≠ bz
  hm : bh ≠ bm
  hc : bh ≠ bc
  lr : bl ≠ br
  lz : bl ≠ bz
  lm : bl ≠ bm
  lc : bl ≠ bc
end Go.Proofs.YtiebnlahhmngcaaGreatDoor

namespace Go.Proofs.YtiebnlahhmngcaaGreatDoor
open Go.RowKit Go.Sort

set_option maxHeartbeats 2000000 in
theorem cplus_any {x y : Int} (hx : Num x) (hy : Num y) (w : World) (hm : Mds w) :
    Calls Tryz.prog 63 #[.agg #[.int .u64 (l0 x), .int .u64 (l1 x), .int .u64 (l2 x), .int .u64 (l3 x)], .agg #[.int .u64 (l0 y), .int .u64 (l1 y), .int .u64 (l2 y), .int .u64 (l3 y)]] w fun e w' => e = .returned (.agg #[.int .u64 (l0 (modN pN (x + y))), .int .u64 (l1 (modN pN (x + y))), .int .u64 (l2 (modN pN (x + y))), .int .u64 (l3 (modN pN (x + y)))]) ∧ Below w.heap.size w w' := by
  have C : Hid (∀ w, Mds w → Calls Tryz.prog 77 #[.int .i64 0, .agg #[.int .u64 (l0 x), .int .u64 (l1 x), .int .u64 (l2 x), .int .u64 (l3 x)], .agg #[.int .u64 (l0 y), .int .u64 (l1 y), .int .u64 (l2 y), .int .u64 (l3 y)]] w fun e w' => e = .returned (.tuple #[.agg #[.int .u64 (l0 (modN pN (x + y))), .int .u64 (l1 (modN pN (x + y))), .int .u64 (l2 (modN pN (x + y))), .int .u64 (l3 (modN pN (x + y)))], .int .i64 0]) ∧ Below w.heap.size w w') := fun w hm => Add_good kind_p hx hy w hm
  generalize modN pN (x + y) = r at *
  clear hx hy
  go_enter Tryz.func63, Tryz.ntmps63
  go_wp2_with fail
  refine calls_world (fun W => Below w.heap.size w W ∧ Mds W ∧ Blank W (w.heap.size + 1 + 1)) ⟨by repeat (first | with_reducible exact Below.refl _ _ | with_reducible refine Below.alloc ?_ (by first | omega | (simp; done) | (simp; omega)) _), ((hm.alloc _).alloc _).alloc _, Blank.new (by simp)⟩ ?_
  rintro W ⟨B, hD, hR⟩
  have o3 : w.heap.size ≤ w.heap.size + 1 + 1 := by omega
  generalize w.heap.size + 1 + 1 = br at *
  with_reducible refine (C.out _ hD).mono ?_
  rintro e w1 ⟨rfl, hb⟩
  replace B := B.trans (hb.mono B.size)
  replace hR := hR.keep hb
  have lr := hR.1.lt (by simp)
  have nr : w1.heap.size ≠ br := by omega
  have nr' := nr.symm
  clear hb hD W lr
  have gR := fun o => (hR.alloc o).1.all4
  have fR := fun o => (hR.alloc o).2.all4
  have BB : Hid (∀ o, Below w.heap.size w (w1.alloc o)) := fun o => B.alloc B.size o
  clear B hR
  go_wp2
  simp [bodyPost, results, Tryz.results63, go_sem, *]
  repeat (first | with_reducible exact BB.out _ | with_reducible refine Below.drew ?_ | with_reducible refine Below.setCell ?_ (by with_reducible assumption) _)

set_option maxHeartbeats 2000000 in
theorem cminus_any {x y : Int} (hx : Num x) (hy : Num y) (w : World) (hm : Mds w) :
    Calls Tryz.prog 65 #[.agg #[.int .u64 (l0 x), .int .u64 (l1 x), .int .u64 (l2 x), .int .u64 (l3 x)], .agg #[.int .u64 (l0 y), .int .u64 (l1 y), .int .u64 (l2 y), .int .u64 (l3 y)]] w fun e w' => e = .returned (.agg #[.int .u64 (l0 (modN pN (x - y))), .int .u64 (l1 (modN pN (x - y))), .int .u64 (l2 (modN pN (x - y))), .int .u64 (l3 (modN pN (x - y)))]) ∧ Below w.heap.size w w' := by
  have C : Hid (∀ w, Mds w → Calls Tryz.prog 78 #[.int .i64 0, .agg #[.int .u64 (l0 x), .int .u64 (l1 x), .int .u64 (l2 x), .int .u64 (l3 x)], .agg #[.int .u64 (l0 y), .int .u64 (l1 y), .int .u64 (l2 y), .int .u64 (l3 y)]] w fun e w' => e = .returned (.tuple #[.agg #[.int .u64 (l0 (modN pN (x - y))), .int .u64 (l1 (modN pN (x - y))), .int .u64 (l2 (modN pN (x - y))), .int .u64 (l3 (modN pN (x - y)))], .int .i64 0]) ∧ Below w.heap.size w w') := fun w hm => Sub_good kind_p hx hy w hm
  generalize modN pN (x - y) = r at *
  clear hx hy
  go_enter Tryz.func65, Tryz.ntmps65
  go_wp2_with fail
  refine calls_world (fun W => Below w.heap.size w W ∧ Mds W ∧ Blank W (w.heap.size + 1 + 1)) ⟨by repeat (first | with_reducible exact Below.refl _ _ | with_reducible refine Below.alloc ?_ (by first | omega | (simp; done) | (simp; omega)) _), ((hm.alloc _).alloc _).alloc _, Blank.new (by simp)⟩ ?_
  rintro W ⟨B, hD, hR⟩
  have o3 : w.heap.size ≤ w.heap.size + 1 + 1 := by omega
  generalize w.heap.size + 1 + 1 = br at *
  with_reducible refine (C.out _ hD).mono ?_
  rintro e w1 ⟨rfl, hb⟩
  replace B := B.trans (hb.mono B.size)
  replace hR := hR.keep hb
  have lr := hR.1.lt (by simp)
  have nr : w1.heap.size ≠ br := by omega
  have nr' := nr.symm
  clear hb hD W lr
  have gR := fun o => (hR.alloc o).1.all4
  have fR := fun o => (hR.alloc o).2.all4
  have BB : Hid (∀ o, Below w.heap.size w (w1.alloc o)) := fun o => B.alloc B.size o
  clear B hR
  go_wp2
  simp [bodyPost, results, Tryz.results65, go_sem, *]
  repeat (first | with_reducible exact BB.out _ | with_reducible refine Below.drew ?_ | with_reducible refine Below.setCell ?_ (by with_reducible assumption) _)

set_option maxHeartbeats 2000000 in
theorem ctimes_any {x y : Int} (hx : Num x) (hy : Num y) (w : World) (hm : Mds w) :
    Calls Tryz.prog 48 #[.agg #[.int .u64 (l0 x), .int .u64 (l1 x), .int .u64 (l2 x), .int .u64 (l3 x)], .agg #[.int .u64 (l0 y), .int .u64 (l1 y), .int .u64 (l2 y), .int .u64 (l3 y)]] w fun e w' => e = .returned (.agg #[.int .u64 (l0 (modN pN (x * y))), .int .u64 (l1 (modN pN (x * y))), .int .u64 (l2 (modN pN (x * y))), .int .u64 (l3 (modN pN (x * y)))]) ∧ Below w.heap.size w w' := by
  have C : Hid (∀ w, Mds w → Calls Tryz.prog 70 #[.int .i64 0, .agg #[.int .u64 (l0 x), .int .u64 (l1 x), .int .u64 (l2 x), .int .u64 (l3 x)], .agg #[.int .u64 (l0 y), .int .u64 (l1 y), .int .u64 (l2 y), .int .u64 (l3 y)]] w fun e w' => e = .returned (.tuple #[.agg #[.int .u64 (l0 (modN pN (x * y))), .int .u64 (l1 (modN pN (x * y))), .int .u64 (l2 (modN pN (x * y))), .int .u64 (l3 (modN pN (x * y)))], .int .i64 0]) ∧ Below w.heap.size w w') := fun w hm => Mul_good kind_p hx hy w hm
  generalize modN pN (x * y) = r at *
  clear hx hy
  go_enter Tryz.func48, Tryz.ntmps48
  go_wp2_with fail
  refine calls_world (fun W => Below w.heap.size w W ∧ Mds W ∧ Blank W (w.heap.size + 1 + 1)) ⟨by repeat (first | with_reducible exact Below.refl _ _ | with_reducible refine Below.alloc ?_ (by first | omega | (simp; done) | (simp; omega)) _), ((hm.alloc _).alloc _).alloc _, Blank.new (by simp)⟩ ?_
  rintro W ⟨B, hD, hR⟩
  have o3 : w.heap.size ≤ w.heap.size + 1 + 1 := by omega
  generalize w.heap.size + 1 + 1 = br at *
  with_reducible refine (C.out _ hD).mono ?_
  rintro e w1 ⟨rfl, hb⟩
  replace B := B.trans (hb.mono B.size)
  replace hR := hR.keep hb
  have lr := hR.1.lt (by simp)
  have nr : w1.heap.size ≠ br := by omega
  have nr' := nr.symm
  clear hb hD W lr
  have gR := fun o => (hR.alloc o).1.all4
  have fR := fun o => (hR.alloc o).2.all4
  have BB : Hid (∀ o, Below w.heap.size w (w1.alloc o)) := fun o => B.alloc B.size o
  clear B hR
  go_wp2
  simp [bodyPost, results, Tryz.results48, go_sem, *]
  repeat (first | with_reducible exact BB.out _ | with_reducible refine Below.drew ?_ | with_reducible refine Below.setCell ?_ (by with_reducible assumption) _)

set_option maxHeartbeats 2000000 in
theorem csquare_any {x : Int} (hx : Num x) (w : World) (hm : Mds w) :
    Calls Tryz.prog 47 #[.agg #[.int .u64 (l0 x), .int .u64 (l1 x), .int .u64 (l2 x), .int .u64 (l3 x)]] w fun e w' => e = .returned (.agg #[.int .u64 (l0 (modN pN (x * x))), .int .u64 (l1 (modN pN (x * x))), .int .u64 (l2 (modN pN (x * x))), .int .u64 (l3 (modN pN (x * x)))]) ∧ Below w.heap.size w w' := by
  have C : Hid (∀ w, Mds w → Calls Tryz.prog 48 #[.agg #[.int .u64 (l0 x), .int .u64 (l1 x), .int .u64 (l2 x), .int .u64 (l3 x)], .agg #[.int .u64 (l0 x), .int .u64 (l1 x), .int .u64 (l2 x), .int .u64 (l3 x)]] w fun e w' => e = .returned (.agg #[.int .u64 (l0 (modN pN (x * x))), .int .u64 (l1 (modN pN (x * x))), .int .u64 (l2 (modN pN (x * x))), .int .u64 (l3 (modN pN (x * x)))]) ∧ Below w.heap.size w w') := fun w hm => ctimes_any hx hx w hm
  generalize modN pN (x * x) = r at *
  clear hx
  go_enter Tryz.func47, Tryz.ntmps47
  go_wp2_with fail
  refine calls_world (fun W => Below w.heap.size w W ∧ Mds W ∧ Blank W (w.heap.size + 1)) ⟨by repeat (first | with_reducible exact Below.refl _ _ | with_reducible refine Below.alloc ?_ (by first | omega | (simp; done) | (simp; omega)) _), (hm.alloc _).alloc _, Blank.new (by simp)⟩ ?_
  rintro W ⟨B, hD, hR⟩
  have o3 : w.heap.size ≤ w.heap.size + 1 := by omega
  generalize w.heap.size + 1 = br at *
  with_reducible refine (C.out _ hD).mono ?_
  rintro e w1 ⟨rfl, hb⟩
  replace B := B.trans (hb.mono B.size)
  replace hR := hR.keep hb
  clear hb hD W
  have gR := hR.1.all4; have fR := hR.2.all4
  go_wp2
  simp [bodyPost, results, Tryz.results47, go_sem, gR]
  exact below_set4 B o3 _ _ _ _

set_option maxHeartbeats 2000000 in
theorem ctwice_any {x : Int} (hx : Num x) (w : World) (hm : Mds w) :
    Calls Tryz.prog 64 #[.agg #[.int .u64 (l0 x), .int .u64 (l1 x), .int .u64 (l2 x), .int .u64 (l3 x)]] w fun e w' => e = .returned (.agg #[.int .u64 (l0 (modN pN (x + x))), .int .u64 (l1 (modN pN (x + x))), .int .u64 (l2 (modN pN (x + x))), .int .u64 (l3 (modN pN (x + x)))]) ∧ Below w.heap.size w w' := by
  have C : Hid (∀ w, Mds w → Calls Tryz.prog 63 #[.agg #[.int .u64 (l0 x), .int .u64 (l1 x), .int .u64 (l2 x), .int .u64 (l3 x)], .agg #[.int .u64 (l0 x), .int .u64 (l1 x), .int .u64 (l2 x), .int .u64 (l3 x)]] w fun e w' => e = .returned (.agg #[.int .u64 (l0 (modN pN (x + x))), .int .u64 (l1 (modN pN (x + x))), .int .u64 (l2 (modN pN (x + x))), .int .u64 (l3 (modN pN (x + x)))]) ∧ Below w.heap.size w w') := fun w hm => cplus_any hx hx w hm
  generalize modN pN (x + x) = r at *
  clear hx
  go_enter Tryz.func64, Tryz.ntmps64
  go_wp2_with fail
  refine calls_world (fun W => Below w.heap.size w W ∧ Mds W ∧ Blank W (w.heap.size + 1)) ⟨by repeat (first | with_reducible exact Below.refl _ _ | with_reducible refine Below.alloc ?_ (by first | omega | (simp; done) | (simp; omega)) _), (hm.alloc _).alloc _, Blank.new (by simp)⟩ ?_
  rintro W ⟨B, hD, hR⟩
  have o3 : w.heap.size ≤ w.heap.size + 1 := by omega
  generalize w.heap.size + 1 = br at *
  with_reducible refine (C.out _ hD).mono ?_
  rintro e w1 ⟨rfl, hb⟩
  replace B := B.trans (hb.mono B.size)
  replace hR := hR.keep hb
  clear hb hD W
  have gR := hR.1.all4; have fR := hR.2.all4
  go_wp2
  simp [bodyPost, results, Tryz.results64, go_sem, gR]
  exact below_set4 B o3 _ _ _ _

set_option maxHeartbeats 2000000 in
theorem cbelow_any {x : Int} (hx : Num x) (w : World) (hm : Mds w) :
    Calls Tryz.prog 73 #[.agg #[.int .u64 (l0 x), .int .u64 (l1 x), .int .u64 (l2 x), .int .u64 (l3 x)]] w fun e w' => e = .returned (.bool (decide (x < pN))) ∧ Below w.heap.size w w' := by
  have C := fun w => cmp_any hx fit_p.num w
  have hv : decide (cmpN x pN < 0) = decide (x < pN) := by
    unfold cmpN
    by_cases h' : x = pN
    · rw [h']; simp
    · by_cases h : x < pN <;> simp [h, h']
  have O : Hid (∀ w, Mds w → Calls Tryz.prog 87 #[.int .i64 0] w fun e w' => e = .returned (.tuple #[.agg #[.int .u64 (l0 pN), .int .u64 (l1 pN), .int .u64 (l2 pN), .int .u64 (l3 pN)], .int .i64 0]) ∧ Below w.heap.size w w') := fun w hm => Modulus_good kind_p w hm
  generalize decide (x < pN) = r at *
  generalize cmpN x pN = q at *
  generalize pN = p at *
  clear hx
  go_enter Tryz.func73, Tryz.ntmps73
  go_wp2_with fail
  refine calls_world (fun W => Below w.heap.size w W ∧ Mds W ∧ Hold W w.heap.size x) ⟨by repeat (first | with_reducible exact Below.refl _ _ | with_reducible refine Below.alloc ?_ (by first | omega | (simp; done) | (simp; omega)) _), hm.alloc _, Hold.fresh (by simp)⟩ ?_
  rintro W ⟨B, hD, hX⟩
  with_reducible refine (O.out _ hD).mono ?_
  rintro e w1 ⟨rfl, hb⟩
  replace B := B.trans (hb.mono B.size)
  replace hX := hX.keep hb
  clear hb hD W
  have gX := hX.allocs
  go_wp2_with fail
  refine calls_world (fun W => Below w.heap.size w W) (B.alloc B.size _) ?_
  clear B hX gX
  rintro W B
  with_reducible refine (C _).mono ?_
  rintro e w2 ⟨rfl, hb⟩
  replace B := B.trans (hb.mono B.size)
  clear hb W
  go_wp2
  simp [bodyPost, results, Tryz.results73, go_sem]
  exact B
end Go.Proofs.YtiebnlahhmngcaaGreatDoor

namespace Go.Proofs.YtiebnlahhmngcaaGreatDoor
open Go.RowKit Go.Sort

/-- The inverse by Fermat. -/
def invN (m x : Int) : Int := powN m x (m - 2)
theorem two_off {m c : Int} (hf : Fit m c) : difN m 2 = m - 2 ∧ Num (m - 2) := by
  obtain ⟨h1, h2, h3⟩ := hf
  exact ⟨by unfold difN; omega, by omega, by omega⟩

set_option maxHeartbeats 4000000 in
theorem finverse_any {m c x : Int} (hf : Fit m c) (hx : Num x) (w : World) :
    Calls Tryz.prog 69 #[.agg #[.int .u64 (l0 m), .int .u64 (l1 m), .int .u64 (l2 m), .int .u64 (l3 m), .int .u64 (l0 c), .int .u64 (l1 c), .int .u64 (l2 c), .int .u64 (l3 c)], .agg #[.int .u64 (l0 x), .int .u64 (l1 x), .int .u64 (l2 x), .int .u64 (l3 x)]] w fun e w' => e = .returned (.agg #[.int .u64 (l0 (invN m x)), .int .u64 (l1 (invN m x)), .int .u64 (l2 (invN m x)), .int .u64 (l3 (invN m x))]) ∧ Below w.heap.size w w' := by
  obtain ⟨q1, q2⟩ := two_off hf
  have F1 : Hid (∀ w, Calls Tryz.prog 8 #[.int .u64 2] w fun e w' => e = .returned (.agg #[.int .u64 (l0 2), .int .u64 (l1 2), .int .u64 (l2 2), .int .u64 (l3 2)]) ∧ Below w.heap.size w w') := from_any ⟨by decide, by decide⟩
  have S1 : Hid (∀ w, Calls Tryz.prog 79 #[.agg #[.int .u64 (l0 m), .int .u64 (l1 m), .int .u64 (l2 m), .int .u64 (l3 m)], .agg #[.int .u64 (l0 2), .int .u64 (l1 2), .int .u64 (l2 2), .int .u64 (l3 2)]] w fun e w' => e = .returned (.tuple #[.agg #[.int .u64 (l0 (m - 2)), .int .u64 (l1 (m - 2)), .int .u64 (l2 (m - 2)), .int .u64 (l3 (m - 2))], .int .u64 (borN m 2)]) ∧ Below w.heap.size w w') := fun w => by
    have := sub_any (m := 2) hf.num ⟨by decide, by decide⟩ w; rw [q1] at this; exact this
  have E1 : Hid (∀ w, Calls Tryz.prog 80 #[.agg #[.int .u64 (l0 m), .int .u64 (l1 m), .int .u64 (l2 m), .int .u64 (l3 m), .int .u64 (l0 c), .int .u64 (l1 c), .int .u64 (l2 c), .int .u64 (l3 c)], .agg #[.int .u64 (l0 x), .int .u64 (l1 x), .int .u64 (l2 x), .int .u64 (l3 x)], .agg #[.int .u64 (l0 (m - 2)), .int .u64 (l1 (m - 2)), .int .u64 (l2 (m - 2)), .int .u64 (l3 (m - 2))]] w fun e w' => e = .returned (.agg #[.int .u64 (l0 (invN m x)), .int .u64 (l1 (invN m x)), .int .u64 (l2 (invN m x)), .int .u64 (l3 (invN m x))]) ∧ Below w.heap.size w w') := fexp_any hf hx q2
  clear q1 q2 hf hx
  generalize invN m x = R at *
  generalize m - 2 = D at *
  generalize borN m 2 = z at *
  generalize ht : (2 : Int) = T at F1 S1
  go_enter Tryz.func69, Tryz.ntmps69
  go_wp2_with fail
  refine wp_world (fun W => Below w.heap.size w W ∧ HoldM W w.heap.size m c ∧ Hold W (w.heap.size + 1) x ∧ Blank W (w.heap.size + 1 + 1)) ⟨by repeat (first | with_reducible exact Below.refl _ _ | with_reducible refine Below.alloc ?_ (by first | omega | (simp; done) | (simp; omega)) _), ((HoldM.new w m c _).alloc _).alloc _, (Hold.fresh (by simp)).alloc _, Blank.new (by simp)⟩ ?_
  rintro W ⟨B, hF, hX, hR⟩
  have o3 : w.heap.size ≤ w.heap.size + 1 + 1 := by omega
  generalize w.heap.size + 1 + 1 = br at *
  generalize w.heap.size + 1 = bx at *
  generalize hbf : w.heap.size = bf at *
  subst ht
  have gF := hF.cells
  have lf : bf < W.heap.size := hF.lt
  have lx : bx < W.heap.size := World.block_lt_of_cell? W _ hX.1
  have lr : br < W.heap.size := hR.1.lt (by simp)
  have BB : Hid (Below bf w W) := B
  have HF : Hid (HoldM W bf m c) := hF
  have HX : Hid (Hold W bx x) := hX
  have HR : Hid (Blank W br) := hR
  have geB : bf ≤ W.heap.size := by omega
  clear B hF hX hR
  refine wp_out (fun a' W' => ∃ bs, Below bf w W' ∧ HoldM W' bf m c ∧ Hold W' bx x ∧ Blank W' br ∧ Hold W' bs D ∧ a' = { tmps := #[.agg #[.int .u64 (l0 m), .int .u64 (l1 m), .int .u64 (l2 m), .int .u64 (l3 m), .int .u64 (l0 c), .int .u64 (l1 c), .int .u64 (l2 c), .int .u64 (l3 c)], .agg #[.int .u64 (l0 x), .int .u64 (l1 x), .int .u64 (l2 x), .int .u64 (l3 x)], .pointer (some { block := bf, off := 0 }), .pointer (some { block := bx, off := 0 }), .pointer (some { block := br, off := 0 }), .pointer (some { block := bs, off := 0 }), .int .u64 z, .tuple #[.agg #[.int .u64 (l0 D), .int .u64 (l1 D), .int .u64 (l2 D), .int .u64 (l3 D)], .int .u64 z], .pointer (some { block := bf, off := 0 }), .agg #[.int .u64 (l0 m), .int .u64 (l1 m), .int .u64 (l2 m), .int .u64 (l3 m)], .agg #[.int .u64 (l0 2), .int .u64 (l1 2), .int .u64 (l2 2), .int .u64 (l3 2)], .tuple #[.agg #[.int .u64 (l0 D), .int .u64 (l1 D), .int .u64 (l2 D), .int .u64 (l3 D)], .int .u64 z], .agg #[.int .u64 (l0 D), .int .u64 (l1 D), .int .u64 (l2 D), .int .u64 (l3 D)], .int .u64 z, Go.undef, Go.undef, Go.undef, Go.undef], defers := [] }) ?_ ?_
  · have dz : W.drew.heap.size = W.heap.size := rfl
    clear E1
    have _ : bf < W.heap.size := by omega
    have _ : bf ≤ W.heap.size := by omega
    have _ : bf < W.heap.size + 1 := by omega
    have _ : bf < W.heap.size + 1 + 1 := by omega
    have _ : bf ≠ W.heap.size := by omega
    have _ : W.heap.size ≠ bf := by omega
    have _ : bf ≠ W.heap.size + 1 := by omega
    have _ : W.heap.size + 1 ≠ bf := by omega
    have _ : bx < W.heap.size := by omega
    have _ : bx ≤ W.heap.size := by omega
    have _ : bx < W.heap.size + 1 := by omega
    have _ : bx < W.heap.size + 1 + 1 := by omega
    have _ : bx ≠ W.heap.size := by omega
    have _ : W.heap.size ≠ bx := by omega
    have _ : bx ≠ W.heap.size + 1 := by omega
    have _ : W.heap.size + 1 ≠ bx := by omega
    have _ : br < W.heap.size := by omega
    have _ : br ≤ W.heap.size := by omega
    have _ : br < W.heap.size + 1 := by omega
    have _ : br < W.heap.size + 1 + 1 := by omega
    have _ : br ≠ W.heap.size := by omega
    have _ : W.heap.size ≠ br := by omega
    have _ : br ≠ W.heap.size + 1 := by omega
    have _ : W.heap.size + 1 ≠ br := by omega
    go_region_held3 (fun w' => w'.cell? ⟨bf, 0, none⟩ = some (.int .u64 (l0 m)) ∧ w'.cell? ⟨bf, 1, none⟩ = some (.int .u64 (l1 m)) ∧ w'.cell? ⟨bf, 2, none⟩ = some (.int .u64 (l2 m)) ∧ w'.cell? ⟨bf, 3, none⟩ = some (.int .u64 (l3 m))) (((try dsimp only); (repeat' (apply And.intro)); (all_goals repeat (first | with_reducible assumption | with_reducible apply cell_keep hb2 | with_reducible apply cell_keep hb1 | with_reducible apply cell_alloc | (with_reducible refine cell_set ?_ (by with_reducible assumption)) | (simp [go_sem, *]; done)))))
      (first
        | (go_at_call 8; with_reducible refine (F1.out _).mono ?_; rintro e w1 ⟨rfl, hb1⟩; have hc1 := oldCells hb1; have hz1 := hb1.size; (try simp at hz1); (try (have := fun j => oldCells hb1 (W.heap.size) j (by first | omega | (simp; done) | (simp; omega)))); (try (have := fun j => oldCells hb1 (W.heap.size + 1) j (by first | omega | (simp; done) | (simp; omega)))); have _ : bf < w1.heap.size := (by omega); have _ : bf ≤ w1.heap.size := (by omega); have _ : bf < w1.heap.size + 1 := (by omega); have _ : bf < w1.heap.size + 1 + 1 := (by omega); have _ : bf ≠ w1.heap.size := (by omega); have _ : w1.heap.size ≠ bf := (by omega); have _ : bf ≠ w1.heap.size + 1 := (by omega); have _ : w1.heap.size + 1 ≠ bf := (by omega); have _ : bx < w1.heap.size := (by omega); have _ : bx ≤ w1.heap.size := (by omega); have _ : bx < w1.heap.size + 1 := (by omega); have _ : bx < w1.heap.size + 1 + 1 := (by omega); have _ : bx ≠ w1.heap.size := (by omega); have _ : w1.heap.size ≠ bx := (by omega); have _ : bx ≠ w1.heap.size + 1 := (by omega); have _ : w1.heap.size + 1 ≠ bx := (by omega); have _ : br < w1.heap.size := (by omega); have _ : br ≤ w1.heap.size := (by omega); have _ : br < w1.heap.size + 1 := (by omega); have _ : br < w1.heap.size + 1 + 1 := (by omega); have _ : br ≠ w1.heap.size := (by omega); have _ : w1.heap.size ≠ br := (by omega); have _ : br ≠ w1.heap.size + 1 := (by omega); have _ : w1.heap.size + 1 ≠ br := (by omega); (try (have _ : W.heap.size < w1.heap.size := (by omega))); (try (have _ : W.heap.size ≤ w1.heap.size := (by omega))); (try (have _ : W.heap.size ≠ w1.heap.size := (by omega))); (try (have _ : w1.heap.size ≠ W.heap.size := (by omega))); (try (have _ : W.heap.size < w1.heap.size + 1 := (by omega))); (try (have _ : W.heap.size + 1 < w1.heap.size := (by omega))); (try (have _ : W.heap.size + 1 ≤ w1.heap.size := (by omega))); (try (have _ : W.heap.size + 1 ≠ w1.heap.size := (by omega))); (try (have _ : w1.heap.size ≠ W.heap.size + 1 := (by omega))); (try (have _ : W.heap.size + 1 < w1.heap.size + 1 := (by omega))))
        | (go_at_call 79; with_reducible refine (S1.out _).mono ?_; rintro e w2 ⟨rfl, hb2⟩; have hc2 := oldCells hb2; have hz2 := hb2.size; (try simp at hz2); (try (have := fun j => oldCells hb2 (W.heap.size) j (by first | omega | (simp; done) | (simp; omega)))); (try (have := fun j => oldCells hb2 (W.heap.size + 1) j (by first | omega | (simp; done) | (simp; omega)))); (try (have := fun j => oldCells hb2 (w1.heap.size) j (by first | omega | (simp; done) | (simp; omega)))); (try (have := fun j => oldCells hb2 (w1.heap.size + 1) j (by first | omega | (simp; done) | (simp; omega)))); have _ : bf < w2.heap.size := (by omega); have _ : bf ≤ w2.heap.size := (by omega); have _ : bf < w2.heap.size + 1 := (by omega); have _ : bf < w2.heap.size + 1 + 1 := (by omega); have _ : bf ≠ w2.heap.size := (by omega); have _ : w2.heap.size ≠ bf := (by omega); have _ : bf ≠ w2.heap.size + 1 := (by omega); have _ : w2.heap.size + 1 ≠ bf := (by omega); have _ : bx < w2.heap.size := (by omega); have _ : bx ≤ w2.heap.size := (by omega); have _ : bx < w2.heap.size + 1 := (by omega); have _ : bx < w2.heap.size + 1 + 1 := (by omega); have _ : bx ≠ w2.heap.size := (by omega); have _ : w2.heap.size ≠ bx := (by omega); have _ : bx ≠ w2.heap.size + 1 := (by omega); have _ : w2.heap.size + 1 ≠ bx := (by omega); have _ : br < w2.heap.size := (by omega); have _ : br ≤ w2.heap.size := (by omega); have _ : br < w2.heap.size + 1 := (by omega); have _ : br < w2.heap.size + 1 + 1 := (by omega); have _ : br ≠ w2.heap.size := (by omega); have _ : w2.heap.size ≠ br := (by omega); have _ : br ≠ w2.heap.size + 1 := (by omega); have _ : w2.heap.size + 1 ≠ br := (by omega); (try (have _ : W.heap.size < w2.heap.size := (by omega))); (try (have _ : W.heap.size ≤ w2.heap.size := (by omega))); (try (have _ : W.heap.size ≠ w2.heap.size := (by omega))); (try (have _ : w2.heap.size ≠ W.heap.size := (by omega))); (try (have _ : W.heap.size < w2.heap.size + 1 := (by omega))); (try (have _ : W.heap.size + 1 < w2.heap.size := (by omega))); (try (have _ : W.heap.size + 1 ≤ w2.heap.size := (by omega))); (try (have _ : W.heap.size + 1 ≠ w2.heap.size := (by omega))); (try (have _ : w2.heap.size ≠ W.heap.size + 1 := (by omega))); (try (have _ : W.heap.size + 1 < w2.heap.size + 1 := (by omega))); (try (have _ : w1.heap.size < w2.heap.size := (by omega))); (try (have _ : w1.heap.size ≤ w2.heap.size := (by omega))); (try (have _ : w1.heap.size ≠ w2.heap.size := (by omega))); (try (have _ : w2.heap.size ≠ w1.heap.size := (by omega))); (try (have _ : w1.heap.size < w2.heap.size + 1 := (by omega))); (try (have _ : w1.heap.size + 1 < w2.heap.size := (by omega))); (try (have _ : w1.heap.size + 1 ≤ w2.heap.size := (by omega))); (try (have _ : w1.heap.size + 1 ≠ w2.heap.size := (by omega))); (try (have _ : w2.heap.size ≠ w1.heap.size + 1 := (by omega))); (try (have _ : w1.heap.size + 1 < w2.heap.size + 1 := (by omega)))))
    all_goals (refine OutQ.intro ⟨_, ?_, ?_, ?_, ?_, ?_, rfl⟩)
    all_goals repeat (first | with_reducible exact BB.out | with_reducible exact HF.out | with_reducible exact HX.out | with_reducible exact HR.out | with_reducible refine Hold.fresh (by first | rfl | (simp; done) | fail) | with_reducible refine Hold.sets4 ?_ | with_reducible refine Hold.alloc ?_ _ | with_reducible refine Hold.drew ?_ | with_reducible refine Hold.set4 ?_ (by with_reducible assumption) _ _ _ _ | with_reducible refine HoldM.alloc ?_ _ | with_reducible refine HoldM.drew ?_ | with_reducible refine HoldM.set4 ?_ (by with_reducible assumption) _ _ _ _ | with_reducible refine Blank.alloc ?_ _ | with_reducible refine Blank.drew ?_ | with_reducible refine Blank.set4 ?_ (by with_reducible assumption) _ _ _ _ | with_reducible refine below_alloc hbf ?_ _ | with_reducible refine Below.drew ?_ | with_reducible refine Below.setCell ?_ (by with_reducible assumption) _ | with_reducible refine Has.fresh (by first | rfl | (simp; done) | fail) (by first | (simp; done) | fail) | with_reducible refine Has.alloc ?_ _ | with_reducible refine Has.drew ?_ | with_reducible refine Has.keep ?_ hb2 | with_reducible refine Hold.keep ?_ hb2 | with_reducible refine HoldM.keep ?_ hb2 | with_reducible refine Blank.keep ?_ hb2 | with_reducible refine below_then hbf ?_ hb2 | with_reducible refine Has.keep ?_ hb1 | with_reducible refine Hold.keep ?_ hb1 | with_reducible refine HoldM.keep ?_ hb1 | with_reducible refine Blank.keep ?_ hb1 | with_reducible refine below_then hbf ?_ hb1)
  rintro _ W1 ⟨bs, B, hF, hX, hR, hS, rfl⟩
  subst hbf
  clear BB HF HR HX gF lf lx lr geB F1 S1 W
  have gF := hF.cells; have gX := hX.cells; have gS := hS.cells
  go_wp2_with fail
  with_reducible refine (E1.out _).mono ?_
  rintro e w1 ⟨rfl, hb⟩
  replace B := B.trans (hb.mono B.size)
  replace hR := hR.keep hb
  clear hb gF gX gS hF hX hS
  have gR := hR.1.all4; have fR := hR.2.all4
  go_wp2
  simp [bodyPost, results, Tryz.results69, go_sem, gR]
  exact below_set4 B o3 _ _ _ _

set_option maxHeartbeats 2000000 in
theorem Inverse_good {k m c x : Int} (hk : Kind k m c) (hx : Num x) (hz : modN m x ≠ 0) (w : World) (hm : Mds w) :
    Calls Tryz.prog 46 #[.int .i64 k, .agg #[.int .u64 (l0 x), .int .u64 (l1 x), .int .u64 (l2 x), .int .u64 (l3 x)]] w fun e w' => e = .returned (.tuple #[.agg #[.int .u64 (l0 (invN m x)), .int .u64 (l1 (invN m x)), .int .u64 (l2 (invN m x)), .int .u64 (l3 (invN m x))], .int .i64 0]) ∧ Below w.heap.size w w' := by
  have O1 : Hid (∀ w, Calls Tryz.prog 68 #[.agg #[.int .u64 (l0 m), .int .u64 (l1 m), .int .u64 (l2 m), .int .u64 (l3 m), .int .u64 (l0 c), .int .u64 (l1 c), .int .u64 (l2 c), .int .u64 (l3 c)], .agg #[.int .u64 (l0 x), .int .u64 (l1 x), .int .u64 (l2 x), .int .u64 (l3 x)]] w fun e w' => e = .returned (.agg #[.int .u64 (l0 (modN m x)), .int .u64 (l1 (modN m x)), .int .u64 (l2 (modN m x)), .int .u64 (l3 (modN m x))]) ∧ Below w.heap.size w w') := once_any hk.fit hx
  have I1 : Hid (∀ w, Calls Tryz.prog 69 #[.agg #[.int .u64 (l0 m), .int .u64 (l1 m), .int .u64 (l2 m), .int .u64 (l3 m), .int .u64 (l0 c), .int .u64 (l1 c), .int .u64 (l2 c), .int .u64 (l3 c)], .agg #[.int .u64 (l0 x), .int .u64 (l1 x), .int .u64 (l2 x), .int .u64 (l3 x)]] w fun e w' => e = .returned (.agg #[.int .u64 (l0 (invN m x)), .int .u64 (l1 (invN m x)), .int .u64 (l2 (invN m x)), .int .u64 (l3 (invN m x))]) ∧ Below w.heap.size w w') := finverse_any hk.fit hx
  have hq := feq_zero (modN_Num hk.fit x)
  rw [show decide (modN m x = 0) = false by simp [hz]] at hq
  clear hz hx
  generalize modN m x = r at *
  generalize invN m x = R at *
  have bz := build_zero
  go_enter Tryz.func46, Tryz.ntmps46
  go_wp2_with fail
  refine calls_world (fun W => Below w.heap.size w W ∧ Mds W ∧ Hold W w.heap.size x ∧ Blank W (w.heap.size + 1)) ⟨by repeat (first | with_reducible exact Below.refl _ _ | with_reducible refine Below.alloc ?_ (by first | omega | (simp; done) | (simp; omega)) _), (hm.alloc _).alloc _, (Hold.fresh (by simp)).alloc _, Blank.new (by simp)⟩ ?_
  rintro W ⟨B, hD, hX, hR⟩
  have o3 : w.heap.size ≤ w.heap.size + 1 := by omega
  generalize w.heap.size + 1 = br at *
  with_reducible refine (of_good hk _ hD).mono ?_
  rintro e w1 ⟨rfl, hb⟩
  replace B := B.trans (hb.mono B.size)
  replace hX := hX.keep hb; replace hR := hR.keep hb
  clear hb hD W
  have gX := hX.allocs
  go_wp2_with fail
  refine calls_world (fun W => Below w.heap.size w W ∧ HoldM W w1.heap.size m c ∧ Hold W w.heap.size x ∧ Blank W br) ⟨B.alloc B.size _, HoldM.new _ _ _ _, hX.alloc _, hR.alloc _⟩ ?_
  clear B hX hR gX
  rintro W ⟨B, hF, hX, hR⟩
  generalize w1.heap.size = bf at *
  with_reducible refine (O1.out _).mono ?_
  rintro e w2 ⟨rfl, hb⟩
  replace B := B.trans (hb.mono B.size)
  replace hF := hF.keep hb; replace hX := hX.keep hb; replace hR := hR.keep hb
  clear hb W
  have gF := hF.cells; have gX := hX.cells
  go_wp2_with fail
  with_reducible refine (I1.out _).mono ?_
  rintro e w3 ⟨rfl, hb⟩
  replace B := B.trans (hb.mono B.size)
  replace hR := hR.keep hb
  clear hb gF gX hF hX hq bz
  have gR := hR.1.all4; have fR := hR.2.all4
  go_wp2
  simp [bodyPost, results, Tryz.results46, go_sem, gR]
  exact below_set4 B o3 _ _ _ _

end Go.Proofs.YtiebnlahhmngcaaGreatDoor

namespace Go.Proofs.YtiebnlahhmngcaaGreatDoor
open Go.RowKit Go.Sort

/-- Block b holds these values, from its first cell on. -/
def Cl (W : World) (b : Nat) (vs : List Value) : Prop := ∀ i, i < vs.length → W.cell? ⟨b, i, none⟩ = some (vs.getD i (.bool false))
theorem Cl.lt {W : World} {b : Nat} {l : List Value} (h : Cl W b l) (hl : 0 < l.length) : b < W.heap.size := World.block_lt_of_cell? W ⟨b, 0, none⟩ (h 0 hl)
theorem Cl.keep {W w1 : World} {b : Nat} {l : List Value} (h : Cl W b l) (hb : Below W.heap.size W w1) : Cl w1 b l := fun i hi => cell_keep hb (h i hi)
theorem Cl.alloc {W : World} {b : Nat} {l : List Value} (h : Cl W b l) (o : Obj) : Cl (W.alloc o) b l := h.keep ((Below.refl _ _).alloc (Nat.le_refl _) o)
theorem Cl.set {W : World} {b b' i : Nat} {l : List Value} (h : Cl W b l) (ne : b' ≠ b) (v : Value) : Cl (W.setCell ⟨b', i, none⟩ v) b l := fun j hj => by
  rw [World.cell?_setCell_far _ _ _ _ (by exact ne)]; exact h j hj
theorem Cl.new {W : World} {b : Nat} {a : Array Value} {t : TypeId} (l : List Value) (e : b = W.heap.size) (ha : a = l.toArray) : Cl (W.alloc (.cells a t)) b l := by
  subst e; subst ha
  intro i hi
  rw [World.cell?_alloc_mark]
  simp [List.getD, List.getElem?_eq_getElem hi]

theorem cell_far {w : World} {b i b' i' : Nat} {u v : Value} (h : w.cell? ⟨b, i, none⟩ = some v) (ne : b' ≠ b) : (w.setCell ⟨b', i', none⟩ u).cell? ⟨b, i, none⟩ = some v := by
  rw [World.cell?_setCell_far _ _ _ _ ne]; exact h

/-- A point in a block. -/
def Pnt (W : World) (b : Nat) (x y : Int) (i : Bool) : Prop := Cl W b [.int .u64 (l0 x), .int .u64 (l1 x), .int .u64 (l2 x), .int .u64 (l3 x), .int .u64 (l0 y), .int .u64 (l1 y), .int .u64 (l2 y), .int .u64 (l3 y), .bool i]
theorem Pnt.keep {W w1 : World} {b : Nat} {x y : Int} {i : Bool} (h : Pnt W b x y i) (hb : Below W.heap.size W w1) : Pnt w1 b x y i := Cl.keep h hb
theorem Pnt.alloc {W : World} {b : Nat} {x y : Int} {i : Bool} (h : Pnt W b x y i) (o : Obj) : Pnt (W.alloc o) b x y i := Cl.alloc h o
theorem Pnt.cells {W : World} {b : Nat} {x y : Int} {i : Bool} (h : Pnt W b x y i) :
    W.cell? ⟨b, 0, none⟩ = some (.int .u64 (l0 x)) ∧ W.cell? ⟨b, 1, none⟩ = some (.int .u64 (l1 x)) ∧ W.cell? ⟨b, 2, none⟩ = some (.int .u64 (l2 x)) ∧ W.cell? ⟨b, 3, none⟩ = some (.int .u64 (l3 x)) ∧ W.cell? ⟨b, 4, none⟩ = some (.int .u64 (l0 y)) ∧ W.cell? ⟨b, 5, none⟩ = some (.int .u64 (l1 y)) ∧ W.cell? ⟨b, 6, none⟩ = some (.int .u64 (l2 y)) ∧ W.cell? ⟨b, 7, none⟩ = some (.int .u64 (l3 y)) ∧ W.cell? ⟨b, 8, none⟩ = some (.bool i) := ⟨h 0 (by simp), h 1 (by simp), h 2 (by simp), h 3 (by simp), h 4 (by simp), h 5 (by simp), h 6 (by simp), h 7 (by simp), h 8 (by simp)⟩
theorem Pnt.new {W : World} {b : Nat} {t : TypeId} {x y : Int} {i : Bool} (e : b = W.heap.size) : Pnt (W.alloc (.cells #[.int .u64 (l0 x), .int .u64 (l1 x), .int .u64 (l2 x), .int .u64 (l3 x), .int .u64 (l0 y), .int .u64 (l1 y), .int .u64 (l2 y), .int .u64 (l3 y), .bool i] t)) b x y i := Cl.new _ e rfl
theorem Pnt.grown {W : World} {b : Nat} {x y : Int} {i : Bool} (h : Pnt W b x y i) : ∀ d os,
    (grow (redrawn W d) os).cell? ⟨b, 0, none⟩ = some (.int .u64 (l0 x)) ∧ (grow (redrawn W d) os).cell? ⟨b, 1, none⟩ = some (.int .u64 (l1 x)) ∧ (grow (redrawn W d) os).cell? ⟨b, 2, none⟩ = some (.int .u64 (l2 x)) ∧ (grow (redrawn W d) os).cell? ⟨b, 3, none⟩ = some (.int .u64 (l3 x)) ∧ (grow (redrawn W d) os).cell? ⟨b, 4, none⟩ = some (.int .u64 (l0 y)) ∧ (grow (redrawn W d) os).cell? ⟨b, 5, none⟩ = some (.int .u64 (l1 y)) ∧ (grow (redrawn W d) os).cell? ⟨b, 6, none⟩ = some (.int .u64 (l2 y)) ∧ (grow (redrawn W d) os).cell? ⟨b, 7, none⟩ = some (.int .u64 (l3 y)) ∧ (grow (redrawn W d) os).cell? ⟨b, 8, none⟩ = some (.bool i) := fun d os => (h.keep (below_regrown W d os)).cells

/-- Three numbers in a block. -/
def Thr (W : World) (b : Nat) (x y z : Int) : Prop := Cl W b [.int .u64 (l0 x), .int .u64 (l1 x), .int .u64 (l2 x), .int .u64 (l3 x), .int .u64 (l0 y), .int .u64 (l1 y), .int .u64 (l2 y), .int .u64 (l3 y), .int .u64 (l0 z), .int .u64 (l1 z), .int .u64 (l2 z), .int .u64 (l3 z)]
theorem Thr.lt {W : World} {b : Nat} {x y z : Int} (h : Thr W b x y z) : b < W.heap.size := Cl.lt h (by simp)
theorem Thr.keep {W w1 : World} {b : Nat} {x y z : Int} (h : Thr W b x y z) (hb : Below W.heap.size W w1) : Thr w1 b x y z := Cl.keep h hb
theorem Thr.alloc {W : World} {b : Nat} {x y z : Int} (h : Thr W b x y z) (o : Obj) : Thr (W.alloc o) b x y z := Cl.alloc h o
theorem Thr.cells {W : World} {b : Nat} {x y z : Int} (h : Thr W b x y z) :
    W.cell? ⟨b, 0, none⟩ = some (.int .u64 (l0 x)) ∧ W.cell? ⟨b, 1, none⟩ = some (.int .u64 (l1 x)) ∧ W.cell? ⟨b, 2, none⟩ = some (.int .u64 (l2 x)) ∧ W.cell? ⟨b, 3, none⟩ = some (.int .u64 (l3 x)) ∧ W.cell? ⟨b, 4, none⟩ = some (.int .u64 (l0 y)) ∧ W.cell? ⟨b, 5, none⟩ = some (.int .u64 (l1 y)) ∧ W.cell? ⟨b, 6, none⟩ = some (.int .u64 (l2 y)) ∧ W.cell? ⟨b, 7, none⟩ = some (.int .u64 (l3 y)) ∧ W.cell? ⟨b, 8, none⟩ = some (.int .u64 (l0 z)) ∧ W.cell? ⟨b, 9, none⟩ = some (.int .u64 (l1 z)) ∧ W.cell? ⟨b, 10, none⟩ = some (.int .u64 (l2 z)) ∧ W.cell? ⟨b, 11, none⟩ = some (.int .u64 (l3 z)) := ⟨h 0 (by simp), h 1 (by simp), h 2 (by simp), h 3 (by simp), h 4 (by simp), h 5 (by simp), h 6 (by simp), h 7 (by simp), h 8 (by simp), h 9 (by simp), h 10 (by simp), h 11 (by simp)⟩
theorem Thr.new {W : World} {b : Nat} {t : TypeId} {x y z : Int} (e : b = W.heap.size) : Thr (W.alloc (.cells #[.int .u64 (l0 x), .int .u64 (l1 x), .int .u64 (l2 x), .int .u64 (l3 x), .int .u64 (l0 y), .int .u64 (l1 y), .int .u64 (l2 y), .int .u64 (l3 y), .int .u64 (l0 z), .int .u64 (l1 z), .int .u64 (l2 z), .int .u64 (l3 z)] t)) b x y z := Cl.new _ e rfl
theorem Thr.grown {W : World} {b : Nat} {x y z : Int} (h : Thr W b x y z) : ∀ d os,
    (grow (redrawn W d) os).cell? ⟨b, 0, none⟩ = some (.int .u64 (l0 x)) ∧ (grow (redrawn W d) os).cell? ⟨b, 1, none⟩ = some (.int .u64 (l1 x)) ∧ (grow (redrawn W d) os).cell? ⟨b, 2, none⟩ = some (.int .u64 (l2 x)) ∧ (grow (redrawn W d) os).cell? ⟨b, 3, none⟩ = some (.int .u64 (l3 x)) ∧ (grow (redrawn W d) os).cell? ⟨b, 4, none⟩ = some (.int .u64 (l0 y)) ∧ (grow (redrawn W d) os).cell? ⟨b, 5, none⟩ = some (.int .u64 (l1 y)) ∧ (grow (redrawn W d) os).cell? ⟨b, 6, none⟩ = some (.int .u64 (l2 y)) ∧ (grow (redrawn W d) os).cell? ⟨b, 7, none⟩ = some (.int .u64 (l3 y)) ∧ (grow (redrawn W d) os).cell? ⟨b, 8, none⟩ = some (.int .u64 (l0 z)) ∧ (grow (redrawn W d) os).cell? ⟨b, 9, none⟩ = some (.int .u64 (l1 z)) ∧ (grow (redrawn W d) os).cell? ⟨b, 10, none⟩ = some (.int .u64 (l2 z)) ∧ (grow (redrawn W d) os).cell? ⟨b, 11, none⟩ = some (.int .u64 (l3 z)) := fun d os => (h.keep (below_regrown W d os)).cells
theorem Thr.set4 {W : World} {b b' : Nat} {x y z : Int} (h : Thr W b x y z) (ne : b' ≠ b) (v0 v1 v2 v3 : Value) : Thr ((((W.setCell ⟨b', 0, none⟩ v0).setCell ⟨b', 1, none⟩ v1).setCell ⟨b', 2, none⟩ v2).setCell ⟨b', 3, none⟩ v3) b x y z :=
  Cl.set (Cl.set (Cl.set (Cl.set h ne v0) ne v1) ne v2) ne v3

/-- A block of 9 cells as it is laid, that may be written. -/
def Bk9 (W : World) (b : Nat) : Prop := Cl W b [.int .u64 0, .int .u64 0, .int .u64 0, .int .u64 0, .int .u64 0, .int .u64 0, .int .u64 0, .int .u64 0, .bool false] ∧ Loose W b 9
theorem Bk9.lt {W : World} {b : Nat} (h : Bk9 W b) : b < W.heap.size := Cl.lt h.1 (by simp)
theorem Bk9.keep {W w1 : World} {b : Nat} (h : Bk9 W b) (hb : Below W.heap.size W w1) : Bk9 w1 b := ⟨h.1.keep hb, h.2.keep hb h.lt⟩
theorem Bk9.alloc {W : World} {b : Nat} (h : Bk9 W b) (o : Obj) : Bk9 (W.alloc o) b := h.keep ((Below.refl _ _).alloc (Nat.le_refl _) o)
theorem Bk9.cells {W : World} {b : Nat} (h : Bk9 W b) : W.cell? ⟨b, 0, none⟩ = some (.int .u64 0) ∧ W.cell? ⟨b, 1, none⟩ = some (.int .u64 0) ∧ W.cell? ⟨b, 2, none⟩ = some (.int .u64 0) ∧ W.cell? ⟨b, 3, none⟩ = some (.int .u64 0) ∧ W.cell? ⟨b, 4, none⟩ = some (.int .u64 0) ∧ W.cell? ⟨b, 5, none⟩ = some (.int .u64 0) ∧ W.cell? ⟨b, 6, none⟩ = some (.int .u64 0) ∧ W.cell? ⟨b, 7, none⟩ = some (.int .u64 0) ∧ W.cell? ⟨b, 8, none⟩ = some (.bool false) := ⟨h.1 0 (by simp), h.1 1 (by simp), h.1 2 (by simp), h.1 3 (by simp), h.1 4 (by simp), h.1 5 (by simp), h.1 6 (by simp), h.1 7 (by simp), h.1 8 (by simp)⟩
theorem Bk9.free {W : World} {b : Nat} (h : Bk9 W b) : W.frozen? ⟨b, 0, none⟩ = false ∧ W.frozen? ⟨b, 1, none⟩ = false ∧ W.frozen? ⟨b, 2, none⟩ = false ∧ W.frozen? ⟨b, 3, none⟩ = false ∧ W.frozen? ⟨b, 4, none⟩ = false ∧ W.frozen? ⟨b, 5, none⟩ = false ∧ W.frozen? ⟨b, 6, none⟩ = false ∧ W.frozen? ⟨b, 7, none⟩ = false ∧ W.frozen? ⟨b, 8, none⟩ = false := ⟨h.2 0 (by decide), h.2 1 (by decide), h.2 2 (by decide), h.2 3 (by decide), h.2 4 (by decide), h.2 5 (by decide), h.2 6 (by decide), h.2 7 (by decide), h.2 8 (by decide)⟩
theorem Bk9.new {W : World} {b : Nat} {t : TypeId} (e : b = W.heap.size) : Bk9 (W.alloc (.cells #[.int .u64 0, .int .u64 0, .int .u64 0, .int .u64 0, .int .u64 0, .int .u64 0, .int .u64 0, .int .u64 0, .bool false] t)) b := ⟨Cl.new _ e rfl, by subst e; exact Loose.new _ _ _ _⟩

/-- A block of 12 cells as it is laid, that may be written. -/
def Bk12 (W : World) (b : Nat) : Prop := Cl W b [.int .u64 0, .int .u64 0, .int .u64 0, .int .u64 0, .int .u64 0, .int .u64 0, .int .u64 0, .int .u64 0, .int .u64 0, .int .u64 0, .int .u64 0, .int .u64 0] ∧ Loose W b 12
theorem Bk12.lt {W : World} {b : Nat} (h : Bk12 W b) : b < W.heap.size := Cl.lt h.1 (by simp)
theorem Bk12.keep {W w1 : World} {b : Nat} (h : Bk12 W b) (hb : Below W.heap.size W w1) : Bk12 w1 b := ⟨h.1.keep hb, h.2.keep hb h.lt⟩
theorem Bk12.alloc {W : World} {b : Nat} (h : Bk12 W b) (o : Obj) : Bk12 (W.alloc o) b := h.keep ((Below.refl _ _).alloc (Nat.le_refl _) o)
theorem Bk12.set4 {W : World} {b b' : Nat} (h : Bk12 W b) (ne : b' ≠ b) (v0 v1 v2 v3 : Value) : Bk12 ((((W.setCell ⟨b', 0, none⟩ v0).setCell ⟨b', 1, none⟩ v1).setCell ⟨b', 2, none⟩ v2).setCell ⟨b', 3, none⟩ v3) b :=
  ⟨Cl.set (Cl.set (Cl.set (Cl.set h.1 ne v0) ne v1) ne v2) ne v3, (((h.2.set _ _).set _ _).set _ _).set _ _⟩
theorem Bk12.cells {W : World} {b : Nat} (h : Bk12 W b) : W.cell? ⟨b, 0, none⟩ = some (.int .u64 0) ∧ W.cell? ⟨b, 1, none⟩ = some (.int .u64 0) ∧ W.cell? ⟨b, 2, none⟩ = some (.int .u64 0) ∧ W.cell? ⟨b, 3, none⟩ = some (.int .u64 0) ∧ W.cell? ⟨b, 4, none⟩ = some (.int .u64 0) ∧ W.cell? ⟨b, 5, none⟩ = some (.int .u64 0) ∧ W.cell? ⟨b, 6, none⟩ = some (.int .u64 0) ∧ W.cell? ⟨b, 7, none⟩ = some (.int .u64 0) ∧ W.cell? ⟨b, 8, none⟩ = some (.int .u64 0) ∧ W.cell? ⟨b, 9, none⟩ = some (.int .u64 0) ∧ W.cell? ⟨b, 10, none⟩ = some (.int .u64 0) ∧ W.cell? ⟨b, 11, none⟩ = some (.int .u64 0) := ⟨h.1 0 (by simp), h.1 1 (by simp), h.1 2 (by simp), h.1 3 (by simp), h.1 4 (by simp), h.1 5 (by simp), h.1 6 (by simp), h.1 7 (by simp), h.1 8 (by simp), h.1 9 (by simp), h.1 10 (by simp), h.1 11 (by simp)⟩
theorem Bk12.free {W : World} {b : Nat} (h : Bk12 W b) : W.frozen? ⟨b, 0, none⟩ = false ∧ W.frozen? ⟨b, 1, none⟩ = false ∧ W.frozen? ⟨b, 2, none⟩ = false ∧ W.frozen? ⟨b, 3, none⟩ = false ∧ W.frozen? ⟨b, 4, none⟩ = false ∧ W.frozen? ⟨b, 5, none⟩ = false ∧ W.frozen? ⟨b, 6, none⟩ = false ∧ W.frozen? ⟨b, 7, none⟩ = false ∧ W.frozen? ⟨b, 8, none⟩ = false ∧ W.frozen? ⟨b, 9, none⟩ = false ∧ W.frozen? ⟨b, 10, none⟩ = false ∧ W.frozen? ⟨b, 11, none⟩ = false := ⟨h.2 0 (by decide), h.2 1 (by decide), h.2 2 (by decide), h.2 3 (by decide), h.2 4 (by decide), h.2 5 (by decide), h.2 6 (by decide), h.2 7 (by decide), h.2 8 (by decide), h.2 9 (by decide), h.2 10 (by decide), h.2 11 (by decide)⟩
theorem Bk12.new {W : World} {b : Nat} {t : TypeId} (e : b = W.heap.size) : Bk12 (W.alloc (.cells #[.int .u64 0, .int .u64 0, .int .u64 0, .int .u64 0, .int .u64 0, .int .u64 0, .int .u64 0, .int .u64 0, .int .u64 0, .int .u64 0, .int .u64 0, .int .u64 0] t)) b := ⟨Cl.new _ e rfl, by subst e; exact Loose.new _ _ _ _⟩

end Go.Proofs.YtiebnlahhmngcaaGreatDoor

namespace Go.Proofs.YtiebnlahhmngcaaGreatDoor
open Go.RowKit Go.Sort

set_option maxHeartbeats 2000000 in
theorem cisid_any {x y z : Int} (hz : Num z) (w : World) :
    Calls Tryz.prog 45 #[.agg #[.int .u64 (l0 x), .int .u64 (l1 x), .int .u64 (l2 x), .int .u64 (l3 x), .int .u64 (l0 y), .int .u64 (l1 y), .int .u64 (l2 y), .int .u64 (l3 y), .int .u64 (l0 z), .int .u64 (l1 z), .int .u64 (l2 z), .int .u64 (l3 z)]] w fun e w' => e = .returned (.bool (decide (z = 0))) ∧ Below w.heap.size w w' := by
  have he : ∀ w, (Op.equalIn 10000 24 (.agg #[.int .u64 (l0 z), .int .u64 (l1 z), .int .u64 (l2 z), .int .u64 (l3 z)]) (.agg #[.int .u64 0, .int .u64 0, .int .u64 0, .int .u64 0])).run Tryz.prog w = .ok (decide (z = 0)) w := fun w => by
    have := eq_num hz (m := 0) ⟨by decide, by decide⟩ w
    obtain ⟨z0, z1, z2, z3⟩ := zero_limbs
    rw [z0, z1, z2, z3] at this
    exact this
  have bz := build_zero
  go_enter Tryz.func45, Tryz.ntmps45
  go_wp2
  simp [bodyPost, results, Tryz.results45, go_sem]
  repeat (first | with_reducible exact Below.refl _ _ | with_reducible refine Below.alloc ?_ (by first | omega | (simp; done) | (simp; omega)) _)

set_option maxHeartbeats 2000000 in
theorem cwiden_id {x y : Int} (w : World) :
    Calls Tryz.prog 43 #[.agg #[.int .u64 (l0 x), .int .u64 (l1 x), .int .u64 (l2 x), .int .u64 (l3 x), .int .u64 (l0 y), .int .u64 (l1 y), .int .u64 (l2 y), .int .u64 (l3 y), .bool true]] w fun e w' => e = .returned (.agg #[.int .u64 (l0 0), .int .u64 (l1 0), .int .u64 (l2 0), .int .u64 (l3 0), .int .u64 (l0 0), .int .u64 (l1 0), .int .u64 (l2 0), .int .u64 (l3 0), .int .u64 (l0 0), .int .u64 (l1 0), .int .u64 (l2 0), .int .u64 (l3 0)]) ∧ Below w.heap.size w w' := by
  obtain ⟨z0, z1, z2, z3⟩ := zero_limbs
  rw [z0, z1, z2, z3]
  go_enter Tryz.func43, Tryz.ntmps43
  go_wp2
  simp [bodyPost, results, Tryz.results43, go_sem]
  repeat (first | with_reducible refine Below.setCell ?_ (by omega) _ | (first | with_reducible exact Below.refl _ _ | with_reducible refine Below.alloc ?_ (by first | omega | (simp; done) | (simp; omega)) _))

set_option maxHeartbeats 2000000 in
theorem cwiden_pt {x y : Int} (w : World) :
    Calls Tryz.prog 43 #[.agg #[.int .u64 (l0 x), .int .u64 (l1 x), .int .u64 (l2 x), .int .u64 (l3 x), .int .u64 (l0 y), .int .u64 (l1 y), .int .u64 (l2 y), .int .u64 (l3 y), .bool false]] w fun e w' => e = .returned (.agg #[.int .u64 (l0 x), .int .u64 (l1 x), .int .u64 (l2 x), .int .u64 (l3 x), .int .u64 (l0 y), .int .u64 (l1 y), .int .u64 (l2 y), .int .u64 (l3 y), .int .u64 (l0 1), .int .u64 (l1 1), .int .u64 (l2 1), .int .u64 (l3 1)]) ∧ Below w.heap.size w w' := by
  have C : Hid (∀ w, Calls Tryz.prog 8 #[.int .u64 1] w fun e w' => e = .returned (.agg #[.int .u64 (l0 1), .int .u64 (l1 1), .int .u64 (l2 1), .int .u64 (l3 1)]) ∧ Below w.heap.size w w') := fun w => from_any ⟨by decide, by decide⟩ w
  go_enter Tryz.func43, Tryz.ntmps43
  go_wp2_with fail
  refine wp_world (fun W => Below w.heap.size w W ∧ Pnt W w.heap.size x y false ∧ Bk12 W (w.heap.size + 1)) ⟨by repeat (first | with_reducible exact Below.refl _ _ | with_reducible refine Below.alloc ?_ (by first | omega | (simp; done) | (simp; omega)) _), (Pnt.new rfl).alloc _, Bk12.new (by simp)⟩ ?_
  rintro W ⟨B, hP, hR⟩
  have o3 : w.heap.size ≤ w.heap.size + 1 := by omega
  generalize w.heap.size + 1 = br at *
  have ghP := hP.grown
  refine below_tail 6 (by kernel_rfl) (by kernel_rfl) ?_
  simp only [List.take_succ_cons, List.take_zero, List.drop_succ_cons, List.drop_zero]
  repeat
    first
      | go_big_quiet_skip
      | (go_big_quiet_want; go_big_quiet_op; go_big_quiet_on)
      | (go_big_quiet_want
         go_big_quiet_op
         apply Exists.intro
         refine ⟨fun p => ?_, ?_⟩
         · (first | (go_at_call 8; with_reducible exact Calls.regrown_of (C.out _)))
         go_big_quiet_on)
  refine wpQuiet_nil ?_
  rintro w1 ⟨p, rfl⟩
  have hb := below_regrown W p.d p.os
  generalize grow (redrawn W p.d) p.os = w1 at *
  replace B := B.trans (hb.mono B.size)
  replace hP := hP.keep hb; replace hR := hR.keep hb
  clear hb W ghP 
  have gR := hR.cells; have fR := hR.free
  go_wp2
  simp [bodyPost, results, Tryz.results43, go_sem, gR]
  repeat (first | with_reducible exact B | with_reducible refine Below.setCell ?_ o3 _)

set_option maxHeartbeats 2000000 in
theorem cpoint_o {x y : Int} (w : World) :
    Calls Tryz.prog 27 #[.agg #[.int .u64 (l0 x), .int .u64 (l1 x), .int .u64 (l2 x), .int .u64 (l3 x), .int .u64 (l0 y), .int .u64 (l1 y), .int .u64 (l2 y), .int .u64 (l3 y), .int .u64 (l0 0), .int .u64 (l1 0), .int .u64 (l2 0), .int .u64 (l3 0)]] w fun e w' => e = .returned (.agg #[.int .u64 (l0 0), .int .u64 (l1 0), .int .u64 (l2 0), .int .u64 (l3 0), .int .u64 (l0 0), .int .u64 (l1 0), .int .u64 (l2 0), .int .u64 (l3 0), .bool true]) ∧ Below w.heap.size w w' := by
  obtain ⟨z0, z1, z2, z3⟩ := zero_limbs
  have C : Hid (∀ w, Calls Tryz.prog 45 #[.agg #[.int .u64 (l0 x), .int .u64 (l1 x), .int .u64 (l2 x), .int .u64 (l3 x), .int .u64 (l0 y), .int .u64 (l1 y), .int .u64 (l2 y), .int .u64 (l3 y), .int .u64 0, .int .u64 0, .int .u64 0, .int .u64 0]] w fun e w' => e = .returned (.bool true) ∧ Below w.heap.size w w') := fun w => by
    have := cisid_any (x := x) (y := y) (z := 0) ⟨by decide, by decide⟩ w
    rw [z0, z1, z2, z3] at this
    exact this
  rw [z0, z1, z2, z3]
  go_enter Tryz.func27, Tryz.ntmps27
  go_wp2_with fail
  refine calls_world (fun W => Below w.heap.size w W ∧ Bk9 W (w.heap.size + 1)) ⟨by repeat (first | with_reducible exact Below.refl _ _ | with_reducible refine Below.alloc ?_ (by first | omega | (simp; done) | (simp; omega)) _), Bk9.new (by simp)⟩ ?_
  rintro W ⟨B, hR⟩
  have o3 : w.heap.size ≤ w.heap.size + 1 := by omega
  generalize w.heap.size + 1 = br at *
  with_reducible refine (C.out _).mono ?_
  rintro e w1 ⟨rfl, hb⟩
  replace B := B.trans (hb.mono B.size)
  replace hR := hR.keep hb
  clear hb W
  have gR := hR.cells; have fR := hR.free
  go_wp2
  simp [bodyPost, results, Tryz.results27, go_sem, gR]
  repeat (first | with_reducible exact B | with_reducible refine Below.setCell ?_ o3 _)

set_option maxRecDepth 100000 in
set_option maxHeartbeats 4000000 in
theorem cpoint_walk {x y z v s a b r : Int} (C0 : Hid (∀ w, Calls Tryz.prog 45 #[.agg #[.int .u64 (l0 x), .int .u64 (l1 x), .int .u64 (l2 x), .int .u64 (l3 x), .int .u64 (l0 y), .int .u64 (l1 y), .int .u64 (l2 y), .int .u64 (l3 y), .int .u64 (l0 z), .int .u64 (l1 z), .int .u64 (l2 z), .int .u64 (l3 z)]] w fun e w' => e = .returned (.bool false) ∧ Below w.heap.size w w'))
    (C1 : Hid (∀ w, Mds w → Calls Tryz.prog 46 #[.int .i64 0, .agg #[.int .u64 (l0 z), .int .u64 (l1 z), .int .u64 (l2 z), .int .u64 (l3 z)]] w fun e w' => e = .returned (.tuple #[.agg #[.int .u64 (l0 v), .int .u64 (l1 v), .int .u64 (l2 v), .int .u64 (l3 v)], .int .i64 0]) ∧ Below w.heap.size w w')) (C2 : Hid (∀ w, Mds w → Calls Tryz.prog 47 #[.agg #[.int .u64 (l0 v), .int .u64 (l1 v), .int .u64 (l2 v), .int .u64 (l3 v)]] w fun e w' => e = .returned (.agg #[.int .u64 (l0 s), .int .u64 (l1 s), .int .u64 (l2 s), .int .u64 (l3 s)]) ∧ Below w.heap.size w w'))
    (C3 : Hid (∀ w, Mds w → Calls Tryz.prog 48 #[.agg #[.int .u64 (l0 x), .int .u64 (l1 x), .int .u64 (l2 x), .int .u64 (l3 x)], .agg #[.int .u64 (l0 s), .int .u64 (l1 s), .int .u64 (l2 s), .int .u64 (l3 s)]] w fun e w' => e = .returned (.agg #[.int .u64 (l0 a), .int .u64 (l1 a), .int .u64 (l2 a), .int .u64 (l3 a)]) ∧ Below w.heap.size w w')) (C4 : Hid (∀ w, Mds w → Calls Tryz.prog 48 #[.agg #[.int .u64 (l0 s), .int .u64 (l1 s), .int .u64 (l2 s), .int .u64 (l3 s)], .agg #[.int .u64 (l0 v), .int .u64 (l1 v), .int .u64 (l2 v), .int .u64 (l3 v)]] w fun e w' => e = .returned (.agg #[.int .u64 (l0 b), .int .u64 (l1 b), .int .u64 (l2 b), .int .u64 (l3 b)]) ∧ Below w.heap.size w w')) (C5 : Hid (∀ w, Mds w → Calls Tryz.prog 48 #[.agg #[.int .u64 (l0 y), .int .u64 (l1 y), .int .u64 (l2 y), .int .u64 (l3 y)], .agg #[.int .u64 (l0 b), .int .u64 (l1 b), .int .u64 (l2 b), .int .u64 (l3 b)]] w fun e w' => e = .returned (.agg #[.int .u64 (l0 r), .int .u64 (l1 r), .int .u64 (l2 r), .int .u64 (l3 r)]) ∧ Below w.heap.size w w')) (w : World) (hm : Mds w) :
    Calls Tryz.prog 27 #[.agg #[.int .u64 (l0 x), .int .u64 (l1 x), .int .u64 (l2 x), .int .u64 (l3 x), .int .u64 (l0 y), .int .u64 (l1 y), .int .u64 (l2 y), .int .u64 (l3 y), .int .u64 (l0 z), .int .u64 (l1 z), .int .u64 (l2 z), .int .u64 (l3 z)]] w fun e w' => e = .returned (.agg #[.int .u64 (l0 a), .int .u64 (l1 a), .int .u64 (l2 a), .int .u64 (l3 a), .int .u64 (l0 r), .int .u64 (l1 r), .int .u64 (l2 r), .int .u64 (l3 r), .bool false]) ∧ Below w.heap.size w w' := by
  go_enter Tryz.func27, Tryz.ntmps27
  go_wp2_with fail
  refine calls_world (fun W => Below w.heap.size w W ∧ Mds W ∧ Thr W w.heap.size x y z ∧ Bk9 W (w.heap.size + 1)) ⟨by repeat (first | with_reducible exact Below.refl _ _ | with_reducible refine Below.alloc ?_ (by first | omega | (simp; done) | (simp; omega)) _), (hm.alloc _).alloc _, (Thr.new rfl).alloc _, Bk9.new (by simp)⟩ ?_
  rintro W ⟨B, hD, hT, hR⟩
  have o3 : w.heap.size ≤ w.heap.size + 1 := by omega
  generalize w.heap.size + 1 = br at *
  with_reducible refine (C0.out _).mono ?_
  rintro e w1 ⟨rfl, hb⟩
  replace B := B.trans (hb.mono B.size)
  replace hD := hD.keep hb; replace hT := hT.keep hb; replace hR := hR.keep hb
  clear hb W
  have ghT := hT.cells
  go_wp2_with fail
  refine calls_world (fun W => Below w.heap.size w W ∧ Mds W ∧ Thr W w.heap.size x y z ∧ Bk9 W br) ⟨B, hD, hT, hR⟩ ?_
  clear B hD hT hR ghT
  rintro W ⟨B, hD, hT, hR⟩
  with_reducible refine (C1.out _ hD).mono ?_
  rintro e w2 ⟨rfl, hb⟩
  replace B := B.trans (hb.mono B.size)
  replace hD := hD.keep hb; replace hT := hT.keep hb; replace hR := hR.keep hb
  clear hb W
  go_wp2_with fail
  refine calls_world (fun W => Below w.heap.size w W ∧ Mds W ∧ Thr W w.heap.size x y z ∧ Bk9 W br ∧ Hold W w2.heap.size v) ⟨B.alloc B.size _, hD.alloc _, hT.alloc _, hR.alloc _, Hold.new _ _ _⟩ ?_
  clear B hD hT hR 
  rintro W ⟨B, hD, hT, hR, hV⟩
  generalize w2.heap.size = bv at *
  with_reducible refine (C2.out _ hD).mono ?_
  rintro e w3 ⟨rfl, hb⟩
  replace B := B.trans (hb.mono B.size)
  replace hD := hD.keep hb; replace hT := hT.keep hb; replace hR := hR.keep hb; replace hV := hV.keep hb
  clear hb W
  go_wp2_with fail
  refine wp_world (fun W => Below w.heap.size w W ∧ Mds W ∧ Thr W w.heap.size x y z ∧ Bk9 W br ∧ Hold W bv v ∧ Hold W w3.heap.size s) ⟨B.alloc B.size _, hD.alloc _, hT.alloc _, hR.alloc _, hV.alloc _, Hold.new _ _ _⟩ ?_
  clear B hD hT hR hV 
  rintro W ⟨B, hD, hT, hR, hV, hS⟩
  generalize w3.heap.size = bs at *
  have ghT := hT.grown
  have ghV := hV.grown
  have ghS := hS.grown
  have hDg : ∀ d os, Mds (grow (redrawn W d) os) := fun d os => hD.keep (below_regrown W d os)
  refine below_tail 11 (by kernel_rfl) (by kernel_rfl) ?_
  simp only [List.take_succ_cons, List.take_zero, List.drop_succ_cons, List.drop_zero]
  repeat
    first
      | go_big_quiet_skip
      | (go_big_quiet_want; go_big_quiet_op; go_big_quiet_on)
      | (go_big_quiet_want
         go_big_quiet_op
         apply Exists.intro
         refine ⟨fun p => ?_, ?_⟩
         · (first | (go_at_call 48; with_reducible exact Calls.regrown_of (C3.out _ (hDg p.d p.os))) | (go_at_call 48; with_reducible exact Calls.regrown_of (C4.out _ (hDg p.d p.os))) | (go_at_call 48; with_reducible exact Calls.regrown_of (C5.out _ (hDg p.d p.os))))
         go_big_quiet_on)
  refine wpQuiet_nil ?_
  rintro w4 ⟨p, rfl⟩
  have hb := below_regrown W p.d p.os
  generalize grow (redrawn W p.d) p.os = w4 at *
  replace B := B.trans (hb.mono B.size)
  replace hD := hD.keep hb; replace hT := hT.keep hb; replace hR := hR.keep hb; replace hV := hV.keep hb; replace hS := hS.keep hb
  clear hb W ghT ghV ghS hDg
  have gR := hR.cells; have fR := hR.free
  go_wp2
  simp [bodyPost, results, Tryz.results27, go_sem, gR]
  repeat (first | with_reducible exact B | with_reducible refine Below.setCell ?_ o3 _)

set_option maxHeartbeats 2000000 in
theorem csamex_no {x y z k : Int} (hk : Num k) (h0 : k ≠ 0) (w : World) :
    Calls Tryz.prog 66 #[.agg #[.int .u64 (l0 x), .int .u64 (l1 x), .int .u64 (l2 x), .int .u64 (l3 x), .int .u64 (l0 y), .int .u64 (l1 y), .int .u64 (l2 y), .int .u64 (l3 y), .int .u64 (l0 z), .int .u64 (l1 z), .int .u64 (l2 z), .int .u64 (l3 z)], .agg #[.int .u64 (l0 k), .int .u64 (l1 k), .int .u64 (l2 k), .int .u64 (l3 k)]] w fun e w' => e = .returned (.agg #[.int .u64 (l0 0), .int .u64 (l1 0), .int .u64 (l2 0), .int .u64 (l3 0), .int .u64 (l0 0), .int .u64 (l1 0), .int .u64 (l2 0), .int .u64 (l3 0), .int .u64 (l0 0), .int .u64 (l1 0), .int .u64 (l2 0), .int .u64 (l3 0)]) ∧ Below w.heap.size w w' := by
  have he : ∀ w, (Op.equalIn 10000 24 (.agg #[.int .u64 (l0 k), .int .u64 (l1 k), .int .u64 (l2 k), .int .u64 (l3 k)]) (.agg #[.int .u64 0, .int .u64 0, .int .u64 0, .int .u64 0])).run Tryz.prog w = .ok false w := fun w => by
    have := eq_no hk (m := 0) ⟨by decide, by decide⟩ h0 w
    obtain ⟨z0, z1, z2, z3⟩ := zero_limbs
    rw [z0, z1, z2, z3] at this
    exact this
  have bz := build_zero
  obtain ⟨z0, z1, z2, z3⟩ := zero_limbs
  rw [z0, z1, z2, z3]
  go_enter Tryz.func66, Tryz.ntmps66
  go_wp2
  simp [bodyPost, results, Tryz.results66, go_sem]
  repeat (first | with_reducible refine Below.setCell ?_ (by omega) _ | (first | with_reducible exact Below.refl _ _ | with_reducible refine Below.alloc ?_ (by first | omega | (simp; done) | (simp; omega)) _))

set_option maxHeartbeats 2000000 in
theorem csamex_yes {x y z x' y' z' : Int} (C : Hid (∀ w, Mds w → Calls Tryz.prog 40 #[.agg #[.int .u64 (l0 x), .int .u64 (l1 x), .int .u64 (l2 x), .int .u64 (l3 x), .int .u64 (l0 y), .int .u64 (l1 y), .int .u64 (l2 y), .int .u64 (l3 y), .int .u64 (l0 z), .int .u64 (l1 z), .int .u64 (l2 z), .int .u64 (l3 z)]] w fun e w' => e = .returned (.agg #[.int .u64 (l0 x'), .int .u64 (l1 x'), .int .u64 (l2 x'), .int .u64 (l3 x'), .int .u64 (l0 y'), .int .u64 (l1 y'), .int .u64 (l2 y'), .int .u64 (l3 y'), .int .u64 (l0 z'), .int .u64 (l1 z'), .int .u64 (l2 z'), .int .u64 (l3 z')]) ∧ Below w.heap.size w w')) (w : World) (hm : Mds w) :
    Calls Tryz.prog 66 #[.agg #[.int .u64 (l0 x), .int .u64 (l1 x), .int .u64 (l2 x), .int .u64 (l3 x), .int .u64 (l0 y), .int .u64 (l1 y), .int .u64 (l2 y), .int .u64 (l3 y), .int .u64 (l0 z), .int .u64 (l1 z), .int .u64 (l2 z), .int .u64 (l3 z)], .agg #[.int .u64 (l0 0), .int .u64 (l1 0), .int .u64 (l2 0), .int .u64 (l3 0)]] w fun e w' => e = .returned (.agg #[.int .u64 (l0 x'), .int .u64 (l1 x'), .int .u64 (l2 x'), .int .u64 (l3 x'), .int .u64 (l0 y'), .int .u64 (l1 y'), .int .u64 (l2 y'), .int .u64 (l3 y'), .int .u64 (l0 z'), .int .u64 (l1 z'), .int .u64 (l2 z'), .int .u64 (l3 z')]) ∧ Below w.heap.size w w' := by
  have he : ∀ w, (Op.equalIn 10000 24 (.agg #[.int .u64 0, .int .u64 0, .int .u64 0, .int .u64 0]) (.agg #[.int .u64 0, .int .u64 0, .int .u64 0, .int .u64 0])).run Tryz.prog w = .ok true w := fun w => by rw [eq_any]; rfl
  have bz := build_zero
  obtain ⟨z0, z1, z2, z3⟩ := zero_limbs
  rw [z0, z1, z2, z3]
  clear z0 z1 z2 z3
  go_enter Tryz.func66, Tryz.ntmps66
  go_wp2_with fail
  refine calls_world (fun W => Below w.heap.size w W ∧ Mds W ∧ Bk12 W (w.heap.size + 1 + 1)) ⟨by repeat (first | with_reducible exact Below.refl _ _ | with_reducible refine Below.alloc ?_ (by first | omega | (simp; done) | (simp; omega)) _), ((hm.alloc _).alloc _).alloc _, Bk12.new (by simp)⟩ ?_
  rintro W ⟨B, hD, hR⟩
  have o3 : w.heap.size ≤ w.heap.size + 1 + 1 := by omega
  generalize w.heap.size + 1 + 1 = br at *
  with_reducible refine (C.out _ hD).mono ?_
  rintro e w1 ⟨rfl, hb⟩
  replace B := B.trans (hb.mono B.size)
  replace hR := hR.keep hb
  clear hb hD W
  have gR := hR.cells; have fR := hR.free
  go_wp2
  simp [bodyPost, results, Tryz.results66, go_sem, gR]
  repeat (first | with_reducible exact B | with_reducible refine Below.setCell ?_ o3 _)

end Go.Proofs.YtiebnlahhmngcaaGreatDoor

namespace Go.Proofs.YtiebnlahhmngcaaGreatDoor
open Go.RowKit Go.Sort

set_option maxRecDepth 100000 in
set_option maxHeartbeats 16000000 in
theorem cdbl_walk {x y z a b c d s f g q h k u m n b1 b2 b3 v e1 r : Int} (C0 : Hid (∀ w, Calls Tryz.prog 45 #[.agg #[.int .u64 (l0 x), .int .u64 (l1 x), .int .u64 (l2 x), .int .u64 (l3 x), .int .u64 (l0 y), .int .u64 (l1 y), .int .u64 (l2 y), .int .u64 (l3 y), .int .u64 (l0 z), .int .u64 (l1 z), .int .u64 (l2 z), .int .u64 (l3 z)]] w fun e w' => e = .returned (.bool false) ∧ Below w.heap.size w w'))
    (C1 : Hid (∀ w, Mds w → Calls Tryz.prog 47 #[.agg #[.int .u64 (l0 y), .int .u64 (l1 y), .int .u64 (l2 y), .int .u64 (l3 y)]] w fun e w' => e = .returned (.agg #[.int .u64 (l0 a), .int .u64 (l1 a), .int .u64 (l2 a), .int .u64 (l3 a)]) ∧ Below w.heap.size w w'))
    (C2 : Hid (∀ w, Mds w → Calls Tryz.prog 47 #[.agg #[.int .u64 (l0 a), .int .u64 (l1 a), .int .u64 (l2 a), .int .u64 (l3 a)]] w fun e w' => e = .returned (.agg #[.int .u64 (l0 b), .int .u64 (l1 b), .int .u64 (l2 b), .int .u64 (l3 b)]) ∧ Below w.heap.size w w'))
    (C3 : Hid (∀ w, Mds w → Calls Tryz.prog 47 #[.agg #[.int .u64 (l0 x), .int .u64 (l1 x), .int .u64 (l2 x), .int .u64 (l3 x)]] w fun e w' => e = .returned (.agg #[.int .u64 (l0 c), .int .u64 (l1 c), .int .u64 (l2 c), .int .u64 (l3 c)]) ∧ Below w.heap.size w w'))
    (C4 : Hid (∀ w, Mds w → Calls Tryz.prog 64 #[.agg #[.int .u64 (l0 c), .int .u64 (l1 c), .int .u64 (l2 c), .int .u64 (l3 c)]] w fun e w' => e = .returned (.agg #[.int .u64 (l0 d), .int .u64 (l1 d), .int .u64 (l2 d), .int .u64 (l3 d)]) ∧ Below w.heap.size w w'))
    (C5 : Hid (∀ w, Mds w → Calls Tryz.prog 63 #[.agg #[.int .u64 (l0 d), .int .u64 (l1 d), .int .u64 (l2 d), .int .u64 (l3 d)], .agg #[.int .u64 (l0 c), .int .u64 (l1 c), .int .u64 (l2 c), .int .u64 (l3 c)]] w fun e w' => e = .returned (.agg #[.int .u64 (l0 s), .int .u64 (l1 s), .int .u64 (l2 s), .int .u64 (l3 s)]) ∧ Below w.heap.size w w'))
    (C6 : Hid (∀ w, Mds w → Calls Tryz.prog 48 #[.agg #[.int .u64 (l0 x), .int .u64 (l1 x), .int .u64 (l2 x), .int .u64 (l3 x)], .agg #[.int .u64 (l0 a), .int .u64 (l1 a), .int .u64 (l2 a), .int .u64 (l3 a)]] w fun e w' => e = .returned (.agg #[.int .u64 (l0 f), .int .u64 (l1 f), .int .u64 (l2 f), .int .u64 (l3 f)]) ∧ Below w.heap.size w w'))
    (C7 : Hid (∀ w, Mds w → Calls Tryz.prog 64 #[.agg #[.int .u64 (l0 f), .int .u64 (l1 f), .int .u64 (l2 f), .int .u64 (l3 f)]] w fun e w' => e = .returned (.agg #[.int .u64 (l0 g), .int .u64 (l1 g), .int .u64 (l2 g), .int .u64 (l3 g)]) ∧ Below w.heap.size w w'))
    (C8 : Hid (∀ w, Mds w → Calls Tryz.prog 64 #[.agg #[.int .u64 (l0 g), .int .u64 (l1 g), .int .u64 (l2 g), .int .u64 (l3 g)]] w fun e w' => e = .returned (.agg #[.int .u64 (l0 q), .int .u64 (l1 q), .int .u64 (l2 q), .int .u64 (l3 q)]) ∧ Below w.heap.size w w'))
    (C9 : Hid (∀ w, Mds w → Calls Tryz.prog 47 #[.agg #[.int .u64 (l0 s), .int .u64 (l1 s), .int .u64 (l2 s), .int .u64 (l3 s)]] w fun e w' => e = .returned (.agg #[.int .u64 (l0 h), .int .u64 (l1 h), .int .u64 (l2 h), .int .u64 (l3 h)]) ∧ Below w.heap.size w w'))
    (C10 : Hid (∀ w, Mds w → Calls Tryz.prog 64 #[.agg #[.int .u64 (l0 q), .int .u64 (l1 q), .int .u64 (l2 q), .int .u64 (l3 q)]] w fun e w' => e = .returned (.agg #[.int .u64 (l0 k), .int .u64 (l1 k), .int .u64 (l2 k), .int .u64 (l3 k)]) ∧ Below w.heap.size w w'))
    (C11 : Hid (∀ w, Mds w → Calls Tryz.prog 65 #[.agg #[.int .u64 (l0 h), .int .u64 (l1 h), .int .u64 (l2 h), .int .u64 (l3 h)], .agg #[.int .u64 (l0 k), .int .u64 (l1 k), .int .u64 (l2 k), .int .u64 (l3 k)]] w fun e w' => e = .returned (.agg #[.int .u64 (l0 u), .int .u64 (l1 u), .int .u64 (l2 u), .int .u64 (l3 u)]) ∧ Below w.heap.size w w'))
    (C12 : Hid (∀ w, Mds w → Calls Tryz.prog 65 #[.agg #[.int .u64 (l0 q), .int .u64 (l1 q), .int .u64 (l2 q), .int .u64 (l3 q)], .agg #[.int .u64 (l0 u), .int .u64 (l1 u), .int .u64 (l2 u), .int .u64 (l3 u)]] w fun e w' => e = .returned (.agg #[.int .u64 (l0 m), .int .u64 (l1 m), .int .u64 (l2 m), .int .u64 (l3 m)]) ∧ Below w.heap.size w w'))
    (C13 : Hid (∀ w, Mds w → Calls Tryz.prog 48 #[.agg #[.int .u64 (l0 s), .int .u64 (l1 s), .int .u64 (l2 s), .int .u64 (l3 s)], .agg #[.int .u64 (l0 m), .int .u64 (l1 m), .int .u64 (l2 m), .int .u64 (l3 m)]] w fun e w' => e = .returned (.agg #[.int .u64 (l0 n), .int .u64 (l1 n), .int .u64 (l2 n), .int .u64 (l3 n)]) ∧ Below w.heap.size w w'))
    (C14 : Hid (∀ w, Mds w → Calls Tryz.prog 64 #[.agg #[.int .u64 (l0 b), .int .u64 (l1 b), .int .u64 (l2 b), .int .u64 (l3 b)]] w fun e w' => e = .returned (.agg #[.int .u64 (l0 b1), .int .u64 (l1 b1), .int .u64 (l2 b1), .int .u64 (l3 b1)]) ∧ Below w.heap.size w w'))
    (C15 : Hid (∀ w, Mds w → Calls Tryz.prog 64 #[.agg #[.int .u64 (l0 b1), .int .u64 (l1 b1), .int .u64 (l2 b1), .int .u64 (l3 b1)]] w fun e w' => e = .returned (.agg #[.int .u64 (l0 b2), .int .u64 (l1 b2), .int .u64 (l2 b2), .int .u64 (l3 b2)]) ∧ Below w.heap.size w w'))
    (C16 : Hid (∀ w, Mds w → Calls Tryz.prog 64 #[.agg #[.int .u64 (l0 b2), .int .u64 (l1 b2), .int .u64 (l2 b2), .int .u64 (l3 b2)]] w fun e w' => e = .returned (.agg #[.int .u64 (l0 b3), .int .u64 (l1 b3), .int .u64 (l2 b3), .int .u64 (l3 b3)]) ∧ Below w.heap.size w w'))
    (C17 : Hid (∀ w, Mds w → Calls Tryz.prog 65 #[.agg #[.int .u64 (l0 n), .int .u64 (l1 n), .int .u64 (l2 n), .int .u64 (l3 n)], .agg #[.int .u64 (l0 b3), .int .u64 (l1 b3), .int .u64 (l2 b3), .int .u64 (l3 b3)]] w fun e w' => e = .returned (.agg #[.int .u64 (l0 v), .int .u64 (l1 v), .int .u64 (l2 v), .int .u64 (l3 v)]) ∧ Below w.heap.size w w'))
    (C18 : Hid (∀ w, Mds w → Calls Tryz.prog 48 #[.agg #[.int .u64 (l0 y), .int .u64 (l1 y), .int .u64 (l2 y), .int .u64 (l3 y)], .agg #[.int .u64 (l0 z), .int .u64 (l1 z), .int .u64 (l2 z), .int .u64 (l3 z)]] w fun e w' => e = .returned (.agg #[.int .u64 (l0 e1), .int .u64 (l1 e1), .int .u64 (l2 e1), .int .u64 (l3 e1)]) ∧ Below w.heap.size w w'))
    (C19 : Hid (∀ w, Mds w → Calls Tryz.prog 64 #[.agg #[.int .u64 (l0 e1), .int .u64 (l1 e1), .int .u64 (l2 e1), .int .u64 (l3 e1)]] w fun e w' => e = .returned (.agg #[.int .u64 (l0 r), .int .u64 (l1 r), .int .u64 (l2 r), .int .u64 (l3 r)]) ∧ Below w.heap.size w w'))
    (w : World) (hm : Mds w) :
    Calls Tryz.prog 40 #[.agg #[.int .u64 (l0 x), .int .u64 (l1 x), .int .u64 (l2 x), .int .u64 (l3 x), .int .u64 (l0 y), .int .u64 (l1 y), .int .u64 (l2 y), .int .u64 (l3 y), .int .u64 (l0 z), .int .u64 (l1 z), .int .u64 (l2 z), .int .u64 (l3 z)]] w fun e w' => e = .returned (.agg #[.int .u64 (l0 u), .int .u64 (l1 u), .int .u64 (l2 u), .int .u64 (l3 u), .int .u64 (l0 v), .int .u64 (l1 v), .int .u64 (l2 v), .int .u64 (l3 v), .int .u64 (l0 r), .int .u64 (l1 r), .int .u64 (l2 r), .int .u64 (l3 r)]) ∧ Below w.heap.size w w' := by
  go_enter Tryz.func40, Tryz.ntmps40
  go_wp2_with fail
  refine calls_world (fun W => Below w.heap.size w W ∧ Mds W ∧ Thr W w.heap.size x y z ∧ Bk12 W (w.heap.size + 1)) ⟨by repeat (first | with_reducible exact Below.refl _ _ | with_reducible refine Below.alloc ?_ (by first | omega | (simp; done) | (simp; omega)) _), (hm.alloc _).alloc _, (Thr.new rfl).alloc _, Bk12.new (by simp)⟩ ?_
  rintro W ⟨B, hD, hT, hR⟩
  have o3 : w.heap.size ≤ w.heap.size + 1 := by omega
  generalize w.heap.size + 1 = br at *
  with_reducible refine (C0.out _).mono ?_
  rintro e w1 ⟨rfl, hb⟩
  replace B := B.trans (hb.mono B.size)
  replace hD := hD.keep hb; replace hT := hT.keep hb; replace hR := hR.keep hb
  clear hb W
  have ghT := hT.cells
  go_wp2_with fail
  refine calls_world (fun W => Below w.heap.size w W ∧ Mds W ∧ Thr W w.heap.size x y z ∧ Bk12 W br) ⟨B, hD, hT, hR⟩ ?_
  clear B hD hT hR ghT
  rintro W ⟨B, hD, hT, hR⟩
  with_reducible refine (C1.out _ hD).mono ?_
  rintro e w2 ⟨rfl, hb⟩
  replace B := B.trans (hb.mono B.size)
  replace hD := hD.keep hb; replace hT := hT.keep hb; replace hR := hR.keep hb
  clear hb W
  go_wp2_with fail
  refine calls_world (fun W => Below w.heap.size w W ∧ Mds W ∧ Thr W w.heap.size x y z ∧ Bk12 W br ∧ Hold W w2.heap.size a) ⟨B.alloc B.size _, hD.alloc _, hT.alloc _, hR.alloc _, Hold.new _ _ _⟩ ?_
  clear B hD hT hR 
  rintro W ⟨B, hD, hT, hR, hA⟩
  generalize w2.heap.size = ba at *
  with_reducible refine (C2.out _ hD).mono ?_
  rintro e w3 ⟨rfl, hb⟩
  replace B := B.trans (hb.mono B.size)
  replace hD := hD.keep hb; replace hT := hT.keep hb; replace hR := hR.keep hb; replace hA := hA.keep hb
  clear hb W
  have ghT := fun o => (hT.alloc o).cells
  go_wp2_with fail
  refine calls_world (fun W => Below w.heap.size w W ∧ Mds W ∧ Thr W w.heap.size x y z ∧ Bk12 W br ∧ Hold W ba a ∧ Hold W w3.heap.size b) ⟨B.alloc B.size _, hD.alloc _, hT.alloc _, hR.alloc _, hA.alloc _, Hold.new _ _ _⟩ ?_
  clear B hD hT hR hA ghT
  rintro W ⟨B, hD, hT, hR, hA, hB⟩
  generalize w3.heap.size = bb at *
  with_reducible refine (C3.out _ hD).mono ?_
  rintro e w4 ⟨rfl, hb⟩
  replace B := B.trans (hb.mono B.size)
  replace hD := hD.keep hb; replace hT := hT.keep hb; replace hR := hR.keep hb; replace hA := hA.keep hb; replace hB := hB.keep hb
  clear hb W
  go_wp2_with fail
  refine wp_world (fun W => Below w.heap.size w W ∧ Mds W ∧ Thr W w.heap.size x y z ∧ Bk12 W br ∧ Hold W ba a ∧ Hold W bb b ∧ Hold W w4.heap.size c) ⟨B.alloc B.size _, hD.alloc _, hT.alloc _, hR.alloc _, hA.alloc _, hB.alloc _, Hold.new _ _ _⟩ ?_
  clear B hD hT hR hA hB 
  rintro W ⟨B, hD, hT, hR, hA, hB, hC⟩
  generalize w4.heap.size = bc at *
  refine alloc_tail (A := ?AA1) 4 (by kernel_rfl) (by kernel_rfl) rfl rfl (alloc_num _ _ _) (fun V hV => ?HH1) (fun V w1 hV hw => ?TT1)
  case HH1 =>
    have hDg : ∀ d os, Mds (grow (redrawn V d) os) := fun d os => (hD.keep hV).keep (below_regrown V d os)
    have ghC := (hC.keep hV).grown
    unfold Gr
    simp only [List.take_succ_cons, List.take_zero]
    repeat
      first
        | go_big_quiet_skip
        | (go_big_quiet_want; go_big_quiet_op; go_big_quiet_on)
        | (go_big_quiet_want
           go_big_quiet_op
           apply Exists.intro
           refine ⟨fun p => ?_, ?_⟩
           · (first | (go_at_call 64; with_reducible exact Calls.regrown_of (C4.out _ (hDg p.d p.os))) | (go_at_call 63; with_reducible exact Calls.regrown_of (C5.out _ (hDg p.d p.os))))
           go_big_quiet_on)
    refine wpQuiet_nil ?_
    exact rfl
  case TT1 =>
    have hb := alloc_below hV hw
    have hN := (Blank.new rfl).keep hw
    have nhD : V.heap.size ≠ 2 := Nat.ne_of_gt (Nat.lt_of_lt_of_le (hD.lt) hV.size)
    have nhT : V.heap.size ≠ w.heap.size := Nat.ne_of_gt (Nat.lt_of_lt_of_le (hT.lt) hV.size)
    have nhR : V.heap.size ≠ br := Nat.ne_of_gt (Nat.lt_of_lt_of_le (hR.lt) hV.size)
    have nhA : V.heap.size ≠ ba := Nat.ne_of_gt (Nat.lt_of_lt_of_le (World.block_lt_of_cell? _ _ hA.1) hV.size)
    have nhB : V.heap.size ≠ bb := Nat.ne_of_gt (Nat.lt_of_lt_of_le (World.block_lt_of_cell? _ _ hB.1) hV.size)
    have nhC : V.heap.size ≠ bc := Nat.ne_of_gt (Nat.lt_of_lt_of_le (World.block_lt_of_cell? _ _ hC.1) hV.size)
    have gn : w.heap.size ≤ V.heap.size := Nat.le_trans B.size hV.size
    replace B := B.trans (hb.mono B.size)
    replace hD := hD.keep hb; replace hT := hT.keep hb; replace hR := hR.keep hb; replace hA := hA.keep hb; replace hB := hB.keep hb; replace hC := hC.keep hb
    clear hb hw hV W
    generalize V.heap.size = bs at *
    clear V
    have gN := hN.1.all4; have qN := hN.2.all4
    have ghT := hT.cells
    have ghA := hA.cells
    have mhD := nhD.symm
    have mhT := nhT.symm
    have mhR := nhR.symm
    have mhA := nhA.symm
    have mhB := nhB.symm
    have mhC := nhC.symm
    simp only [List.drop_succ_cons, List.drop_zero, Act.put, List.setIfInBounds_toArray, List.set_cons_zero, List.set_cons_succ]
    go_wp2_with fail
    refine calls_world (fun W => Below w.heap.size w W ∧ Mds W ∧ Thr W w.heap.size x y z ∧ Bk12 W br ∧ Hold W ba a ∧ Hold W bb b ∧ Hold W bc c ∧ Hold W bs s) ⟨below_set4 B gn _ _ _ _, hD.set4 nhD _ _ _ _, hT.set4 nhT _ _ _ _, hR.set4 nhR _ _ _ _, hA.set4 nhA _ _ _ _, hB.set4 nhB _ _ _ _, hC.set4 nhC _ _ _ _, Hold.sets4 (Blank.has hN)⟩ ?_
    clear B hN gN qN hD hT hR hA hB hC nhD mhD nhT mhT nhR mhR nhA mhA nhB mhB nhC mhC ghT ghA gn
    rintro W ⟨B, hD, hT, hR, hA, hB, hC, hS⟩
    clear w1
    with_reducible refine (C6.out _ hD).mono ?_
    rintro e w5 ⟨rfl, hb⟩
    replace B := B.trans (hb.mono B.size)
    replace hD := hD.keep hb; replace hT := hT.keep hb; replace hR := hR.keep hb; replace hA := hA.keep hb; replace hB := hB.keep hb; replace hC := hC.keep hb; replace hS := hS.keep hb
    clear hb W
    go_wp2_with fail
    refine calls_world (fun W => Below w.heap.size w W ∧ Mds W ∧ Thr W w.heap.size x y z ∧ Bk12 W br ∧ Hold W ba a ∧ Hold W bb b ∧ Hold W bc c ∧ Hold W bs s) ⟨B, hD, hT, hR, hA, hB, hC, hS⟩ ?_
    clear B hD hT hR hA hB hC hS 
    rintro W ⟨B, hD, hT, hR, hA, hB, hC, hS⟩
    with_reducible refine (C7.out _ hD).mono ?_
    rintro e w6 ⟨rfl, hb⟩
    replace B := B.trans (hb.mono B.size)
    replace hD := hD.keep hb; replace hT := hT.keep hb; replace hR := hR.keep hb; replace hA := hA.keep hb; replace hB := hB.keep hb; replace hC := hC.keep hb; replace hS := hS.keep hb
    clear hb W
    go_wp2_with fail
    refine calls_world (fun W => Below w.heap.size w W ∧ Mds W ∧ Thr W w.heap.size x y z ∧ Bk12 W br ∧ Hold W ba a ∧ Hold W bb b ∧ Hold W bc c ∧ Hold W bs s) ⟨B, hD, hT, hR, hA, hB, hC, hS⟩ ?_
    clear B hD hT hR hA hB hC hS 
    rintro W ⟨B, hD, hT, hR, hA, hB, hC, hS⟩
    with_reducible refine (C8.out _ hD).mono ?_
    rintro e w7 ⟨rfl, hb⟩
    replace B := B.trans (hb.mono B.size)
    replace hD := hD.keep hb; replace hT := hT.keep hb; replace hR := hR.keep hb; replace hA := hA.keep hb; replace hB := hB.keep hb; replace hC := hC.keep hb; replace hS := hS.keep hb
    clear hb W
    go_wp2_with fail
    refine wp_world (fun W => Below w.heap.size w W ∧ Mds W ∧ Thr W w.heap.size x y z ∧ Bk12 W br ∧ Hold W ba a ∧ Hold W bb b ∧ Hold W bc c ∧ Hold W bs s ∧ Hold W w7.heap.size q) ⟨B.alloc B.size _, hD.alloc _, hT.alloc _, hR.alloc _, hA.alloc _, hB.alloc _, hC.alloc _, hS.alloc _, Hold.new _ _ _⟩ ?_
    clear B hD hT hR hA hB hC hS 
    rintro W ⟨B, hD, hT, hR, hA, hB, hC, hS, hQ⟩
    generalize w7.heap.size = bq at *
    clear hA hC
    refine alloc_tail (A := ?AA2) 5 (by kernel_rfl) (by kernel_rfl) rfl rfl (alloc_num _ _ _) (fun V hV => ?HH2) (fun V w1 hV hw => ?TT2)
    case HH2 =>
      have hDg : ∀ d os, Mds (grow (redrawn V d) os) := fun d os => (hD.keep hV).keep (below_regrown V d os)
      have ghS := (hS.keep hV).grown
      have ghQ := (hQ.keep hV).grown
      unfold Gr
      simp only [List.take_succ_cons, List.take_zero]
      repeat
        first
          | go_big_quiet_skip
          | (go_big_quiet_want; go_big_quiet_op; go_big_quiet_on)
          | (go_big_quiet_want
             go_big_quiet_op
             apply Exists.intro
             refine ⟨fun p => ?_, ?_⟩
             · (first | (go_at_call 47; with_reducible exact Calls.regrown_of (C9.out _ (hDg p.d p.os))) | (go_at_call 64; with_reducible exact Calls.regrown_of (C10.out _ (hDg p.d p.os))) | (go_at_call 65; with_reducible exact Calls.regrown_of (C11.out _ (hDg p.d p.os))))
             go_big_quiet_on)
      refine wpQuiet_nil ?_
      exact rfl
    case TT2 =>
      have hb := alloc_below hV hw
      have hN := (Blank.new rfl).keep hw
      have nhD : V.heap.size ≠ 2 := Nat.ne_of_gt (Nat.lt_of_lt_of_le (hD.lt) hV.size)
      have nhT : V.heap.size ≠ w.heap.size := Nat.ne_of_gt (Nat.lt_of_lt_of_le (hT.lt) hV.size)
      have nhR : V.heap.size ≠ br := Nat.ne_of_gt (Nat.lt_of_lt_of_le (hR.lt) hV.size)
      have nhB : V.heap.size ≠ bb := Nat.ne_of_gt (Nat.lt_of_lt_of_le (World.block_lt_of_cell? _ _ hB.1) hV.size)
      have nhS : V.heap.size ≠ bs := Nat.ne_of_gt (Nat.lt_of_lt_of_le (World.block_lt_of_cell? _ _ hS.1) hV.size)
      have nhQ : V.heap.size ≠ bq := Nat.ne_of_gt (Nat.lt_of_lt_of_le (World.block_lt_of_cell? _ _ hQ.1) hV.size)
      have gn : w.heap.size ≤ V.heap.size := Nat.le_trans B.size hV.size
      replace B := B.trans (hb.mono B.size)
      replace hD := hD.keep hb; replace hT := hT.keep hb; replace hR := hR.keep hb; replace hB := hB.keep hb; replace hS := hS.keep hb; replace hQ := hQ.keep hb
      clear hb hw hV W
      generalize V.heap.size = bu at *
      clear V
      have gN := hN.1.all4; have qN := hN.2.all4
      have mhD := nhD.symm
      have mhT := nhT.symm
      have mhR := nhR.symm
      have mhB := nhB.symm
      have mhS := nhS.symm
      have mhQ := nhQ.symm
      simp only [List.drop_succ_cons, List.drop_zero, Act.put, List.setIfInBounds_toArray, List.set_cons_zero, List.set_cons_succ]
      go_wp2_with fail
      refine wp_world (fun W => Below w.heap.size w W ∧ Mds W ∧ Thr W w.heap.size x y z ∧ Bk12 W br ∧ Hold W bb b ∧ Hold W bs s ∧ Hold W bq q ∧ Hold W bu u) ⟨below_set4 B gn _ _ _ _, hD.set4 nhD _ _ _ _, hT.set4 nhT _ _ _ _, hR.set4 nhR _ _ _ _, hB.set4 nhB _ _ _ _, hS.set4 nhS _ _ _ _, hQ.set4 nhQ _ _ _ _, Hold.sets4 (Blank.has hN)⟩ ?_
      clear B hN gN qN hD hT hR hB hS hQ nhD mhD nhT mhT nhR mhR nhB mhB nhS mhS nhQ mhQ  gn
      rintro W ⟨B, hD, hT, hR, hB, hS, hQ, hU⟩
      clear w1
      refine alloc_tail (A := ?AA3) 10 (by kernel_rfl) (by kernel_rfl) rfl rfl (alloc_num _ _ _) (fun V hV => ?HH3) (fun V w1 hV hw => ?TT3)
      case HH3 =>
        have hDg : ∀ d os, Mds (grow (redrawn V d) os) := fun d os => (hD.keep hV).keep (below_regrown V d os)
        have ghB := (hB.keep hV).grown
        have ghS := (hS.keep hV).grown
        have ghQ := (hQ.keep hV).grown
        have ghU := (hU.keep hV).grown
        unfold Gr
        simp only [List.take_succ_cons, List.take_zero]
        repeat
          first
            | go_big_quiet_skip
            | (go_big_quiet_want; go_big_quiet_op; go_big_quiet_on)
            | (go_big_quiet_want
               go_big_quiet_op
               apply Exists.intro
               refine ⟨fun p => ?_, ?_⟩
               · (first | (go_at_call 65; with_reducible exact Calls.regrown_of (C12.out _ (hDg p.d p.os))) | (go_at_call 48; with_reducible exact Calls.regrown_of (C13.out _ (hDg p.d p.os))) | (go_at_call 64; with_reducible exact Calls.regrown_of (C14.out _ (hDg p.d p.os))) | (go_at_call 64; with_reducible exact Calls.regrown_of (C15.out _ (hDg p.d p.os))) | (go_at_call 64; with_reducible exact Calls.regrown_of (C16.out _ (hDg p.d p.os))) | (go_at_call 65; with_reducible exact Calls.regrown_of (C17.out _ (hDg p.d p.os))))
               go_big_quiet_on)
        refine wpQuiet_nil ?_
        exact rfl
      case TT3 =>
        have hb := alloc_below hV hw
        have hN := (Blank.new rfl).keep hw
        have nhD : V.heap.size ≠ 2 := Nat.ne_of_gt (Nat.lt_of_lt_of_le (hD.lt) hV.size)
        have nhT : V.heap.size ≠ w.heap.size := Nat.ne_of_gt (Nat.lt_of_lt_of_le (hT.lt) hV.size)
        have nhR : V.heap.size ≠ br := Nat.ne_of_gt (Nat.lt_of_lt_of_le (hR.lt) hV.size)
        have nhB : V.heap.size ≠ bb := Nat.ne_of_gt (Nat.lt_of_lt_of_le (World.block_lt_of_cell? _ _ hB.1) hV.size)
        have nhS : V.heap.size ≠ bs := Nat.ne_of_gt (Nat.lt_of_lt_of_le (World.block_lt_of_cell? _ _ hS.1) hV.size)
        have nhQ : V.heap.size ≠ bq := Nat.ne_of_gt (Nat.lt_of_lt_of_le (World.block_lt_of_cell? _ _ hQ.1) hV.size)
        have nhU : V.heap.size ≠ bu := Nat.ne_of_gt (Nat.lt_of_lt_of_le (World.block_lt_of_cell? _ _ hU.1) hV.size)
        have gn : w.heap.size ≤ V.heap.size := Nat.le_trans B.size hV.size
        replace B := B.trans (hb.mono B.size)
        replace hD := hD.keep hb; replace hT := hT.keep hb; replace hR := hR.keep hb; replace hB := hB.keep hb; replace hS := hS.keep hb; replace hQ := hQ.keep hb; replace hU := hU.keep hb
        clear hb hw hV W
        generalize V.heap.size = bv at *
        clear V
        have gN := hN.1.all4; have qN := hN.2.all4
        have mhD := nhD.symm
        have mhT := nhT.symm
        have mhR := nhR.symm
        have mhB := nhB.symm
        have mhS := nhS.symm
        have mhQ := nhQ.symm
        have mhU := nhU.symm
        simp only [List.drop_succ_cons, List.drop_zero, Act.put, List.setIfInBounds_toArray, List.set_cons_zero, List.set_cons_succ]
        go_wp2_with fail
        refine wp_world (fun W => Below w.heap.size w W ∧ Mds W ∧ Thr W w.heap.size x y z ∧ Bk12 W br ∧ Hold W bb b ∧ Hold W bs s ∧ Hold W bq q ∧ Hold W bu u ∧ Hold W bv v) ⟨below_set4 B gn _ _ _ _, hD.set4 nhD _ _ _ _, hT.set4 nhT _ _ _ _, hR.set4 nhR _ _ _ _, hB.set4 nhB _ _ _ _, hS.set4 nhS _ _ _ _, hQ.set4 nhQ _ _ _ _, hU.set4 nhU _ _ _ _, Hold.sets4 (Blank.has hN)⟩ ?_
        clear B hN gN qN hD hT hR hB hS hQ hU nhD mhD nhT mhT nhR mhR nhB mhB nhS mhS nhQ mhQ nhU mhU  gn
        rintro W ⟨B, hD, hT, hR, hB, hS, hQ, hU, hV1⟩
        clear w1
        have ghT := hT.grown
        have ghU := hU.grown
        have ghV1 := hV1.grown
        have hDg : ∀ d os, Mds (grow (redrawn W d) os) := fun d os => hD.keep (below_regrown W d os)
        refine below_tail 9 (by kernel_rfl) (by kernel_rfl) ?_
        simp only [List.take_succ_cons, List.take_zero, List.drop_succ_cons, List.drop_zero]
        repeat
          first
            | go_big_quiet_skip
            | (go_big_quiet_want; go_big_quiet_op; go_big_quiet_on)
            | (go_big_quiet_want
               go_big_quiet_op
               apply Exists.intro
               refine ⟨fun p => ?_, ?_⟩
               · (first | (go_at_call 48; with_reducible exact Calls.regrown_of (C18.out _ (hDg p.d p.os))) | (go_at_call 64; with_reducible exact Calls.regrown_of (C19.out _ (hDg p.d p.os))))
               go_big_quiet_on)
        refine wpQuiet_nil ?_
        rintro w8 ⟨p, rfl⟩
        have hb := below_regrown W p.d p.os
        generalize grow (redrawn W p.d) p.os = w8 at *
        replace B := B.trans (hb.mono B.size)
        replace hD := hD.keep hb; replace hT := hT.keep hb; replace hR := hR.keep hb; replace hB := hB.keep hb; replace hS := hS.keep hb; replace hQ := hQ.keep hb; replace hU := hU.keep hb; replace hV1 := hV1.keep hb
        clear hb W ghT ghU ghV1 hDg
        have gR := hR.cells; have fR := hR.free
        go_wp2
        simp [bodyPost, results, Tryz.results40, go_sem, gR]
        repeat (first | with_reducible exact B | with_reducible refine Below.setCell ?_ o3 _)
end Go.Proofs.YtiebnlahhmngcaaGreatDoor

namespace Go.Proofs.YtiebnlahhmngcaaGreatDoor
open Go.RowKit Go.Sort

set_option maxHeartbeats 2000000 in
theorem eorder_walk {n : Int} (O : Hid (∀ w, Mds w → Calls Tryz.prog 87 #[.int .i64 1] w fun e w' => e = .returned (.tuple #[.agg #[.int .u64 (l0 n), .int .u64 (l1 n), .int .u64 (l2 n), .int .u64 (l3 n)], .int .i64 0]) ∧ Below w.heap.size w w')) (w : World) (hm : Mds w) :
    Calls Tryz.prog 86 #[] w fun e w' => e = .returned (.agg #[.int .u64 (l0 n), .int .u64 (l1 n), .int .u64 (l2 n), .int .u64 (l3 n)]) ∧ Below w.heap.size w w' := by
  go_enter Tryz.func86, Tryz.ntmps86
  go_wp2_with fail
  refine calls_world (fun W => Below w.heap.size w W ∧ Mds W ∧ Blank W w.heap.size) ⟨by repeat (first | with_reducible exact Below.refl _ _ | with_reducible refine Below.alloc ?_ (by first | omega | (simp; done) | (simp; omega)) _), hm.alloc _, Blank.new rfl⟩ ?_
  rintro W ⟨B, hD, hR⟩
  with_reducible refine (O.out _ hD).mono ?_
  rintro e w1 ⟨rfl, hb⟩
  replace B := B.trans (hb.mono B.size)
  replace hR := hR.keep hb
  have lr := hR.1.lt (by simp)
  have nr : w1.heap.size ≠ w.heap.size := by omega
  have nr' := nr.symm
  have o3 : w.heap.size ≤ w.heap.size := Nat.le_refl _
  clear hb W hD
  have gR := fun o => (hR.alloc o).1.all4
  have fR := fun o => (hR.alloc o).2.all4
  have gR0 := hR.1.all4
  have fR0 := hR.2.all4
  have BB : Hid (Below w.heap.size w w1) := B
  clear B hR
  go_wp2
  simp [bodyPost, results, Tryz.results86, go_sem, *]
  repeat (first | with_reducible exact BB.out | with_reducible refine Below.setCell ?_ o3 _ | with_reducible refine Below.alloc ?_ (by first | omega | (simp; omega)) _)

theorem ezero_walk {x : Int} {v : Bool} (E : ∀ w, (Op.equalIn 10000 24 (.agg #[.int .u64 (l0 x), .int .u64 (l1 x), .int .u64 (l2 x), .int .u64 (l3 x)]) (.agg #[.int .u64 0, .int .u64 0, .int .u64 0, .int .u64 0])).run Tryz.prog w = .ok v w) (w : World) : Calls Tryz.prog 82 #[.agg #[.int .u64 (l0 x), .int .u64 (l1 x), .int .u64 (l2 x), .int .u64 (l3 x)]] w fun e w' => e = .returned (.bool v) ∧ Below w.heap.size w w' := by
  go_enter Tryz.func82, Tryz.ntmps82
  go_wp2
  simp [bodyPost, results, Tryz.results82, go_sem]
  repeat (first | with_reducible exact Below.refl _ _ | with_reducible refine Below.alloc ?_ (by first | omega | (simp; done) | (simp; omega)) _ | with_reducible refine Below.setCell ?_ (by first | omega | (simp; done) | (simp; omega)) _)

set_option maxRecDepth 100000 in
set_option maxHeartbeats 4000000 in
theorem ebelow_walk {x n q : Int} {v : Bool} (O : Hid (∀ w, Mds w → Calls Tryz.prog 86 #[] w fun e w' => e = .returned (.agg #[.int .u64 (l0 n), .int .u64 (l1 n), .int .u64 (l2 n), .int .u64 (l3 n)]) ∧ Below w.heap.size w w')) (C : Hid (∀ w, Calls Tryz.prog 84 #[.agg #[.int .u64 (l0 x), .int .u64 (l1 x), .int .u64 (l2 x), .int .u64 (l3 x)], .agg #[.int .u64 (l0 n), .int .u64 (l1 n), .int .u64 (l2 n), .int .u64 (l3 n)]] w fun e w' => e = .returned (.int .i64 q) ∧ Below w.heap.size w w')) (hv : decide (q < 0) = v) (w : World) (hm : Mds w) :
    Calls Tryz.prog 83 #[.agg #[.int .u64 (l0 x), .int .u64 (l1 x), .int .u64 (l2 x), .int .u64 (l3 x)]] w fun e w' => e = .returned (.bool v) ∧ Below w.heap.size w w' := by
  go_enter Tryz.func83, Tryz.ntmps83
  go_wp2_with fail
  refine wp_world (fun W => Below w.heap.size w W ∧ Mds W ∧ Hold W w.heap.size x) ⟨by repeat (first | with_reducible exact Below.refl _ _ | with_reducible refine Below.alloc ?_ (by first | omega | (simp; done) | (simp; omega)) _), hm.alloc _, Hold.fresh (by simp)⟩ ?_
  rintro W ⟨B, hD, hX⟩
  have ghX := hX.grown
  have hDg : ∀ d os, Mds (grow (redrawn W d) os) := fun d os => hD.keep (below_regrown W d os)
  refine wp_region_quiet_below (by kernel_rfl) (by kernel_rfl) ?_
  repeat
    first
      | go_big_quiet_skip
      | (go_big_quiet_want; go_big_quiet_op; go_big_quiet_on)
      | (go_big_quiet_want
         go_big_quiet_op
         apply Exists.intro
         refine ⟨fun p => ?_, ?_⟩
         · (first | (go_at_call 86; with_reducible exact Calls.regrown_of (O.out _ (hDg p.d p.os))) | (go_at_call 84; with_reducible exact Calls.regrown_of (C.out _)))
         go_big_quiet_on)
  refine wpQuiet_nil ?_
  rintro w1 ⟨p, rfl⟩
  have hb := below_regrown W p.d p.os
  generalize grow (redrawn W p.d) p.os = w1 at *
  replace B := B.trans (hb.mono B.size)
  replace hD := hD.keep hb; replace hX := hX.keep hb
  clear hb W ghX hDg
  clear hD hX
  go_wp2
  simp [bodyPost, results, Tryz.results83, go_sem]
  exact B

set_option maxRecDepth 100000 in
set_option maxHeartbeats 4000000 in
theorem elow_walk {x n h q : Int} {v : Bool} (O : Hid (∀ w, Mds w → Calls Tryz.prog 86 #[] w fun e w' => e = .returned (.agg #[.int .u64 (l0 n), .int .u64 (l1 n), .int .u64 (l2 n), .int .u64 (l3 n)]) ∧ Below w.heap.size w w')) (C0 : Hid (∀ w, Calls Tryz.prog 85 #[.agg #[.int .u64 (l0 n), .int .u64 (l1 n), .int .u64 (l2 n), .int .u64 (l3 n)], .int .i64 1] w fun e w' => e = .returned (.agg #[.int .u64 (l0 h), .int .u64 (l1 h), .int .u64 (l2 h), .int .u64 (l3 h)]) ∧ Below w.heap.size w w')) (C : Hid (∀ w, Calls Tryz.prog 84 #[.agg #[.int .u64 (l0 x), .int .u64 (l1 x), .int .u64 (l2 x), .int .u64 (l3 x)], .agg #[.int .u64 (l0 h), .int .u64 (l1 h), .int .u64 (l2 h), .int .u64 (l3 h)]] w fun e w' => e = .returned (.int .i64 q) ∧ Below w.heap.size w w')) (hv : decide (q ≤ 0) = v) (w : World) (hm : Mds w) :
    Calls Tryz.prog 72 #[.agg #[.int .u64 (l0 x), .int .u64 (l1 x), .int .u64 (l2 x), .int .u64 (l3 x)]] w fun e w' => e = .returned (.bool v) ∧ Below w.heap.size w w' := by
  go_enter Tryz.func72, Tryz.ntmps72
  go_wp2_with fail
  refine wp_world (fun W => Below w.heap.size w W ∧ Mds W ∧ Hold W w.heap.size x) ⟨by repeat (first | with_reducible exact Below.refl _ _ | with_reducible refine Below.alloc ?_ (by first | omega | (simp; done) | (simp; omega)) _), hm.alloc _, Hold.fresh (by simp)⟩ ?_
  rintro W ⟨B, hD, hX⟩
  have ghX := hX.grown
  have hDg : ∀ d os, Mds (grow (redrawn W d) os) := fun d os => hD.keep (below_regrown W d os)
  refine wp_region_quiet_below (by kernel_rfl) (by kernel_rfl) ?_
  repeat
    first
      | go_big_quiet_skip
      | (go_big_quiet_want; go_big_quiet_op; go_big_quiet_on)
      | (go_big_quiet_want
         go_big_quiet_op
         apply Exists.intro
         refine ⟨fun p => ?_, ?_⟩
         · (first | (go_at_call 86; with_reducible exact Calls.regrown_of (O.out _ (hDg p.d p.os))) | (go_at_call 85; with_reducible exact Calls.regrown_of (C0.out _)) | (go_at_call 84; with_reducible exact Calls.regrown_of (C.out _)))
         go_big_quiet_on)
  refine wpQuiet_nil ?_
  rintro w1 ⟨p, rfl⟩
  have hb := below_regrown W p.d p.os
  generalize grow (redrawn W p.d) p.os = w1 at *
  replace B := B.trans (hb.mono B.size)
  replace hD := hD.keep hb; replace hX := hX.keep hb
  clear hb W ghX hDg
  clear hD hX
  go_wp2
  simp [bodyPost, results, Tryz.results72, go_sem]
  exact B

set_option maxRecDepth 100000 in
set_option maxHeartbeats 4000000 in
theorem einside_zero {x : Int} (C0 : Hid (∀ w, Calls Tryz.prog 82 #[.agg #[.int .u64 (l0 x), .int .u64 (l1 x), .int .u64 (l2 x), .int .u64 (l3 x)]] w fun e w' => e = .returned (.bool true) ∧ Below w.heap.size w w')) (w : World) (hm : Mds w) :
    Calls Tryz.prog 71 #[.agg #[.int .u64 (l0 x), .int .u64 (l1 x), .int .u64 (l2 x), .int .u64 (l3 x)]] w fun e w' => e = .returned (.bool false) ∧ Below w.heap.size w w' := by
  go_enter Tryz.func71, Tryz.ntmps71
  go_wp2_with fail
  refine calls_world (fun W => Below w.heap.size w W ∧ Mds W ∧ Hold W w.heap.size x) ⟨by repeat (first | with_reducible exact Below.refl _ _ | with_reducible refine Below.alloc ?_ (by first | omega | (simp; done) | (simp; omega)) _), hm.alloc _, Hold.fresh (by simp)⟩ ?_
  rintro W ⟨B, hD, hX⟩
  with_reducible refine (C0.out _).mono ?_
  rintro e w9 ⟨rfl, hb⟩
  replace B := B.trans (hb.mono B.size)
  clear hb hX hD W
  go_wp2
  simp [bodyPost, results, Tryz.results71, go_sem]
  exact B

set_option maxRecDepth 100000 in
set_option maxHeartbeats 4000000 in
theorem einside_yes {x : Int} {v : Bool} (C0 : Hid (∀ w, Calls Tryz.prog 82 #[.agg #[.int .u64 (l0 x), .int .u64 (l1 x), .int .u64 (l2 x), .int .u64 (l3 x)]] w fun e w' => e = .returned (.bool false) ∧ Below w.heap.size w w')) (C1 : Hid (∀ w, Mds w → Calls Tryz.prog 83 #[.agg #[.int .u64 (l0 x), .int .u64 (l1 x), .int .u64 (l2 x), .int .u64 (l3 x)]] w fun e w' => e = .returned (.bool v) ∧ Below w.heap.size w w')) (w : World) (hm : Mds w) :
    Calls Tryz.prog 71 #[.agg #[.int .u64 (l0 x), .int .u64 (l1 x), .int .u64 (l2 x), .int .u64 (l3 x)]] w fun e w' => e = .returned (.bool v) ∧ Below w.heap.size w w' := by
  go_enter Tryz.func71, Tryz.ntmps71
  go_wp2_with fail
  refine calls_world (fun W => Below w.heap.size w W ∧ Mds W ∧ Hold W w.heap.size x) ⟨by repeat (first | with_reducible exact Below.refl _ _ | with_reducible refine Below.alloc ?_ (by first | omega | (simp; done) | (simp; omega)) _), hm.alloc _, Hold.fresh (by simp)⟩ ?_
  rintro W ⟨B, hD, hX⟩
  with_reducible refine (C0.out _).mono ?_
  rintro e w1 ⟨rfl, hb⟩
  replace B := B.trans (hb.mono B.size)
  replace hD := hD.keep hb; replace hX := hX.keep hb
  clear hb W
  have ghX := hX.cells
  go_wp2_with fail
  refine calls_world (fun W => Below w.heap.size w W ∧ Mds W ∧ Hold W w.heap.size x) ⟨B, hD, hX⟩ ?_
  clear B hD hX ghX
  rintro W ⟨B, hD, hX⟩
  with_reducible refine (C1.out _ hD).mono ?_
  rintro e w9 ⟨rfl, hb⟩
  replace B := B.trans (hb.mono B.size)
  clear hb hX hD W
  go_wp2
  simp [bodyPost, results, Tryz.results71, go_sem]
  exact B

set_option maxRecDepth 100000 in
set_option maxHeartbeats 4000000 in
theorem echeck_0 {r s : Int} {o : Bool} (C1 : Hid (∀ w, Mds w → Calls Tryz.prog 71 #[.agg #[.int .u64 (l0 r), .int .u64 (l1 r), .int .u64 (l2 r), .int .u64 (l3 r)]] w fun e w' => e = .returned (.bool false) ∧ Below w.heap.size w w')) (w : World) (hm : Mds w) :
    Calls Tryz.prog 49 #[.agg #[.int .u64 (l0 r), .int .u64 (l1 r), .int .u64 (l2 r), .int .u64 (l3 r), .int .u64 (l0 s), .int .u64 (l1 s), .int .u64 (l2 s), .int .u64 (l3 s), .bool o]] w fun e w' => e = .returned (.int .i64 61) ∧ Below w.heap.size w w' := by
  go_enter Tryz.func49, Tryz.ntmps49
  go_wp2_with fail
  refine calls_world (fun W => Below w.heap.size w W ∧ Mds W ∧ Pnt W w.heap.size r s o) ⟨by repeat (first | with_reducible exact Below.refl _ _ | with_reducible refine Below.alloc ?_ (by first | omega | (simp; done) | (simp; omega)) _), hm.alloc _, Pnt.new rfl⟩ ?_
  rintro W ⟨B, hD, hP⟩
  with_reducible refine (C1.out _ hD).mono ?_
  rintro e w9 ⟨rfl, hb⟩
  replace B := B.trans (hb.mono B.size)
  clear hb hP W hD
  go_wp2
  simp [bodyPost, results, Tryz.results49, go_sem]
  exact B

set_option maxRecDepth 100000 in
set_option maxHeartbeats 4000000 in
theorem echeck_1 {r s : Int} {o : Bool} (C1 : Hid (∀ w, Mds w → Calls Tryz.prog 71 #[.agg #[.int .u64 (l0 r), .int .u64 (l1 r), .int .u64 (l2 r), .int .u64 (l3 r)]] w fun e w' => e = .returned (.bool true) ∧ Below w.heap.size w w')) (C2 : Hid (∀ w, Mds w → Calls Tryz.prog 71 #[.agg #[.int .u64 (l0 s), .int .u64 (l1 s), .int .u64 (l2 s), .int .u64 (l3 s)]] w fun e w' => e = .returned (.bool false) ∧ Below w.heap.size w w')) (w : World) (hm : Mds w) :
    Calls Tryz.prog 49 #[.agg #[.int .u64 (l0 r), .int .u64 (l1 r), .int .u64 (l2 r), .int .u64 (l3 r), .int .u64 (l0 s), .int .u64 (l1 s), .int .u64 (l2 s), .int .u64 (l3 s), .bool o]] w fun e w' => e = .returned (.int .i64 62) ∧ Below w.heap.size w w' := by
  go_enter Tryz.func49, Tryz.ntmps49
  go_wp2_with fail
  refine calls_world (fun W => Below w.heap.size w W ∧ Mds W ∧ Pnt W w.heap.size r s o) ⟨by repeat (first | with_reducible exact Below.refl _ _ | with_reducible refine Below.alloc ?_ (by first | omega | (simp; done) | (simp; omega)) _), hm.alloc _, Pnt.new rfl⟩ ?_
  rintro W ⟨B, hD, hP⟩
  with_reducible refine (C1.out _ hD).mono ?_
  rintro e w1 ⟨rfl, hb⟩
  replace B := B.trans (hb.mono B.size)
  replace hD := hD.keep hb; replace hP := hP.keep hb
  clear hb W
  have ghP := hP.cells
  go_wp2_with fail
  refine calls_world (fun W => Below w.heap.size w W ∧ Mds W ∧ Pnt W w.heap.size r s o) ⟨B, hD, hP⟩ ?_
  clear B hD hP ghP
  rintro W ⟨B, hD, hP⟩
  with_reducible refine (C2.out _ hD).mono ?_
  rintro e w9 ⟨rfl, hb⟩
  replace B := B.trans (hb.mono B.size)
  clear hb hP W hD
  go_wp2
  simp [bodyPost, results, Tryz.results49, go_sem]
  exact B

set_option maxRecDepth 100000 in
set_option maxHeartbeats 4000000 in
theorem echeck_2 {r s : Int} {o : Bool} (C1 : Hid (∀ w, Mds w → Calls Tryz.prog 71 #[.agg #[.int .u64 (l0 r), .int .u64 (l1 r), .int .u64 (l2 r), .int .u64 (l3 r)]] w fun e w' => e = .returned (.bool true) ∧ Below w.heap.size w w')) (C2 : Hid (∀ w, Mds w → Calls Tryz.prog 71 #[.agg #[.int .u64 (l0 s), .int .u64 (l1 s), .int .u64 (l2 s), .int .u64 (l3 s)]] w fun e w' => e = .returned (.bool true) ∧ Below w.heap.size w w')) (C3 : Hid (∀ w, Mds w → Calls Tryz.prog 72 #[.agg #[.int .u64 (l0 s), .int .u64 (l1 s), .int .u64 (l2 s), .int .u64 (l3 s)]] w fun e w' => e = .returned (.bool false) ∧ Below w.heap.size w w')) (w : World) (hm : Mds w) :
    Calls Tryz.prog 49 #[.agg #[.int .u64 (l0 r), .int .u64 (l1 r), .int .u64 (l2 r), .int .u64 (l3 r), .int .u64 (l0 s), .int .u64 (l1 s), .int .u64 (l2 s), .int .u64 (l3 s), .bool o]] w fun e w' => e = .returned (.int .i64 63) ∧ Below w.heap.size w w' := by
  go_enter Tryz.func49, Tryz.ntmps49
  go_wp2_with fail
  refine calls_world (fun W => Below w.heap.size w W ∧ Mds W ∧ Pnt W w.heap.size r s o) ⟨by repeat (first | with_reducible exact Below.refl _ _ | with_reducible refine Below.alloc ?_ (by first | omega | (simp; done) | (simp; omega)) _), hm.alloc _, Pnt.new rfl⟩ ?_
  rintro W ⟨B, hD, hP⟩
  with_reducible refine (C1.out _ hD).mono ?_
  rintro e w1 ⟨rfl, hb⟩
  replace B := B.trans (hb.mono B.size)
  replace hD := hD.keep hb; replace hP := hP.keep hb
  clear hb W
  have ghP := hP.cells
  go_wp2_with fail
  refine calls_world (fun W => Below w.heap.size w W ∧ Mds W ∧ Pnt W w.heap.size r s o) ⟨B, hD, hP⟩ ?_
  clear B hD hP ghP
  rintro W ⟨B, hD, hP⟩
  with_reducible refine (C2.out _ hD).mono ?_
  rintro e w2 ⟨rfl, hb⟩
  replace B := B.trans (hb.mono B.size)
  replace hD := hD.keep hb; replace hP := hP.keep hb
  clear hb W
  have ghP := hP.cells
  go_wp2_with fail
  refine calls_world (fun W => Below w.heap.size w W ∧ Mds W ∧ Pnt W w.heap.size r s o) ⟨B, hD, hP⟩ ?_
  clear B hD hP ghP
  rintro W ⟨B, hD, hP⟩
  with_reducible refine (C3.out _ hD).mono ?_
  rintro e w9 ⟨rfl, hb⟩
  replace B := B.trans (hb.mono B.size)
  clear hb hP W hD
  go_wp2
  simp [bodyPost, results, Tryz.results49, go_sem]
  exact B

set_option maxRecDepth 100000 in
set_option maxHeartbeats 4000000 in
theorem echeck_3 {r s : Int} {o : Bool} (C1 : Hid (∀ w, Mds w → Calls Tryz.prog 71 #[.agg #[.int .u64 (l0 r), .int .u64 (l1 r), .int .u64 (l2 r), .int .u64 (l3 r)]] w fun e w' => e = .returned (.bool true) ∧ Below w.heap.size w w')) (C2 : Hid (∀ w, Mds w → Calls Tryz.prog 71 #[.agg #[.int .u64 (l0 s), .int .u64 (l1 s), .int .u64 (l2 s), .int .u64 (l3 s)]] w fun e w' => e = .returned (.bool true) ∧ Below w.heap.size w w')) (C3 : Hid (∀ w, Mds w → Calls Tryz.prog 72 #[.agg #[.int .u64 (l0 s), .int .u64 (l1 s), .int .u64 (l2 s), .int .u64 (l3 s)]] w fun e w' => e = .returned (.bool true) ∧ Below w.heap.size w w')) (w : World) (hm : Mds w) :
    Calls Tryz.prog 49 #[.agg #[.int .u64 (l0 r), .int .u64 (l1 r), .int .u64 (l2 r), .int .u64 (l3 r), .int .u64 (l0 s), .int .u64 (l1 s), .int .u64 (l2 s), .int .u64 (l3 s), .bool o]] w fun e w' => e = .returned (.int .i64 0) ∧ Below w.heap.size w w' := by
  go_enter Tryz.func49, Tryz.ntmps49
  go_wp2_with fail
  refine calls_world (fun W => Below w.heap.size w W ∧ Mds W ∧ Pnt W w.heap.size r s o) ⟨by repeat (first | with_reducible exact Below.refl _ _ | with_reducible refine Below.alloc ?_ (by first | omega | (simp; done) | (simp; omega)) _), hm.alloc _, Pnt.new rfl⟩ ?_
  rintro W ⟨B, hD, hP⟩
  with_reducible refine (C1.out _ hD).mono ?_
  rintro e w1 ⟨rfl, hb⟩
  replace B := B.trans (hb.mono B.size)
  replace hD := hD.keep hb; replace hP := hP.keep hb
  clear hb W
  have ghP := hP.cells
  go_wp2_with fail
  refine calls_world (fun W => Below w.heap.size w W ∧ Mds W ∧ Pnt W w.heap.size r s o) ⟨B, hD, hP⟩ ?_
  clear B hD hP ghP
  rintro W ⟨B, hD, hP⟩
  with_reducible refine (C2.out _ hD).mono ?_
  rintro e w2 ⟨rfl, hb⟩
  replace B := B.trans (hb.mono B.size)
  replace hD := hD.keep hb; replace hP := hP.keep hb
  clear hb W
  have ghP := hP.cells
  go_wp2_with fail
  refine calls_world (fun W => Below w.heap.size w W ∧ Mds W ∧ Pnt W w.heap.size r s o) ⟨B, hD, hP⟩ ?_
  clear B hD hP ghP
  rintro W ⟨B, hD, hP⟩
  with_reducible refine (C3.out _ hD).mono ?_
  rintro e w9 ⟨rfl, hb⟩
  replace B := B.trans (hb.mono B.size)
  clear hb hP W hD
  go_wp2
  simp [bodyPost, results, Tryz.results49, go_sem]
  exact B

theorem num_n : Num nN := ⟨by decide, by decide⟩
theorem eorder_any (w : World) (hm : Mds w) : Calls Tryz.prog 86 #[] w fun e w' => e = .returned (.agg #[.int .u64 (l0 nN), .int .u64 (l1 nN), .int .u64 (l2 nN), .int .u64 (l3 nN)]) ∧ Below w.heap.size w w' := eorder_walk (fun w hm => Modulus_good kind_n w hm) w hm
theorem cmp_lt (x n : Int) : decide (cmpN x n < 0) = decide (x < n) := by
  unfold cmpN
  by_cases h' : x = n
  · rw [h']; simp
  · by_cases h : x < n <;> simp [h, h']
theorem cmp_le (x n : Int) : decide (cmpN x n ≤ 0) = decide (x ≤ n) := by
  unfold cmpN
  by_cases h' : x = n
  · rw [h']; simp
  · by_cases h : x < n
    · simp [h, h', Int.le_of_lt h]
    · have : ¬ x ≤ n := by omega
      simp [h, h', this]
theorem eqz6 {n : Int} (hn : Num n) {v : Bool} (e : decide (n = 0) = v) : ∀ w, (Op.equalIn 10000 24 (.agg #[.int .u64 (l0 n), .int .u64 (l1 n), .int .u64 (l2 n), .int .u64 (l3 n)]) (.agg #[.int .u64 0, .int .u64 0, .int .u64 0, .int .u64 0])).run Tryz.prog w = .ok v w := fun w => by
  have := eq_num hn (m := 0) ⟨by decide, by decide⟩ w
  obtain ⟨z0, z1, z2, z3⟩ := zero_limbs
  rw [z0, z1, z2, z3, e] at this
  exact this
def fitN (x : Int) : Bool := !decide (x = 0) && decide (x < nN)
def lowN (x : Int) : Bool := decide (x ≤ shrN nN 1)
def chkN (r s : Int) : Int := if fitN r = false then 61 else if fitN s = false then 62 else if lowN s = false then 63 else 0
theorem einside_any {x : Int} (hx : Num x) : Hid (∀ w, Mds w → Calls Tryz.prog 71 #[.agg #[.int .u64 (l0 x), .int .u64 (l1 x), .int .u64 (l2 x), .int .u64 (l3 x)]] w fun e w' => e = .returned (.bool (fitN x)) ∧ Below w.heap.size w w') := fun w hm => by
  unfold fitN
  by_cases h : x = 0
  · rw [decide_eq_true h]
    exact einside_zero (fun w => ezero_walk (eqz6 hx (decide_eq_true h)) w) w hm
  · rw [decide_eq_false h]
    exact einside_yes (fun w => ezero_walk (eqz6 hx (decide_eq_false h)) w) (fun w hm => ebelow_walk (fun w hm => eorder_any w hm) (fun w => cmp_any hx num_n w) (cmp_lt x nN) w hm) w hm
theorem num_half : Num (shrN nN 1) := ⟨by decide +kernel, by decide +kernel⟩
theorem elow_any {x : Int} (hx : Num x) : Hid (∀ w, Mds w → Calls Tryz.prog 72 #[.agg #[.int .u64 (l0 x), .int .u64 (l1 x), .int .u64 (l2 x), .int .u64 (l3 x)]] w fun e w' => e = .returned (.bool (lowN x)) ∧ Below w.heap.size w w') := fun w hm =>
  elow_walk (fun w hm => eorder_any w hm) (fun w => shr_any num_n w) (fun w => cmp_any hx num_half w) (cmp_le x _) w hm
theorem echeck_any {r s : Int} {o : Bool} (hr : Num r) (hs : Num s) : Hid (∀ w, Mds w → Calls Tryz.prog 49 #[.agg #[.int .u64 (l0 r), .int .u64 (l1 r), .int .u64 (l2 r), .int .u64 (l3 r), .int .u64 (l0 s), .int .u64 (l1 s), .int .u64 (l2 s), .int .u64 (l3 s), .bool o]] w fun e w' => e = .returned (.int .i64 (chkN r s)) ∧ Below w.heap.size w w') := fun w hm => by
  have a := einside_any hr; have b := einside_any hs; have c := elow_any hs
  unfold chkN
  cases h1 : fitN r with
  | false => rw [h1] at a; exact echeck_0 a w hm
  | true =>
    rw [h1] at a
    cases h2 : fitN s with
    | false => rw [h2] at b; exact echeck_1 a b w hm
    | true =>
      rw [h2] at b
      cases h3 : lowN s with
      | false => rw [h3] at c; exact echeck_2 a b c w hm
      | true => rw [h3] at c; exact echeck_3 a b c w hm
end Go.Proofs.YtiebnlahhmngcaaGreatDoor

namespace Go.Proofs.YtiebnlahhmngcaaGreatDoor
open Go.RowKit Go.Sort

/-- What is reckoned where the run is not 0. -/
structure LateC (z z2 c ey h r k m q n p s u v1 v2 v3 v o1 o2 : Int) : Prop where
  A11 : Hid (∀ w, Mds w → Calls Tryz.prog 47 #[.agg #[.int .u64 (l0 h), .int .u64 (l1 h), .int .u64 (l2 h), .int .u64 (l3 h)]] w fun e w' => e = .returned (.agg #[.int .u64 (l0 k), .int .u64 (l1 k), .int .u64 (l2 k), .int .u64 (l3 k)]) ∧ Below w.heap.size w w')
  A12 : Hid (∀ w, Mds w → Calls Tryz.prog 48 #[.agg #[.int .u64 (l0 k), .int .u64 (l1 k), .int .u64 (l2 k), .int .u64 (l3 k)], .agg #[.int .u64 (l0 h), .int .u64 (l1 h), .int .u64 (l2 h), .int .u64 (l3 h)]] w fun e w' => e = .returned (.agg #[.int .u64 (l0 m), .int .u64 (l1 m), .int .u64 (l2 m), .int .u64 (l3 m)]) ∧ Below w.heap.size w w')
  A13 : Hid (∀ w, Mds w → Calls Tryz.prog 48 #[.agg #[.int .u64 (l0 c), .int .u64 (l1 c), .int .u64 (l2 c), .int .u64 (l3 c)], .agg #[.int .u64 (l0 k), .int .u64 (l1 k), .int .u64 (l2 k), .int .u64 (l3 k)]] w fun e w' => e = .returned (.agg #[.int .u64 (l0 q), .int .u64 (l1 q), .int .u64 (l2 q), .int .u64 (l3 q)]) ∧ Below w.heap.size w w')
  A14 : Hid (∀ w, Mds w → Calls Tryz.prog 47 #[.agg #[.int .u64 (l0 r), .int .u64 (l1 r), .int .u64 (l2 r), .int .u64 (l3 r)]] w fun e w' => e = .returned (.agg #[.int .u64 (l0 n), .int .u64 (l1 n), .int .u64 (l2 n), .int .u64 (l3 n)]) ∧ Below w.heap.size w w')
  A15 : Hid (∀ w, Mds w → Calls Tryz.prog 65 #[.agg #[.int .u64 (l0 n), .int .u64 (l1 n), .int .u64 (l2 n), .int .u64 (l3 n)], .agg #[.int .u64 (l0 m), .int .u64 (l1 m), .int .u64 (l2 m), .int .u64 (l3 m)]] w fun e w' => e = .returned (.agg #[.int .u64 (l0 p), .int .u64 (l1 p), .int .u64 (l2 p), .int .u64 (l3 p)]) ∧ Below w.heap.size w w')
  A16 : Hid (∀ w, Mds w → Calls Tryz.prog 64 #[.agg #[.int .u64 (l0 q), .int .u64 (l1 q), .int .u64 (l2 q), .int .u64 (l3 q)]] w fun e w' => e = .returned (.agg #[.int .u64 (l0 s), .int .u64 (l1 s), .int .u64 (l2 s), .int .u64 (l3 s)]) ∧ Below w.heap.size w w')
  A17 : Hid (∀ w, Mds w → Calls Tryz.prog 65 #[.agg #[.int .u64 (l0 p), .int .u64 (l1 p), .int .u64 (l2 p), .int .u64 (l3 p)], .agg #[.int .u64 (l0 s), .int .u64 (l1 s), .int .u64 (l2 s), .int .u64 (l3 s)]] w fun e w' => e = .returned (.agg #[.int .u64 (l0 u), .int .u64 (l1 u), .int .u64 (l2 u), .int .u64 (l3 u)]) ∧ Below w.heap.size w w')
  A18 : Hid (∀ w, Mds w → Calls Tryz.prog 65 #[.agg #[.int .u64 (l0 q), .int .u64 (l1 q), .int .u64 (l2 q), .int .u64 (l3 q)], .agg #[.int .u64 (l0 u), .int .u64 (l1 u), .int .u64 (l2 u), .int .u64 (l3 u)]] w fun e w' => e = .returned (.agg #[.int .u64 (l0 v1), .int .u64 (l1 v1), .int .u64 (l2 v1), .int .u64 (l3 v1)]) ∧ Below w.heap.size w w')
  A19 : Hid (∀ w, Mds w → Calls Tryz.prog 48 #[.agg #[.int .u64 (l0 r), .int .u64 (l1 r), .int .u64 (l2 r), .int .u64 (l3 r)], .agg #[.int .u64 (l0 v1), .int .u64 (l1 v1), .int .u64 (l2 v1), .int .u64 (l3 v1)]] w fun e w' => e = .returned (.agg #[.int .u64 (l0 v2), .int .u64 (l1 v2), .int .u64 (l2 v2), .int .u64 (l3 v2)]) ∧ Below w.heap.size w w')
  A20 : Hid (∀ w, Mds w → Calls Tryz.prog 48 #[.agg #[.int .u64 (l0 ey), .int .u64 (l1 ey), .int .u64 (l2 ey), .int .u64 (l3 ey)], .agg #[.int .u64 (l0 m), .int .u64 (l1 m), .int .u64 (l2 m), .int .u64 (l3 m)]] w fun e w' => e = .returned (.agg #[.int .u64 (l0 v3), .int .u64 (l1 v3), .int .u64 (l2 v3), .int .u64 (l3 v3)]) ∧ Below w.heap.size w w')
  A21 : Hid (∀ w, Mds w → Calls Tryz.prog 65 #[.agg #[.int .u64 (l0 v2), .int .u64 (l1 v2), .int .u64 (l2 v2), .int .u64 (l3 v2)], .agg #[.int .u64 (l0 v3), .int .u64 (l1 v3), .int .u64 (l2 v3), .int .u64 (l3 v3)]] w fun e w' => e = .returned (.agg #[.int .u64 (l0 v), .int .u64 (l1 v), .int .u64 (l2 v), .int .u64 (l3 v)]) ∧ Below w.heap.size w w')
  A22 : Hid (∀ w, Mds w → Calls Tryz.prog 48 #[.agg #[.int .u64 (l0 z), .int .u64 (l1 z), .int .u64 (l2 z), .int .u64 (l3 z)], .agg #[.int .u64 (l0 z2), .int .u64 (l1 z2), .int .u64 (l2 z2), .int .u64 (l3 z2)]] w fun e w' => e = .returned (.agg #[.int .u64 (l0 o1), .int .u64 (l1 o1), .int .u64 (l2 o1), .int .u64 (l3 o1)]) ∧ Below w.heap.size w w')
  A23 : Hid (∀ w, Mds w → Calls Tryz.prog 48 #[.agg #[.int .u64 (l0 o1), .int .u64 (l1 o1), .int .u64 (l2 o1), .int .u64 (l3 o1)], .agg #[.int .u64 (l0 h), .int .u64 (l1 h), .int .u64 (l2 h), .int .u64 (l3 h)]] w fun e w' => e = .returned (.agg #[.int .u64 (l0 o2), .int .u64 (l1 o2), .int .u64 (l2 o2), .int .u64 (l3 o2)]) ∧ Below w.heap.size w w')

set_option maxRecDepth 100000 in
set_option maxHeartbeats 32000000 in
theorem cadd_walk {x y z x2 y2 z2 a b c d ey f h g j r X Y Z : Int} (C0 : Hid (∀ w, Calls Tryz.prog 45 #[.agg #[.int .u64 (l0 x), .int .u64 (l1 x), .int .u64 (l2 x), .int .u64 (l3 x), .int .u64 (l0 y), .int .u64 (l1 y), .int .u64 (l2 y), .int .u64 (l3 y), .int .u64 (l0 z), .int .u64 (l1 z), .int .u64 (l2 z), .int .u64 (l3 z)]] w fun e w' => e = .returned (.bool false) ∧ Below w.heap.size w w'))
    (C1 : Hid (∀ w, Calls Tryz.prog 45 #[.agg #[.int .u64 (l0 x2), .int .u64 (l1 x2), .int .u64 (l2 x2), .int .u64 (l3 x2), .int .u64 (l0 y2), .int .u64 (l1 y2), .int .u64 (l2 y2), .int .u64 (l3 y2), .int .u64 (l0 z2), .int .u64 (l1 z2), .int .u64 (l2 z2), .int .u64 (l3 z2)]] w fun e w' => e = .returned (.bool false) ∧ Below w.heap.size w w'))
    (A1 : Hid (∀ w, Mds w → Calls Tryz.prog 47 #[.agg #[.int .u64 (l0 z), .int .u64 (l1 z), .int .u64 (l2 z), .int .u64 (l3 z)]] w fun e w' => e = .returned (.agg #[.int .u64 (l0 a), .int .u64 (l1 a), .int .u64 (l2 a), .int .u64 (l3 a)]) ∧ Below w.heap.size w w'))
    (A2 : Hid (∀ w, Mds w → Calls Tryz.prog 47 #[.agg #[.int .u64 (l0 z2), .int .u64 (l1 z2), .int .u64 (l2 z2), .int .u64 (l3 z2)]] w fun e w' => e = .returned (.agg #[.int .u64 (l0 b), .int .u64 (l1 b), .int .u64 (l2 b), .int .u64 (l3 b)]) ∧ Below w.heap.size w w'))
    (A3 : Hid (∀ w, Mds w → Calls Tryz.prog 48 #[.agg #[.int .u64 (l0 x), .int .u64 (l1 x), .int .u64 (l2 x), .int .u64 (l3 x)], .agg #[.int .u64 (l0 b), .int .u64 (l1 b), .int .u64 (l2 b), .int .u64 (l3 b)]] w fun e w' => e = .returned (.agg #[.int .u64 (l0 c), .int .u64 (l1 c), .int .u64 (l2 c), .int .u64 (l3 c)]) ∧ Below w.heap.size w w'))
    (A4 : Hid (∀ w, Mds w → Calls Tryz.prog 48 #[.agg #[.int .u64 (l0 b), .int .u64 (l1 b), .int .u64 (l2 b), .int .u64 (l3 b)], .agg #[.int .u64 (l0 z2), .int .u64 (l1 z2), .int .u64 (l2 z2), .int .u64 (l3 z2)]] w fun e w' => e = .returned (.agg #[.int .u64 (l0 d), .int .u64 (l1 d), .int .u64 (l2 d), .int .u64 (l3 d)]) ∧ Below w.heap.size w w'))
    (A5 : Hid (∀ w, Mds w → Calls Tryz.prog 48 #[.agg #[.int .u64 (l0 y), .int .u64 (l1 y), .int .u64 (l2 y), .int .u64 (l3 y)], .agg #[.int .u64 (l0 d), .int .u64 (l1 d), .int .u64 (l2 d), .int .u64 (l3 d)]] w fun e w' => e = .returned (.agg #[.int .u64 (l0 ey), .int .u64 (l1 ey), .int .u64 (l2 ey), .int .u64 (l3 ey)]) ∧ Below w.heap.size w w'))
    (A6 : Hid (∀ w, Mds w → Calls Tryz.prog 48 #[.agg #[.int .u64 (l0 x2), .int .u64 (l1 x2), .int .u64 (l2 x2), .int .u64 (l3 x2)], .agg #[.int .u64 (l0 a), .int .u64 (l1 a), .int .u64 (l2 a), .int .u64 (l3 a)]] w fun e w' => e = .returned (.agg #[.int .u64 (l0 f), .int .u64 (l1 f), .int .u64 (l2 f), .int .u64 (l3 f)]) ∧ Below w.heap.size w w'))
    (A7 : Hid (∀ w, Mds w → Calls Tryz.prog 65 #[.agg #[.int .u64 (l0 f), .int .u64 (l1 f), .int .u64 (l2 f), .int .u64 (l3 f)], .agg #[.int .u64 (l0 c), .int .u64 (l1 c), .int .u64 (l2 c), .int .u64 (l3 c)]] w fun e w' => e = .returned (.agg #[.int .u64 (l0 h), .int .u64 (l1 h), .int .u64 (l2 h), .int .u64 (l3 h)]) ∧ Below w.heap.size w w'))
    (A8 : Hid (∀ w, Mds w → Calls Tryz.prog 48 #[.agg #[.int .u64 (l0 a), .int .u64 (l1 a), .int .u64 (l2 a), .int .u64 (l3 a)], .agg #[.int .u64 (l0 z), .int .u64 (l1 z), .int .u64 (l2 z), .int .u64 (l3 z)]] w fun e w' => e = .returned (.agg #[.int .u64 (l0 g), .int .u64 (l1 g), .int .u64 (l2 g), .int .u64 (l3 g)]) ∧ Below w.heap.size w w'))
    (A9 : Hid (∀ w, Mds w → Calls Tryz.prog 48 #[.agg #[.int .u64 (l0 y2), .int .u64 (l1 y2), .int .u64 (l2 y2), .int .u64 (l3 y2)], .agg #[.int .u64 (l0 g), .int .u64 (l1 g), .int .u64 (l2 g), .int .u64 (l3 g)]] w fun e w' => e = .returned (.agg #[.int .u64 (l0 j), .int .u64 (l1 j), .int .u64 (l2 j), .int .u64 (l3 j)]) ∧ Below w.heap.size w w'))
    (A10 : Hid (∀ w, Mds w → Calls Tryz.prog 65 #[.agg #[.int .u64 (l0 j), .int .u64 (l1 j), .int .u64 (l2 j), .int .u64 (l3 j)], .agg #[.int .u64 (l0 ey), .int .u64 (l1 ey), .int .u64 (l2 ey), .int .u64 (l3 ey)]] w fun e w' => e = .returned (.agg #[.int .u64 (l0 r), .int .u64 (l1 r), .int .u64 (l2 r), .int .u64 (l3 r)]) ∧ Below w.heap.size w w'))
    (HB : Hid (((∀ w, (Op.equalIn 10000 24 (.agg #[.int .u64 (l0 h), .int .u64 (l1 h), .int .u64 (l2 h), .int .u64 (l3 h)]) (.agg #[.int .u64 0, .int .u64 0, .int .u64 0, .int .u64 0])).run Tryz.prog w = .ok true w) ∧ Hid (∀ w, Mds w → Calls Tryz.prog 66 #[.agg #[.int .u64 (l0 x), .int .u64 (l1 x), .int .u64 (l2 x), .int .u64 (l3 x), .int .u64 (l0 y), .int .u64 (l1 y), .int .u64 (l2 y), .int .u64 (l3 y), .int .u64 (l0 z), .int .u64 (l1 z), .int .u64 (l2 z), .int .u64 (l3 z)], .agg #[.int .u64 (l0 r), .int .u64 (l1 r), .int .u64 (l2 r), .int .u64 (l3 r)]] w fun e w' => e = .returned (.agg #[.int .u64 (l0 X), .int .u64 (l1 X), .int .u64 (l2 X), .int .u64 (l3 X), .int .u64 (l0 Y), .int .u64 (l1 Y), .int .u64 (l2 Y), .int .u64 (l3 Y), .int .u64 (l0 Z), .int .u64 (l1 Z), .int .u64 (l2 Z), .int .u64 (l3 Z)]) ∧ Below w.heap.size w w')) ∨
      ((∀ w, (Op.equalIn 10000 24 (.agg #[.int .u64 (l0 h), .int .u64 (l1 h), .int .u64 (l2 h), .int .u64 (l3 h)]) (.agg #[.int .u64 0, .int .u64 0, .int .u64 0, .int .u64 0])).run Tryz.prog w = .ok false w) ∧ ∃ k m q n p s v1 v2 v3 o1, LateC z z2 c ey h r k m q n p s X v1 v2 v3 Y o1 Z)))
    (w : World) (hm : Mds w) :
    Calls Tryz.prog 41 #[.agg #[.int .u64 (l0 x), .int .u64 (l1 x), .int .u64 (l2 x), .int .u64 (l3 x), .int .u64 (l0 y), .int .u64 (l1 y), .int .u64 (l2 y), .int .u64 (l3 y), .int .u64 (l0 z), .int .u64 (l1 z), .int .u64 (l2 z), .int .u64 (l3 z)], .agg #[.int .u64 (l0 x2), .int .u64 (l1 x2), .int .u64 (l2 x2), .int .u64 (l3 x2), .int .u64 (l0 y2), .int .u64 (l1 y2), .int .u64 (l2 y2), .int .u64 (l3 y2), .int .u64 (l0 z2), .int .u64 (l1 z2), .int .u64 (l2 z2), .int .u64 (l3 z2)]] w fun e w' => e = .returned (.agg #[.int .u64 (l0 X), .int .u64 (l1 X), .int .u64 (l2 X), .int .u64 (l3 X), .int .u64 (l0 Y), .int .u64 (l1 Y), .int .u64 (l2 Y), .int .u64 (l3 Y), .int .u64 (l0 Z), .int .u64 (l1 Z), .int .u64 (l2 Z), .int .u64 (l3 Z)]) ∧ Below w.heap.size w w' := by
  have bz := build_zero
  go_enter Tryz.func41, Tryz.ntmps41
  go_wp2_with fail
  refine calls_world (fun W => Below w.heap.size w W ∧ Mds W ∧ Thr W w.heap.size x y z ∧ Thr W (w.heap.size + 1) x2 y2 z2 ∧ Bk12 W (w.heap.size + 1 + 1)) ⟨by repeat (first | with_reducible exact Below.refl _ _ | with_reducible refine Below.alloc ?_ (by first | omega | (simp; done) | (simp; omega)) _), ((hm.alloc _).alloc _).alloc _, ((Thr.new rfl).alloc _).alloc _, (Thr.new (by simp)).alloc _, Bk12.new (by simp)⟩ ?_
  rintro W ⟨B, hD, hT, hO, hR⟩
  have o3 : w.heap.size ≤ w.heap.size + 1 + 1 := by omega
  generalize w.heap.size + 1 + 1 = br at *
  generalize w.heap.size + 1 = bo at *
  with_reducible refine (C0.out _).mono ?_
  rintro e w1 ⟨rfl, hb⟩
  replace B := B.trans (hb.mono B.size)
  replace hD := hD.keep hb; replace hT := hT.keep hb; replace hO := hO.keep hb; replace hR := hR.keep hb
  clear hb W
  have ghO := hO.cells
  go_wp2_with fail
  refine calls_world (fun W => Below w.heap.size w W ∧ Mds W ∧ Thr W w.heap.size x y z ∧ Thr W bo x2 y2 z2 ∧ Bk12 W br) ⟨B, hD, hT, hO, hR⟩ ?_
  clear B hD hT hO hR ghO
  rintro W ⟨B, hD, hT, hO, hR⟩
  with_reducible refine (C1.out _).mono ?_
  rintro e w2 ⟨rfl, hb⟩
  replace B := B.trans (hb.mono B.size)
  replace hD := hD.keep hb; replace hT := hT.keep hb; replace hO := hO.keep hb; replace hR := hR.keep hb
  clear hb W
  go_wp2_with fail
  refine wp_world (fun W => Below w.heap.size w W ∧ Mds W ∧ Thr W w.heap.size x y z ∧ Thr W bo x2 y2 z2 ∧ Bk12 W br) ⟨B, hD, hT, hO, hR⟩ ?_
  clear B hD hT hO hR 
  rintro W ⟨B, hD, hT, hO, hR⟩
  refine alloc2_tail (A := ?AA1) 6 (by kernel_rfl) (by kernel_rfl) rfl rfl rfl rfl (alloc_num _ _ _) (alloc_num _ _ _) (fun V hV => ?HH1) (fun V V2 w1 hV hw hV2 hw2 hdd => ?TT1)
  case HH1 =>
    have hDg : ∀ d os, Mds (grow (redrawn V d) os) := fun d os => (hD.keep hV).keep (below_regrown V d os)
    have ghT := (hT.keep hV).grown
    have ghO := (hO.keep hV).grown
    unfold Gr
    simp only [List.take_succ_cons, List.take_zero]
    repeat
      first
        | go_big_quiet_skip
        | (go_big_quiet_want; go_big_quiet_op; go_big_quiet_on)
        | (go_big_quiet_want
           go_big_quiet_op
           apply Exists.intro
           refine ⟨fun p => ?_, ?_⟩
           · (first | (go_at_call 47; with_reducible exact Calls.regrown_of (A1.out _ (hDg p.d p.os))) | (go_at_call 47; with_reducible exact Calls.regrown_of (A2.out _ (hDg p.d p.os))))
           go_big_quiet_on)
    refine wpQuiet_nil ?_
    exact rfl
  case TT1 =>
    have hb := alloc_below hV hw
    have hN := (Blank.new rfl).keep hw
    have hM := (Blank.new rfl).keep hw2
    have nhD : V.heap.size ≠ 2 := Nat.ne_of_gt (Nat.lt_of_lt_of_le (hD.lt) hV.size)
    have nhT : V.heap.size ≠ w.heap.size := Nat.ne_of_gt (Nat.lt_of_lt_of_le (hT.lt) hV.size)
    have nhO : V.heap.size ≠ bo := Nat.ne_of_gt (Nat.lt_of_lt_of_le (hO.lt) hV.size)
    have nhR : V.heap.size ≠ br := Nat.ne_of_gt (Nat.lt_of_lt_of_le (hR.lt) hV.size)
    have khD : V2.heap.size ≠ 2 := Nat.ne_of_gt (Nat.lt_of_lt_of_le (hD.lt) hV2.size)
    have khT : V2.heap.size ≠ w.heap.size := Nat.ne_of_gt (Nat.lt_of_lt_of_le (hT.lt) hV2.size)
    have khO : V2.heap.size ≠ bo := Nat.ne_of_gt (Nat.lt_of_lt_of_le (hO.lt) hV2.size)
    have khR : V2.heap.size ≠ br := Nat.ne_of_gt (Nat.lt_of_lt_of_le (hR.lt) hV2.size)
    have gn : w.heap.size ≤ V.heap.size := Nat.le_trans B.size hV.size
    have gm : w.heap.size ≤ V2.heap.size := Nat.le_trans B.size hV2.size
    have hdd2 := hdd.symm
    replace B := B.trans (hb.mono B.size)
    replace hD := hD.keep hb; replace hT := hT.keep hb; replace hO := hO.keep hb; replace hR := hR.keep hb
    clear hb hw hV hw2 hV2 W
    generalize V.heap.size = ba at *
    generalize V2.heap.size = bb at *
    clear V V2
    have gN := hN.1.all4; have qN := hN.2.all4
    have gM := hM.1.all4; have qM := hM.2.all4
    have mhD := nhD.symm
    have lhD := khD.symm
    have mhT := nhT.symm
    have lhT := khT.symm
    have mhO := nhO.symm
    have lhO := khO.symm
    have mhR := nhR.symm
    have lhR := khR.symm
    simp only [List.drop_succ_cons, List.drop_zero, Act.put, List.setIfInBounds_toArray, List.set_cons_zero, List.set_cons_succ]
    go_wp2_with fail
    refine wp_world (fun W => Below w.heap.size w W ∧ Mds W ∧ Thr W w.heap.size x y z ∧ Thr W bo x2 y2 z2 ∧ Bk12 W br ∧ Hold W ba a ∧ Hold W bb b) ⟨below_set4 (below_set4 B gn _ _ _ _) gm _ _ _ _, (hD.set4 nhD _ _ _ _).set4 khD _ _ _ _, (hT.set4 nhT _ _ _ _).set4 khT _ _ _ _, (hO.set4 nhO _ _ _ _).set4 khO _ _ _ _, (hR.set4 nhR _ _ _ _).set4 khR _ _ _ _, (Hold.sets4 (Blank.has hN)).set4 hdd2 _ _ _ _, Hold.sets4 (Blank.has (hM.set4 hdd _ _ _ _))⟩ ?_
    clear B hN gN qN hM gM qM hdd hdd2 hD hT hO hR nhD mhD khD lhD nhT mhT khT lhT nhO mhO khO lhO nhR mhR khR lhR  gn gm
    rintro W ⟨B, hD, hT, hO, hR, hA, hB⟩
    clear w1
    refine alloc2_tail (A := ?AA2) 11 (by kernel_rfl) (by kernel_rfl) rfl rfl rfl rfl (alloc_num _ _ _) (alloc_num _ _ _) (fun V hV => ?HH2) (fun V V2 w1 hV hw hV2 hw2 hdd => ?TT2)
    case HH2 =>
      have hDg : ∀ d os, Mds (grow (redrawn V d) os) := fun d os => (hD.keep hV).keep (below_regrown V d os)
      have ghT := (hT.keep hV).grown
      have ghO := (hO.keep hV).grown
      have ghB := (hB.keep hV).grown
      unfold Gr
      simp only [List.take_succ_cons, List.take_zero]
      repeat
        first
          | go_big_quiet_skip
          | (go_big_quiet_want; go_big_quiet_op; go_big_quiet_on)
          | (go_big_quiet_want
             go_big_quiet_op
             apply Exists.intro
             refine ⟨fun p => ?_, ?_⟩
             · (first | (go_at_call 48; with_reducible exact Calls.regrown_of (A3.out _ (hDg p.d p.os))) | (go_at_call 48; with_reducible exact Calls.regrown_of (A4.out _ (hDg p.d p.os))) | (go_at_call 48; with_reducible exact Calls.regrown_of (A5.out _ (hDg p.d p.os))))
             go_big_quiet_on)
      refine wpQuiet_nil ?_
      exact rfl
    case TT2 =>
      have hb := alloc_below hV hw
      have hN := (Blank.new rfl).keep hw
      have hM := (Blank.new rfl).keep hw2
      have nhD : V.heap.size ≠ 2 := Nat.ne_of_gt (Nat.lt_of_lt_of_le (hD.lt) hV.size)
      have nhT : V.heap.size ≠ w.heap.size := Nat.ne_of_gt (Nat.lt_of_lt_of_le (hT.lt) hV.size)
      have nhO : V.heap.size ≠ bo := Nat.ne_of_gt (Nat.lt_of_lt_of_le (hO.lt) hV.size)
      have nhR : V.heap.size ≠ br := Nat.ne_of_gt (Nat.lt_of_lt_of_le (hR.lt) hV.size)
      have nhA : V.heap.size ≠ ba := Nat.ne_of_gt (Nat.lt_of_lt_of_le (World.block_lt_of_cell? _ _ hA.1) hV.size)
      have nhB : V.heap.size ≠ bb := Nat.ne_of_gt (Nat.lt_of_lt_of_le (World.block_lt_of_cell? _ _ hB.1) hV.size)
      have khD : V2.heap.size ≠ 2 := Nat.ne_of_gt (Nat.lt_of_lt_of_le (hD.lt) hV2.size)
      have khT : V2.heap.size ≠ w.heap.size := Nat.ne_of_gt (Nat.lt_of_lt_of_le (hT.lt) hV2.size)
      have khO : V2.heap.size ≠ bo := Nat.ne_of_gt (Nat.lt_of_lt_of_le (hO.lt) hV2.size)
      have khR : V2.heap.size ≠ br := Nat.ne_of_gt (Nat.lt_of_lt_of_le (hR.lt) hV2.size)
      have khA : V2.heap.size ≠ ba := Nat.ne_of_gt (Nat.lt_of_lt_of_le (World.block_lt_of_cell? _ _ hA.1) hV2.size)
      have khB : V2.heap.size ≠ bb := Nat.ne_of_gt (Nat.lt_of_lt_of_le (World.block_lt_of_cell? _ _ hB.1) hV2.size)
      have gn : w.heap.size ≤ V.heap.size := Nat.le_trans B.size hV.size
      have gm : w.heap.size ≤ V2.heap.size := Nat.le_trans B.size hV2.size
      have hdd2 := hdd.symm
      replace B := B.trans (hb.mono B.size)
      replace hD := hD.keep hb; replace hT := hT.keep hb; replace hO := hO.keep hb; replace hR := hR.keep hb; replace hA := hA.keep hb; replace hB := hB.keep hb
      clear hb hw hV hw2 hV2 W
      generalize V.heap.size = bc at *
      generalize V2.heap.size = be at *
      clear V V2
      have gN := hN.1.all4; have qN := hN.2.all4
      have gM := hM.1.all4; have qM := hM.2.all4
      have mhD := nhD.symm
      have lhD := khD.symm
      have mhT := nhT.symm
      have lhT := khT.symm
      have mhO := nhO.symm
      have lhO := khO.symm
      have mhR := nhR.symm
      have lhR := khR.symm
      have mhA := nhA.symm
      have lhA := khA.symm
      have mhB := nhB.symm
      have lhB := khB.symm
      simp only [List.drop_succ_cons, List.drop_zero, Act.put, List.setIfInBounds_toArray, List.set_cons_zero, List.set_cons_succ]
      go_wp2_with fail
      refine wp_world (fun W => Below w.heap.size w W ∧ Mds W ∧ Thr W w.heap.size x y z ∧ Thr W bo x2 y2 z2 ∧ Bk12 W br ∧ Hold W ba a ∧ Hold W bb b ∧ Hold W bc c ∧ Hold W be ey) ⟨below_set4 (below_set4 B gn _ _ _ _) gm _ _ _ _, (hD.set4 nhD _ _ _ _).set4 khD _ _ _ _, (hT.set4 nhT _ _ _ _).set4 khT _ _ _ _, (hO.set4 nhO _ _ _ _).set4 khO _ _ _ _, (hR.set4 nhR _ _ _ _).set4 khR _ _ _ _, (hA.set4 nhA _ _ _ _).set4 khA _ _ _ _, (hB.set4 nhB _ _ _ _).set4 khB _ _ _ _, (Hold.sets4 (Blank.has hN)).set4 hdd2 _ _ _ _, Hold.sets4 (Blank.has (hM.set4 hdd _ _ _ _))⟩ ?_
      clear B hN gN qN hM gM qM hdd hdd2 hD hT hO hR hA hB nhD mhD khD lhD nhT mhT khT lhT nhO mhO khO lhO nhR mhR khR lhR nhA mhA khA lhA nhB mhB khB lhB  gn gm
      rintro W ⟨B, hD, hT, hO, hR, hA, hB, hC, hE⟩
      clear w1
      clear hB
      refine alloc_tail (A := ?AA3) 6 (by kernel_rfl) (by kernel_rfl) rfl rfl (alloc_num _ _ _) (fun V hV => ?HH3) (fun V w1 hV hw => ?TT3)
      case HH3 =>
        have hDg : ∀ d os, Mds (grow (redrawn V d) os) := fun d os => (hD.keep hV).keep (below_regrown V d os)
        have ghO := (hO.keep hV).grown
        have ghA := (hA.keep hV).grown
        have ghC := (hC.keep hV).grown
        unfold Gr
        simp only [List.take_succ_cons, List.take_zero]
        repeat
          first
            | go_big_quiet_skip
            | (go_big_quiet_want; go_big_quiet_op; go_big_quiet_on)
            | (go_big_quiet_want
               go_big_quiet_op
               apply Exists.intro
               refine ⟨fun p => ?_, ?_⟩
               · (first | (go_at_call 48; with_reducible exact Calls.regrown_of (A6.out _ (hDg p.d p.os))) | (go_at_call 65; with_reducible exact Calls.regrown_of (A7.out _ (hDg p.d p.os))))
               go_big_quiet_on)
        refine wpQuiet_nil ?_
        exact rfl
      case TT3 =>
        have hb := alloc_below hV hw
        have hN := (Blank.new rfl).keep hw
        have nhD : V.heap.size ≠ 2 := Nat.ne_of_gt (Nat.lt_of_lt_of_le (hD.lt) hV.size)
        have nhT : V.heap.size ≠ w.heap.size := Nat.ne_of_gt (Nat.lt_of_lt_of_le (hT.lt) hV.size)
        have nhO : V.heap.size ≠ bo := Nat.ne_of_gt (Nat.lt_of_lt_of_le (hO.lt) hV.size)
        have nhR : V.heap.size ≠ br := Nat.ne_of_gt (Nat.lt_of_lt_of_le (hR.lt) hV.size)
        have nhA : V.heap.size ≠ ba := Nat.ne_of_gt (Nat.lt_of_lt_of_le (World.block_lt_of_cell? _ _ hA.1) hV.size)
        have nhC : V.heap.size ≠ bc := Nat.ne_of_gt (Nat.lt_of_lt_of_le (World.block_lt_of_cell? _ _ hC.1) hV.size)
        have nhE : V.heap.size ≠ be := Nat.ne_of_gt (Nat.lt_of_lt_of_le (World.block_lt_of_cell? _ _ hE.1) hV.size)
        have gn : w.heap.size ≤ V.heap.size := Nat.le_trans B.size hV.size
        replace B := B.trans (hb.mono B.size)
        replace hD := hD.keep hb; replace hT := hT.keep hb; replace hO := hO.keep hb; replace hR := hR.keep hb; replace hA := hA.keep hb; replace hC := hC.keep hb; replace hE := hE.keep hb
        clear hb hw hV W
        generalize V.heap.size = bh at *
        clear V
        have gN := hN.1.all4; have qN := hN.2.all4
        have mhD := nhD.symm
        have mhT := nhT.symm
        have mhO := nhO.symm
        have mhR := nhR.symm
        have mhA := nhA.symm
        have mhC := nhC.symm
        have mhE := nhE.symm
        simp only [List.drop_succ_cons, List.drop_zero, Act.put, List.setIfInBounds_toArray, List.set_cons_zero, List.set_cons_succ]
        go_wp2_with fail
        refine wp_world (fun W => Below w.heap.size w W ∧ Mds W ∧ Thr W w.heap.size x y z ∧ Thr W bo x2 y2 z2 ∧ Bk12 W br ∧ Hold W ba a ∧ Hold W bc c ∧ Hold W be ey ∧ Hold W bh h) ⟨below_set4 B gn _ _ _ _, hD.set4 nhD _ _ _ _, hT.set4 nhT _ _ _ _, hO.set4 nhO _ _ _ _, hR.set4 nhR _ _ _ _, hA.set4 nhA _ _ _ _, hC.set4 nhC _ _ _ _, hE.set4 nhE _ _ _ _, Hold.sets4 (Blank.has hN)⟩ ?_
        clear B hN gN qN hD hT hO hR hA hC hE nhD mhD nhT mhT nhO mhO nhR mhR nhA mhA nhC mhC nhE mhE  gn
        rintro W ⟨B, hD, hT, hO, hR, hA, hC, hE, hH⟩
        clear w1
        clear C0 C1 A1 A2 A3 A4 A5 A6 A7
        rcases HB.out with ⟨he, CS⟩ | ⟨he, k, m, q, n, p, s, v1, v2, v3, o1, L⟩
        · clear HB
          refine alloc_tail (A := ?AA4) 9 (by kernel_rfl) (by kernel_rfl) rfl rfl (alloc_num _ _ _) (fun V hV => ?HH4) (fun V w1 hV hw => ?TT4)
          case HH4 =>
            have hDg : ∀ d os, Mds (grow (redrawn V d) os) := fun d os => (hD.keep hV).keep (below_regrown V d os)
            have ghT := (hT.keep hV).grown
            have ghO := (hO.keep hV).grown
            have ghA := (hA.keep hV).grown
            have ghE := (hE.keep hV).grown
            unfold Gr
            simp only [List.take_succ_cons, List.take_zero]
            repeat
              first
                | go_big_quiet_skip
                | (go_big_quiet_want; go_big_quiet_op; go_big_quiet_on)
                | (go_big_quiet_want
                   go_big_quiet_op
                   apply Exists.intro
                   refine ⟨fun p => ?_, ?_⟩
                   · (first | (go_at_call 48; with_reducible exact Calls.regrown_of (A8.out _ (hDg p.d p.os))) | (go_at_call 48; with_reducible exact Calls.regrown_of (A9.out _ (hDg p.d p.os))) | (go_at_call 65; with_reducible exact Calls.regrown_of (A10.out _ (hDg p.d p.os))))
                   go_big_quiet_on)
            refine wpQuiet_nil ?_
            exact rfl
          case TT4 =>
            have hb := alloc_below hV hw
            have hN := (Blank.new rfl).keep hw
            have nhD : V.heap.size ≠ 2 := Nat.ne_of_gt (Nat.lt_of_lt_of_le (hD.lt) hV.size)
            have nhT : V.heap.size ≠ w.heap.size := Nat.ne_of_gt (Nat.lt_of_lt_of_le (hT.lt) hV.size)
            have nhO : V.heap.size ≠ bo := Nat.ne_of_gt (Nat.lt_of_lt_of_le (hO.lt) hV.size)
            have nhR : V.heap.size ≠ br := Nat.ne_of_gt (Nat.lt_of_lt_of_le (hR.lt) hV.size)
            have nhA : V.heap.size ≠ ba := Nat.ne_of_gt (Nat.lt_of_lt_of_le (World.block_lt_of_cell? _ _ hA.1) hV.size)
            have nhC : V.heap.size ≠ bc := Nat.ne_of_gt (Nat.lt_of_lt_of_le (World.block_lt_of_cell? _ _ hC.1) hV.size)
            have nhE : V.heap.size ≠ be := Nat.ne_of_gt (Nat.lt_of_lt_of_le (World.block_lt_of_cell? _ _ hE.1) hV.size)
            have nhH : V.heap.size ≠ bh := Nat.ne_of_gt (Nat.lt_of_lt_of_le (World.block_lt_of_cell? _ _ hH.1) hV.size)
            have gn : w.heap.size ≤ V.heap.size := Nat.le_trans B.size hV.size
            replace B := B.trans (hb.mono B.size)
            replace hD := hD.keep hb; replace hT := hT.keep hb; replace hO := hO.keep hb; replace hR := hR.keep hb; replace hA := hA.keep hb; replace hC := hC.keep hb; replace hE := hE.keep hb; replace hH := hH.keep hb
            clear hb hw hV W
            generalize V.heap.size = bg at *
            clear V
            have gN := hN.1.all4; have qN := hN.2.all4
            have ghT := hT.cells
            have ghH := hH.cells
            have mhD := nhD.symm
            have mhT := nhT.symm
            have mhO := nhO.symm
            have mhR := nhR.symm
            have mhA := nhA.symm
            have mhC := nhC.symm
            have mhE := nhE.symm
            have mhH := nhH.symm
            simp only [List.drop_succ_cons, List.drop_zero, Act.put, List.setIfInBounds_toArray, List.set_cons_zero, List.set_cons_succ]
            go_wp2_with fail
            refine calls_world (fun W => Below w.heap.size w W ∧ Mds W ∧ Thr W w.heap.size x y z ∧ Thr W bo x2 y2 z2 ∧ Bk12 W br ∧ Hold W ba a ∧ Hold W bc c ∧ Hold W be ey ∧ Hold W bh h ∧ Hold W bg r) ⟨below_set4 B gn _ _ _ _, hD.set4 nhD _ _ _ _, hT.set4 nhT _ _ _ _, hO.set4 nhO _ _ _ _, hR.set4 nhR _ _ _ _, hA.set4 nhA _ _ _ _, hC.set4 nhC _ _ _ _, hE.set4 nhE _ _ _ _, hH.set4 nhH _ _ _ _, Hold.sets4 (Blank.has hN)⟩ ?_
            clear B hN gN qN hD hT hO hR hA hC hE hH nhD mhD nhT mhT nhO mhO nhR mhR nhA mhA nhC mhC nhE mhE nhH mhH ghT ghH gn
            rintro W ⟨B, hD, hT, hO, hR, hA, hC, hE, hH, hG⟩
            clear w1
            with_reducible refine (CS.out _ hD).mono ?_
            rintro e w9 ⟨rfl, hb⟩
            replace B := B.trans (hb.mono B.size)
            replace hD := hD.keep hb; replace hT := hT.keep hb; replace hO := hO.keep hb; replace hR := hR.keep hb; replace hA := hA.keep hb; replace hC := hC.keep hb; replace hE := hE.keep hb; replace hH := hH.keep hb; replace hG := hG.keep hb
            clear hb W hD hT hO hA hC hE hH hG
            have gR := hR.cells; have fR := hR.free
            go_wp2
            simp [bodyPost, results, Tryz.results41, go_sem, gR]
            repeat (first | with_reducible exact B | with_reducible refine Below.setCell ?_ o3 _)
        · clear HB
          obtain ⟨A11, A12, A13, A14, A15, A16, A17, A18, A19, A20, A21, A22, A23⟩ := L
          refine alloc_tail (A := ?AA5) 9 (by kernel_rfl) (by kernel_rfl) rfl rfl (alloc_num _ _ _) (fun V hV => ?HH5) (fun V w1 hV hw => ?TT5)
          case HH5 =>
            have hDg : ∀ d os, Mds (grow (redrawn V d) os) := fun d os => (hD.keep hV).keep (below_regrown V d os)
            have ghT := (hT.keep hV).grown
            have ghO := (hO.keep hV).grown
            have ghA := (hA.keep hV).grown
            have ghE := (hE.keep hV).grown
            unfold Gr
            simp only [List.take_succ_cons, List.take_zero]
            repeat
              first
                | go_big_quiet_skip
                | (go_big_quiet_want; go_big_quiet_op; go_big_quiet_on)
                | (go_big_quiet_want
                   go_big_quiet_op
                   apply Exists.intro
                   refine ⟨fun p => ?_, ?_⟩
                   · (first | (go_at_call 48; with_reducible exact Calls.regrown_of (A8.out _ (hDg p.d p.os))) | (go_at_call 48; with_reducible exact Calls.regrown_of (A9.out _ (hDg p.d p.os))) | (go_at_call 65; with_reducible exact Calls.regrown_of (A10.out _ (hDg p.d p.os))))
                   go_big_quiet_on)
            refine wpQuiet_nil ?_
            exact rfl
          case TT5 =>
            have hb := alloc_below hV hw
            have hN := (Blank.new rfl).keep hw
            have nhD : V.heap.size ≠ 2 := Nat.ne_of_gt (Nat.lt_of_lt_of_le (hD.lt) hV.size)
            have nhT : V.heap.size ≠ w.heap.size := Nat.ne_of_gt (Nat.lt_of_lt_of_le (hT.lt) hV.size)
            have nhO : V.heap.size ≠ bo := Nat.ne_of_gt (Nat.lt_of_lt_of_le (hO.lt) hV.size)
            have nhR : V.heap.size ≠ br := Nat.ne_of_gt (Nat.lt_of_lt_of_le (hR.lt) hV.size)
            have nhA : V.heap.size ≠ ba := Nat.ne_of_gt (Nat.lt_of_lt_of_le (World.block_lt_of_cell? _ _ hA.1) hV.size)
            have nhC : V.heap.size ≠ bc := Nat.ne_of_gt (Nat.lt_of_lt_of_le (World.block_lt_of_cell? _ _ hC.1) hV.size)
            have nhE : V.heap.size ≠ be := Nat.ne_of_gt (Nat.lt_of_lt_of_le (World.block_lt_of_cell? _ _ hE.1) hV.size)
            have nhH : V.heap.size ≠ bh := Nat.ne_of_gt (Nat.lt_of_lt_of_le (World.block_lt_of_cell? _ _ hH.1) hV.size)
            have gn : w.heap.size ≤ V.heap.size := Nat.le_trans B.size hV.size
            replace B := B.trans (hb.mono B.size)
            replace hD := hD.keep hb; replace hT := hT.keep hb; replace hO := hO.keep hb; replace hR := hR.keep hb; replace hA := hA.keep hb; replace hC := hC.keep hb; replace hE := hE.keep hb; replace hH := hH.keep hb
            clear hb hw hV W
            generalize V.heap.size = bg at *
            clear V
            have gN := hN.1.all4; have qN := hN.2.all4
            have ghH := hH.cells
            have mhD := nhD.symm
            have mhT := nhT.symm
            have mhO := nhO.symm
            have mhR := nhR.symm
            have mhA := nhA.symm
            have mhC := nhC.symm
            have mhE := nhE.symm
            have mhH := nhH.symm
            simp only [List.drop_succ_cons, List.drop_zero, Act.put, List.setIfInBounds_toArray, List.set_cons_zero, List.set_cons_succ]
            go_wp2_with fail
            refine calls_world (fun W => Below w.heap.size w W ∧ Mds W ∧ Thr W w.heap.size x y z ∧ Thr W bo x2 y2 z2 ∧ Bk12 W br ∧ Hold W ba a ∧ Hold W bc c ∧ Hold W be ey ∧ Hold W bh h ∧ Hold W bg r) ⟨below_set4 B gn _ _ _ _, hD.set4 nhD _ _ _ _, hT.set4 nhT _ _ _ _, hO.set4 nhO _ _ _ _, hR.set4 nhR _ _ _ _, hA.set4 nhA _ _ _ _, hC.set4 nhC _ _ _ _, hE.set4 nhE _ _ _ _, hH.set4 nhH _ _ _ _, Hold.sets4 (Blank.has hN)⟩ ?_
            clear B hN gN qN hD hT hO hR hA hC hE hH nhD mhD nhT mhT nhO mhO nhR mhR nhA mhA nhC mhC nhE mhE nhH mhH ghH gn
            rintro W ⟨B, hD, hT, hO, hR, hA, hC, hE, hH, hG⟩
            clear w1
            clear hA
            with_reducible refine (A11.out _ hD).mono ?_
            rintro e w3 ⟨rfl, hb⟩
            replace B := B.trans (hb.mono B.size)
            replace hD := hD.keep hb; replace hT := hT.keep hb; replace hO := hO.keep hb; replace hR := hR.keep hb; replace hC := hC.keep hb; replace hE := hE.keep hb; replace hH := hH.keep hb; replace hG := hG.keep hb
            clear hb W
            have ghH := hH.allocs
            go_wp2_with fail
            refine calls_world (fun W => Below w.heap.size w W ∧ Mds W ∧ Thr W w.heap.size x y z ∧ Thr W bo x2 y2 z2 ∧ Bk12 W br ∧ Hold W bc c ∧ Hold W be ey ∧ Hold W bh h ∧ Hold W bg r ∧ Hold W w3.heap.size k) ⟨B.alloc B.size _, hD.alloc _, hT.alloc _, hO.alloc _, hR.alloc _, hC.alloc _, hE.alloc _, hH.alloc _, hG.alloc _, Hold.new _ _ _⟩ ?_
            clear B hD hT hO hR hC hE hH hG ghH
            rintro W ⟨B, hD, hT, hO, hR, hC, hE, hH, hG, hK⟩
            generalize w3.heap.size = bk at *
            with_reducible refine (A12.out _ hD).mono ?_
            rintro e w4 ⟨rfl, hb⟩
            replace B := B.trans (hb.mono B.size)
            replace hD := hD.keep hb; replace hT := hT.keep hb; replace hO := hO.keep hb; replace hR := hR.keep hb; replace hC := hC.keep hb; replace hE := hE.keep hb; replace hH := hH.keep hb; replace hG := hG.keep hb; replace hK := hK.keep hb
            clear hb W
            have ghC := hC.allocs
            have ghK := hK.allocs
            go_wp2_with fail
            refine calls_world (fun W => Below w.heap.size w W ∧ Mds W ∧ Thr W w.heap.size x y z ∧ Thr W bo x2 y2 z2 ∧ Bk12 W br ∧ Hold W bc c ∧ Hold W be ey ∧ Hold W bh h ∧ Hold W bg r ∧ Hold W bk k ∧ Hold W w4.heap.size m) ⟨B.alloc B.size _, hD.alloc _, hT.alloc _, hO.alloc _, hR.alloc _, hC.alloc _, hE.alloc _, hH.alloc _, hG.alloc _, hK.alloc _, Hold.new _ _ _⟩ ?_
            clear B hD hT hO hR hC hE hH hG hK ghC ghK
            rintro W ⟨B, hD, hT, hO, hR, hC, hE, hH, hG, hK, hM1⟩
            generalize w4.heap.size = bm at *
            with_reducible refine (A13.out _ hD).mono ?_
            rintro e w5 ⟨rfl, hb⟩
            replace B := B.trans (hb.mono B.size)
            replace hD := hD.keep hb; replace hT := hT.keep hb; replace hO := hO.keep hb; replace hR := hR.keep hb; replace hC := hC.keep hb; replace hE := hE.keep hb; replace hH := hH.keep hb; replace hG := hG.keep hb; replace hK := hK.keep hb; replace hM1 := hM1.keep hb
            clear hb W
            go_wp2_with fail
            refine wp_world (fun W => Below w.heap.size w W ∧ Mds W ∧ Thr W w.heap.size x y z ∧ Thr W bo x2 y2 z2 ∧ Bk12 W br ∧ Hold W bc c ∧ Hold W be ey ∧ Hold W bh h ∧ Hold W bg r ∧ Hold W bk k ∧ Hold W bm m ∧ Hold W w5.heap.size q) ⟨B.alloc B.size _, hD.alloc _, hT.alloc _, hO.alloc _, hR.alloc _, hC.alloc _, hE.alloc _, hH.alloc _, hG.alloc _, hK.alloc _, hM1.alloc _, Hold.new _ _ _⟩ ?_
            clear B hD hT hO hR hC hE hH hG hK hM1 
            rintro W ⟨B, hD, hT, hO, hR, hC, hE, hH, hG, hK, hM1, hQ⟩
            generalize w5.heap.size = bq at *
            clear hK hC
            refine alloc_tail (A := ?AA6) 7 (by kernel_rfl) (by kernel_rfl) rfl rfl (alloc_num _ _ _) (fun V hV => ?HH6) (fun V w1 hV hw => ?TT6)
            case HH6 =>
              have hDg : ∀ d os, Mds (grow (redrawn V d) os) := fun d os => (hD.keep hV).keep (below_regrown V d os)
              have ghG := (hG.keep hV).grown
              have ghM1 := (hM1.keep hV).grown
              have ghQ := (hQ.keep hV).grown
              unfold Gr
              simp only [List.take_succ_cons, List.take_zero]
              repeat
                first
                  | go_big_quiet_skip
                  | (go_big_quiet_want; go_big_quiet_op; go_big_quiet_on)
                  | (go_big_quiet_want
                     go_big_quiet_op
                     apply Exists.intro
                     refine ⟨fun p => ?_, ?_⟩
                     · (first | (go_at_call 47; with_reducible exact Calls.regrown_of (A14.out _ (hDg p.d p.os))) | (go_at_call 65; with_reducible exact Calls.regrown_of (A15.out _ (hDg p.d p.os))) | (go_at_call 64; with_reducible exact Calls.regrown_of (A16.out _ (hDg p.d p.os))) | (go_at_call 65; with_reducible exact Calls.regrown_of (A17.out _ (hDg p.d p.os))))
                     go_big_quiet_on)
              refine wpQuiet_nil ?_
              exact rfl
            case TT6 =>
              have hb := alloc_below hV hw
              have hN := (Blank.new rfl).keep hw
              have nhD : V.heap.size ≠ 2 := Nat.ne_of_gt (Nat.lt_of_lt_of_le (hD.lt) hV.size)
              have nhT : V.heap.size ≠ w.heap.size := Nat.ne_of_gt (Nat.lt_of_lt_of_le (hT.lt) hV.size)
              have nhO : V.heap.size ≠ bo := Nat.ne_of_gt (Nat.lt_of_lt_of_le (hO.lt) hV.size)
              have nhR : V.heap.size ≠ br := Nat.ne_of_gt (Nat.lt_of_lt_of_le (hR.lt) hV.size)
              have nhE : V.heap.size ≠ be := Nat.ne_of_gt (Nat.lt_of_lt_of_le (World.block_lt_of_cell? _ _ hE.1) hV.size)
              have nhH : V.heap.size ≠ bh := Nat.ne_of_gt (Nat.lt_of_lt_of_le (World.block_lt_of_cell? _ _ hH.1) hV.size)
              have nhG : V.heap.size ≠ bg := Nat.ne_of_gt (Nat.lt_of_lt_of_le (World.block_lt_of_cell? _ _ hG.1) hV.size)
              have nhM1 : V.heap.size ≠ bm := Nat.ne_of_gt (Nat.lt_of_lt_of_le (World.block_lt_of_cell? _ _ hM1.1) hV.size)
              have nhQ : V.heap.size ≠ bq := Nat.ne_of_gt (Nat.lt_of_lt_of_le (World.block_lt_of_cell? _ _ hQ.1) hV.size)
              have gn : w.heap.size ≤ V.heap.size := Nat.le_trans B.size hV.size
              replace B := B.trans (hb.mono B.size)
              replace hD := hD.keep hb; replace hT := hT.keep hb; replace hO := hO.keep hb; replace hR := hR.keep hb; replace hE := hE.keep hb; replace hH := hH.keep hb; replace hG := hG.keep hb; replace hM1 := hM1.keep hb; replace hQ := hQ.keep hb
              clear hb hw hV W
              generalize V.heap.size = bu at *
              clear V
              have gN := hN.1.all4; have qN := hN.2.all4
              have mhD := nhD.symm
              have mhT := nhT.symm
              have mhO := nhO.symm
              have mhR := nhR.symm
              have mhE := nhE.symm
              have mhH := nhH.symm
              have mhG := nhG.symm
              have mhM1 := nhM1.symm
              have mhQ := nhQ.symm
              simp only [List.drop_succ_cons, List.drop_zero, Act.put, List.setIfInBounds_toArray, List.set_cons_zero, List.set_cons_succ]
              go_wp2_with fail
              refine wp_world (fun W => Below w.heap.size w W ∧ Mds W ∧ Thr W w.heap.size x y z ∧ Thr W bo x2 y2 z2 ∧ Bk12 W br ∧ Hold W be ey ∧ Hold W bh h ∧ Hold W bg r ∧ Hold W bm m ∧ Hold W bq q ∧ Hold W bu X) ⟨below_set4 B gn _ _ _ _, hD.set4 nhD _ _ _ _, hT.set4 nhT _ _ _ _, hO.set4 nhO _ _ _ _, hR.set4 nhR _ _ _ _, hE.set4 nhE _ _ _ _, hH.set4 nhH _ _ _ _, hG.set4 nhG _ _ _ _, hM1.set4 nhM1 _ _ _ _, hQ.set4 nhQ _ _ _ _, Hold.sets4 (Blank.has hN)⟩ ?_
              clear B hN gN qN hD hT hO hR hE hH hG hM1 hQ nhD mhD nhT mhT nhO mhO nhR mhR nhE mhE nhH mhH nhG mhG nhM1 mhM1 nhQ mhQ  gn
              rintro W ⟨B, hD, hT, hO, hR, hE, hH, hG, hM1, hQ, hU⟩
              clear w1
              refine alloc_tail (A := ?AA7) 9 (by kernel_rfl) (by kernel_rfl) rfl rfl (alloc_num _ _ _) (fun V hV => ?HH7) (fun V w1 hV hw => ?TT7)
              case HH7 =>
                have hDg : ∀ d os, Mds (grow (redrawn V d) os) := fun d os => (hD.keep hV).keep (below_regrown V d os)
                have ghE := (hE.keep hV).grown
                have ghG := (hG.keep hV).grown
                have ghM1 := (hM1.keep hV).grown
                have ghQ := (hQ.keep hV).grown
                have ghU := (hU.keep hV).grown
                unfold Gr
                simp only [List.take_succ_cons, List.take_zero]
                repeat
                  first
                    | go_big_quiet_skip
                    | (go_big_quiet_want; go_big_quiet_op; go_big_quiet_on)
                    | (go_big_quiet_want
                       go_big_quiet_op
                       apply Exists.intro
                       refine ⟨fun p => ?_, ?_⟩
                       · (first | (go_at_call 65; with_reducible exact Calls.regrown_of (A18.out _ (hDg p.d p.os))) | (go_at_call 48; with_reducible exact Calls.regrown_of (A19.out _ (hDg p.d p.os))) | (go_at_call 48; with_reducible exact Calls.regrown_of (A20.out _ (hDg p.d p.os))) | (go_at_call 65; with_reducible exact Calls.regrown_of (A21.out _ (hDg p.d p.os))))
                       go_big_quiet_on)
                refine wpQuiet_nil ?_
                exact rfl
              case TT7 =>
                have hb := alloc_below hV hw
                have hN := (Blank.new rfl).keep hw
                have nhD : V.heap.size ≠ 2 := Nat.ne_of_gt (Nat.lt_of_lt_of_le (hD.lt) hV.size)
                have nhT : V.heap.size ≠ w.heap.size := Nat.ne_of_gt (Nat.lt_of_lt_of_le (hT.lt) hV.size)
                have nhO : V.heap.size ≠ bo := Nat.ne_of_gt (Nat.lt_of_lt_of_le (hO.lt) hV.size)
                have nhR : V.heap.size ≠ br := Nat.ne_of_gt (Nat.lt_of_lt_of_le (hR.lt) hV.size)
                have nhE : V.heap.size ≠ be := Nat.ne_of_gt (Nat.lt_of_lt_of_le (World.block_lt_of_cell? _ _ hE.1) hV.size)
                have nhH : V.heap.size ≠ bh := Nat.ne_of_gt (Nat.lt_of_lt_of_le (World.block_lt_of_cell? _ _ hH.1) hV.size)
                have nhG : V.heap.size ≠ bg := Nat.ne_of_gt (Nat.lt_of_lt_of_le (World.block_lt_of_cell? _ _ hG.1) hV.size)
                have nhM1 : V.heap.size ≠ bm := Nat.ne_of_gt (Nat.lt_of_lt_of_le (World.block_lt_of_cell? _ _ hM1.1) hV.size)
                have nhQ : V.heap.size ≠ bq := Nat.ne_of_gt (Nat.lt_of_lt_of_le (World.block_lt_of_cell? _ _ hQ.1) hV.size)
                have nhU : V.heap.size ≠ bu := Nat.ne_of_gt (Nat.lt_of_lt_of_le (World.block_lt_of_cell? _ _ hU.1) hV.size)
                have gn : w.heap.size ≤ V.heap.size := Nat.le_trans B.size hV.size
                replace B := B.trans (hb.mono B.size)
                replace hD := hD.keep hb; replace hT := hT.keep hb; replace hO := hO.keep hb; replace hR := hR.keep hb; replace hE := hE.keep hb; replace hH := hH.keep hb; replace hG := hG.keep hb; replace hM1 := hM1.keep hb; replace hQ := hQ.keep hb; replace hU := hU.keep hb
                clear hb hw hV W
                generalize V.heap.size = bv at *
                clear V
                have gN := hN.1.all4; have qN := hN.2.all4
                have mhD := nhD.symm
                have mhT := nhT.symm
                have mhO := nhO.symm
                have mhR := nhR.symm
                have mhE := nhE.symm
                have mhH := nhH.symm
                have mhG := nhG.symm
                have mhM1 := nhM1.symm
                have mhQ := nhQ.symm
                have mhU := nhU.symm
                simp only [List.drop_succ_cons, List.drop_zero, Act.put, List.setIfInBounds_toArray, List.set_cons_zero, List.set_cons_succ]
                go_wp2_with fail
                refine wp_world (fun W => Below w.heap.size w W ∧ Mds W ∧ Thr W w.heap.size x y z ∧ Thr W bo x2 y2 z2 ∧ Bk12 W br ∧ Hold W be ey ∧ Hold W bh h ∧ Hold W bg r ∧ Hold W bm m ∧ Hold W bq q ∧ Hold W bu X ∧ Hold W bv Y) ⟨below_set4 B gn _ _ _ _, hD.set4 nhD _ _ _ _, hT.set4 nhT _ _ _ _, hO.set4 nhO _ _ _ _, hR.set4 nhR _ _ _ _, hE.set4 nhE _ _ _ _, hH.set4 nhH _ _ _ _, hG.set4 nhG _ _ _ _, hM1.set4 nhM1 _ _ _ _, hQ.set4 nhQ _ _ _ _, hU.set4 nhU _ _ _ _, Hold.sets4 (Blank.has hN)⟩ ?_
                clear B hN gN qN hD hT hO hR hE hH hG hM1 hQ hU nhD mhD nhT mhT nhO mhO nhR mhR nhE mhE nhH mhH nhG mhG nhM1 mhM1 nhQ mhQ nhU mhU  gn
                rintro W ⟨B, hD, hT, hO, hR, hE, hH, hG, hM1, hQ, hU, hV1⟩
                clear w1
                have ghT := hT.grown
                have ghO := hO.grown
                have ghU := hU.grown
                have ghV1 := hV1.grown
                have ghH := hH.grown
                have hDg : ∀ d os, Mds (grow (redrawn W d) os) := fun d os => hD.keep (below_regrown W d os)
                refine below_tail 10 (by kernel_rfl) (by kernel_rfl) ?_
                simp only [List.take_succ_cons, List.take_zero, List.drop_succ_cons, List.drop_zero]
                repeat
                  first
                    | go_big_quiet_skip
                    | (go_big_quiet_want; go_big_quiet_op; go_big_quiet_on)
                    | (go_big_quiet_want
                       go_big_quiet_op
                       apply Exists.intro
                       refine ⟨fun p => ?_, ?_⟩
                       · (first | (go_at_call 48; with_reducible exact Calls.regrown_of (A22.out _ (hDg p.d p.os))) | (go_at_call 48; with_reducible exact Calls.regrown_of (A23.out _ (hDg p.d p.os))))
                       go_big_quiet_on)
                refine wpQuiet_nil ?_
                rintro w6 ⟨p, rfl⟩
                have hb := below_regrown W p.d p.os
                generalize grow (redrawn W p.d) p.os = w6 at *
                replace B := B.trans (hb.mono B.size)
                replace hD := hD.keep hb; replace hT := hT.keep hb; replace hO := hO.keep hb; replace hR := hR.keep hb; replace hE := hE.keep hb; replace hH := hH.keep hb; replace hG := hG.keep hb; replace hM1 := hM1.keep hb; replace hQ := hQ.keep hb; replace hU := hU.keep hb; replace hV1 := hV1.keep hb
                clear hb W ghT ghO ghU ghV1 ghH hDg
                have gR := hR.cells; have fR := hR.free
                go_wp2
                simp [bodyPost, results, Tryz.results41, go_sem, gR]
                repeat (first | with_reducible exact B | with_reducible refine Below.setCell ?_ o3 _)
end Go.Proofs.YtiebnlahhmngcaaGreatDoor

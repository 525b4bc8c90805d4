import Derived.Test.YtmcodflbngkdcaaDoorFExp
import Derived.Test.YtmcodflbngkdcaaDoorFAdd
import Derived.Test.YtmcodflbngkdcaaDoorAdd
import Derived.Test.YtmcodflbngkdcaaDoorFRef
import Derived.Test.YtmcodflbngkdcaaDoorRefBit
namespace Go.Proofs.YtmcodflbngkdcaaDoor
open Go.RowKit Go.Sort

/-- k is a kind; m its modulus, c what is left of 2^256. -/
structure Kind (k m c : Int) : Prop where
  em : kM k = m
  ec : kC k = c
  ee : kE k = 0
  fit : Fit m c
theorem kind_p : Kind 0 pN pC := ⟨rfl, rfl, rfl, fit_p⟩
theorem of_good {k m c : Int} (h : Kind k m c) (w : World) (hm : Mds w) :
    Calls Tryd.prog 56 #[.int .i64 k] w fun e w' => e = .returned (.tuple #[.agg #[.int .u64 (l0 m), .int .u64 (l1 m), .int .u64 (l2 m), .int .u64 (l3 m), .int .u64 (l0 c), .int .u64 (l1 c), .int .u64 (l2 c), .int .u64 (l3 c)], .int .i64 0]) ∧ Below w.heap.size w w' := by
  have := of_any k w hm
  rw [h.em, h.ec, h.ee] at this
  exact this
set_option maxHeartbeats 2000000 in
theorem Add_good {k m c x y : Int} (hk : Kind k m c) (hx : Num x) (hy : Num y) (w : World) (hm : Mds w) :
    Calls Tryd.prog 59 #[.int .i64 k, .agg #[.int .u64 (l0 x), .int .u64 (l1 x), .int .u64 (l2 x), .int .u64 (l3 x)], .agg #[.int .u64 (l0 y), .int .u64 (l1 y), .int .u64 (l2 y), .int .u64 (l3 y)]] w fun e w' => e = .returned (.tuple #[.agg #[.int .u64 (l0 (modN m (x + y))), .int .u64 (l1 (modN m (x + y))), .int .u64 (l2 (modN m (x + y))), .int .u64 (l3 (modN m (x + y)))], .int .i64 0]) ∧ Below w.heap.size w w' := by
  have C : Hid (∀ w, Calls Tryd.prog 71 #[.agg #[.int .u64 (l0 m), .int .u64 (l1 m), .int .u64 (l2 m), .int .u64 (l3 m), .int .u64 (l0 c), .int .u64 (l1 c), .int .u64 (l2 c), .int .u64 (l3 c)], .agg #[.int .u64 (l0 x), .int .u64 (l1 x), .int .u64 (l2 x), .int .u64 (l3 x)], .agg #[.int .u64 (l0 y), .int .u64 (l1 y), .int .u64 (l2 y), .int .u64 (l3 y)]] w fun e w' => e = .returned (.agg #[.int .u64 (l0 (modN m (x + y))), .int .u64 (l1 (modN m (x + y))), .int .u64 (l2 (modN m (x + y))), .int .u64 (l3 (modN m (x + y)))]) ∧ Below w.heap.size w w') := fadd_any hk.fit hx hy
  generalize (modN m (x + y)) = r at *
  go_enter Tryd.func59, Tryd.ntmps59
  go_wp2_with fail
  refine calls_world (fun W => Below w.heap.size w W ∧ Mds W ∧ Hold W w.heap.size x ∧ Hold W (w.heap.size + 1) y ∧ Blank W (w.heap.size + 1 + 1)) ⟨by repeat (first | with_reducible exact Below.refl _ _ | with_reducible refine Below.alloc ?_ (by first | omega | (simp; done) | (simp; omega)) _), ((hm.alloc _).alloc _).alloc _, ((Hold.fresh (by simp)).alloc _).alloc _, (Hold.fresh (by simp)).alloc _, Blank.new (by simp)⟩ ?_
  rintro W ⟨B, hD, hX, hY, hR⟩
  have o3 : w.heap.size ≤ w.heap.size + 1 + 1 := by omega
  generalize w.heap.size + 1 + 1 = br at *
  generalize w.heap.size + 1 = bw at *
  with_reducible refine (of_good hk _ hD).mono ?_
  rintro e w1 ⟨rfl, hb⟩
  replace B := B.trans (hb.mono B.size)
  replace hX := hX.keep hb; replace hY := hY.keep hb; replace hR := hR.keep hb
  clear hb hD W
  have gX := hX.allocs; have gY := hY.allocs
  go_wp2_with fail
  refine calls_world (fun W => Below w.heap.size w W ∧ Blank W br) ⟨B.alloc B.size _, hR.alloc _⟩ ?_
  clear B hX hY hR gX gY
  rintro W ⟨B, hR⟩
  with_reducible refine (C.out _).mono ?_
  rintro e w2 ⟨rfl, hb⟩
  replace B := B.trans (hb.mono B.size)
  replace hR := hR.keep hb
  clear hb W
  have gR := hR.1.all4; have fR := hR.2.all4
  go_wp2
  simp [bodyPost, results, Tryd.results59, go_sem, gR]
  exact below_set4 B o3 _ _ _ _

set_option maxHeartbeats 2000000 in
theorem Mul_good {k m c x y : Int} (hk : Kind k m c) (hx : Num x) (hy : Num y) (w : World) (hm : Mds w) :
    Calls Tryd.prog 58 #[.int .i64 k, .agg #[.int .u64 (l0 x), .int .u64 (l1 x), .int .u64 (l2 x), .int .u64 (l3 x)], .agg #[.int .u64 (l0 y), .int .u64 (l1 y), .int .u64 (l2 y), .int .u64 (l3 y)]] w fun e w' => e = .returned (.tuple #[.agg #[.int .u64 (l0 (modN m (x * y))), .int .u64 (l1 (modN m (x * y))), .int .u64 (l2 (modN m (x * y))), .int .u64 (l3 (modN m (x * y)))], .int .i64 0]) ∧ Below w.heap.size w w' := by
  have C : Hid (∀ w, Calls Tryd.prog 70 #[.agg #[.int .u64 (l0 m), .int .u64 (l1 m), .int .u64 (l2 m), .int .u64 (l3 m), .int .u64 (l0 c), .int .u64 (l1 c), .int .u64 (l2 c), .int .u64 (l3 c)], .agg #[.int .u64 (l0 x), .int .u64 (l1 x), .int .u64 (l2 x), .int .u64 (l3 x)], .agg #[.int .u64 (l0 y), .int .u64 (l1 y), .int .u64 (l2 y), .int .u64 (l3 y)]] w fun e w' => e = .returned (.agg #[.int .u64 (l0 (modN m (x * y))), .int .u64 (l1 (modN m (x * y))), .int .u64 (l2 (modN m (x * y))), .int .u64 (l3 (modN m (x * y)))]) ∧ Below w.heap.size w w') := fmul_any hk.fit hx hy
  generalize (modN m (x * y)) = r at *
  go_enter Tryd.func58, Tryd.ntmps58
  go_wp2_with fail
  refine calls_world (fun W => Below w.heap.size w W ∧ Mds W ∧ Hold W w.heap.size x ∧ Hold W (w.heap.size + 1) y ∧ Blank W (w.heap.size + 1 + 1)) ⟨by repeat (first | with_reducible exact Below.refl _ _ | with_reducible refine Below.alloc ?_ (by first | omega | (simp; done) | (simp; omega)) _), ((hm.alloc _).alloc _).alloc _, ((Hold.fresh (by simp)).alloc _).alloc _, (Hold.fresh (by simp)).alloc _, Blank.new (by simp)⟩ ?_
  rintro W ⟨B, hD, hX, hY, hR⟩
  have o3 : w.heap.size ≤ w.heap.size + 1 + 1 := by omega
  generalize w.heap.size + 1 + 1 = br at *
  generalize w.heap.size + 1 = bw at *
  with_reducible refine (of_good hk _ hD).mono ?_
  rintro e w1 ⟨rfl, hb⟩
  replace B := B.trans (hb.mono B.size)
  replace hX := hX.keep hb; replace hY := hY.keep hb; replace hR := hR.keep hb
  clear hb hD W
  have gX := hX.allocs; have gY := hY.allocs
  go_wp2_with fail
  refine calls_world (fun W => Below w.heap.size w W ∧ Blank W br) ⟨B.alloc B.size _, hR.alloc _⟩ ?_
  clear B hX hY hR gX gY
  rintro W ⟨B, hR⟩
  with_reducible refine (C.out _).mono ?_
  rintro e w2 ⟨rfl, hb⟩
  replace B := B.trans (hb.mono B.size)
  replace hR := hR.keep hb
  clear hb W
  have gR := hR.1.all4; have fR := hR.2.all4
  go_wp2
  simp [bodyPost, results, Tryd.results58, go_sem, gR]
  exact below_set4 B o3 _ _ _ _

end Go.Proofs.YtmcodflbngkdcaaDoor

namespace Go.Proofs.YtmcodflbngkdcaaDoor
open Go.RowKit Go.Sort

set_option maxHeartbeats 2000000 in
theorem Modulus_walk {k m c e0 : Int} (O : Hid (∀ w, Mds w → Calls Tryd.prog 56 #[.int .i64 k] w fun e w' => e = .returned (.tuple #[.agg #[.int .u64 (l0 m), .int .u64 (l1 m), .int .u64 (l2 m), .int .u64 (l3 m), .int .u64 (l0 c), .int .u64 (l1 c), .int .u64 (l2 c), .int .u64 (l3 c)], .int .i64 e0]) ∧ Below w.heap.size w w')) (w : World) (hm : Mds w) :
    Calls Tryd.prog 44 #[.int .i64 k] w fun e w' => e = .returned (.tuple #[.agg #[.int .u64 (l0 m), .int .u64 (l1 m), .int .u64 (l2 m), .int .u64 (l3 m)], .int .i64 e0]) ∧ Below w.heap.size w w' := by
  go_enter Tryd.func44, Tryd.ntmps44
  go_wp2_with fail
  refine calls_world (fun W => Below w.heap.size w W ∧ Mds W ∧ Blank W w.heap.size) ⟨by repeat (first | with_reducible exact Below.refl _ _ | with_reducible refine Below.alloc ?_ (by first | omega | (simp; done) | (simp; omega)) _), hm.alloc _, Blank.new (by simp)⟩ ?_
  rintro W ⟨B, hD, hR⟩
  have o3 : w.heap.size ≤ w.heap.size := by omega
  with_reducible refine (O.out _ hD).mono ?_
  rintro e w1 ⟨rfl, hb⟩
  replace B := B.trans (hb.mono B.size)
  replace hR := hR.keep hb
  have lr := hR.1.lt (by simp)
  have nr : w1.heap.size ≠ w.heap.size := by omega
  have nr' := nr.symm
  clear hb hD W lr
  have gR := fun o => (hR.alloc o).1.all4
  have fR := fun o => (hR.alloc o).2.all4
  have BB : Hid (∀ o, Below w.heap.size w (w1.alloc o)) := fun o => B.alloc B.size o
  clear B hR
  go_wp2
  simp [bodyPost, results, Tryd.results44, go_sem, *]
  repeat (first | with_reducible exact BB.out _ | with_reducible refine Below.drew ?_ | with_reducible refine Below.setCell ?_ (by with_reducible assumption) _)

theorem Modulus_good {k m c : Int} (hk : Kind k m c) (w : World) (hm : Mds w) :
    Calls Tryd.prog 44 #[.int .i64 k] w fun e w' => e = .returned (.tuple #[.agg #[.int .u64 (l0 m), .int .u64 (l1 m), .int .u64 (l2 m), .int .u64 (l3 m)], .int .i64 0]) ∧ Below w.heap.size w w' := Modulus_walk (fun w h => of_good hk w h) w hm
end Go.Proofs.YtmcodflbngkdcaaDoor

namespace Go.Proofs.YtmcodflbngkdcaaDoor
open Go.RowKit Go.Sort

/-- The inverse by Fermat. -/
def invN (m x : Int) : Int := powN m x (m - 2)
end Go.Proofs.YtmcodflbngkdcaaDoor

namespace Go.Proofs.YtmcodflbngkdcaaDoor
open Go.RowKit Go.Sort

set_option maxHeartbeats 2000000 in
theorem cplus_any {x y : Int} (hx : Num x) (hy : Num y) (w : World) (hm : Mds w) :
    Calls Tryd.prog 47 #[.agg #[.int .u64 (l0 x), .int .u64 (l1 x), .int .u64 (l2 x), .int .u64 (l3 x)], .agg #[.int .u64 (l0 y), .int .u64 (l1 y), .int .u64 (l2 y), .int .u64 (l3 y)]] w fun e w' => e = .returned (.agg #[.int .u64 (l0 (modN pN (x + y))), .int .u64 (l1 (modN pN (x + y))), .int .u64 (l2 (modN pN (x + y))), .int .u64 (l3 (modN pN (x + y)))]) ∧ Below w.heap.size w w' := by
  have C : Hid (∀ w, Mds w → Calls Tryd.prog 59 #[.int .i64 0, .agg #[.int .u64 (l0 x), .int .u64 (l1 x), .int .u64 (l2 x), .int .u64 (l3 x)], .agg #[.int .u64 (l0 y), .int .u64 (l1 y), .int .u64 (l2 y), .int .u64 (l3 y)]] w fun e w' => e = .returned (.tuple #[.agg #[.int .u64 (l0 (modN pN (x + y))), .int .u64 (l1 (modN pN (x + y))), .int .u64 (l2 (modN pN (x + y))), .int .u64 (l3 (modN pN (x + y)))], .int .i64 0]) ∧ Below w.heap.size w w') := fun w hm => Add_good kind_p hx hy w hm
  generalize modN pN (x + y) = r at *
  clear hx hy
  go_enter Tryd.func47, Tryd.ntmps47
  go_wp2_with fail
  refine calls_world (fun W => Below w.heap.size w W ∧ Mds W ∧ Blank W (w.heap.size + 1 + 1)) ⟨by repeat (first | with_reducible exact Below.refl _ _ | with_reducible refine Below.alloc ?_ (by first | omega | (simp; done) | (simp; omega)) _), ((hm.alloc _).alloc _).alloc _, Blank.new (by simp)⟩ ?_
  rintro W ⟨B, hD, hR⟩
  have o3 : w.heap.size ≤ w.heap.size + 1 + 1 := by omega
  generalize w.heap.size + 1 + 1 = br at *
  with_reducible refine (C.out _ hD).mono ?_
  rintro e w1 ⟨rfl, hb⟩
  replace B := B.trans (hb.mono B.size)
  replace hR := hR.keep hb
  have lr := hR.1.lt (by simp)
  have nr : w1.heap.size ≠ br := by omega
  have nr' := nr.symm
  clear hb hD W lr
  have gR := fun o => (hR.alloc o).1.all4
  have fR := fun o => (hR.alloc o).2.all4
  have BB : Hid (∀ o, Below w.heap.size w (w1.alloc o)) := fun o => B.alloc B.size o
  clear B hR
  go_wp2
  simp [bodyPost, results, Tryd.results47, go_sem, *]
  repeat (first | with_reducible exact BB.out _ | with_reducible refine Below.drew ?_ | with_reducible refine Below.setCell ?_ (by with_reducible assumption) _)

set_option maxHeartbeats 2000000 in
theorem ctimes_any {x y : Int} (hx : Num x) (hy : Num y) (w : World) (hm : Mds w) :
    Calls Tryd.prog 46 #[.agg #[.int .u64 (l0 x), .int .u64 (l1 x), .int .u64 (l2 x), .int .u64 (l3 x)], .agg #[.int .u64 (l0 y), .int .u64 (l1 y), .int .u64 (l2 y), .int .u64 (l3 y)]] w fun e w' => e = .returned (.agg #[.int .u64 (l0 (modN pN (x * y))), .int .u64 (l1 (modN pN (x * y))), .int .u64 (l2 (modN pN (x * y))), .int .u64 (l3 (modN pN (x * y)))]) ∧ Below w.heap.size w w' := by
  have C : Hid (∀ w, Mds w → Calls Tryd.prog 58 #[.int .i64 0, .agg #[.int .u64 (l0 x), .int .u64 (l1 x), .int .u64 (l2 x), .int .u64 (l3 x)], .agg #[.int .u64 (l0 y), .int .u64 (l1 y), .int .u64 (l2 y), .int .u64 (l3 y)]] w fun e w' => e = .returned (.tuple #[.agg #[.int .u64 (l0 (modN pN (x * y))), .int .u64 (l1 (modN pN (x * y))), .int .u64 (l2 (modN pN (x * y))), .int .u64 (l3 (modN pN (x * y)))], .int .i64 0]) ∧ Below w.heap.size w w') := fun w hm => Mul_good kind_p hx hy w hm
  generalize modN pN (x * y) = r at *
  clear hx hy
  go_enter Tryd.func46, Tryd.ntmps46
  go_wp2_with fail
  refine calls_world (fun W => Below w.heap.size w W ∧ Mds W ∧ Blank W (w.heap.size + 1 + 1)) ⟨by repeat (first | with_reducible exact Below.refl _ _ | with_reducible refine Below.alloc ?_ (by first | omega | (simp; done) | (simp; omega)) _), ((hm.alloc _).alloc _).alloc _, Blank.new (by simp)⟩ ?_
  rintro W ⟨B, hD, hR⟩
  have o3 : w.heap.size ≤ w.heap.size + 1 + 1 := by omega
  generalize w.heap.size + 1 + 1 = br at *
  with_reducible refine (C.out _ hD).mono ?_
  rintro e w1 ⟨rfl, hb⟩
  replace B := B.trans (hb.mono B.size)
  replace hR := hR.keep hb
  have lr := hR.1.lt (by simp)
  have nr : w1.heap.size ≠ br := by omega
  have nr' := nr.symm
  clear hb hD W lr
  have gR := fun o => (hR.alloc o).1.all4
  have fR := fun o => (hR.alloc o).2.all4
  have BB : Hid (∀ o, Below w.heap.size w (w1.alloc o)) := fun o => B.alloc B.size o
  clear B hR
  go_wp2
  simp [bodyPost, results, Tryd.results46, go_sem, *]
  repeat (first | with_reducible exact BB.out _ | with_reducible refine Below.drew ?_ | with_reducible refine Below.setCell ?_ (by with_reducible assumption) _)

set_option maxHeartbeats 2000000 in
theorem csquare_any {x : Int} (hx : Num x) (w : World) (hm : Mds w) :
    Calls Tryd.prog 32 #[.agg #[.int .u64 (l0 x), .int .u64 (l1 x), .int .u64 (l2 x), .int .u64 (l3 x)]] w fun e w' => e = .returned (.agg #[.int .u64 (l0 (modN pN (x * x))), .int .u64 (l1 (modN pN (x * x))), .int .u64 (l2 (modN pN (x * x))), .int .u64 (l3 (modN pN (x * x)))]) ∧ Below w.heap.size w w' := by
  have C : Hid (∀ w, Mds w → Calls Tryd.prog 46 #[.agg #[.int .u64 (l0 x), .int .u64 (l1 x), .int .u64 (l2 x), .int .u64 (l3 x)], .agg #[.int .u64 (l0 x), .int .u64 (l1 x), .int .u64 (l2 x), .int .u64 (l3 x)]] w fun e w' => e = .returned (.agg #[.int .u64 (l0 (modN pN (x * x))), .int .u64 (l1 (modN pN (x * x))), .int .u64 (l2 (modN pN (x * x))), .int .u64 (l3 (modN pN (x * x)))]) ∧ Below w.heap.size w w') := fun w hm => ctimes_any hx hx w hm
  generalize modN pN (x * x) = r at *
  clear hx
  go_enter Tryd.func32, Tryd.ntmps32
  go_wp2_with fail
  refine calls_world (fun W => Below w.heap.size w W ∧ Mds W ∧ Blank W (w.heap.size + 1)) ⟨by repeat (first | with_reducible exact Below.refl _ _ | with_reducible refine Below.alloc ?_ (by first | omega | (simp; done) | (simp; omega)) _), (hm.alloc _).alloc _, Blank.new (by simp)⟩ ?_
  rintro W ⟨B, hD, hR⟩
  have o3 : w.heap.size ≤ w.heap.size + 1 := by omega
  generalize w.heap.size + 1 = br at *
  with_reducible refine (C.out _ hD).mono ?_
  rintro e w1 ⟨rfl, hb⟩
  replace B := B.trans (hb.mono B.size)
  replace hR := hR.keep hb
  clear hb hD W
  have gR := hR.1.all4; have fR := hR.2.all4
  go_wp2
  simp [bodyPost, results, Tryd.results32, go_sem, gR]
  exact below_set4 B o3 _ _ _ _

set_option maxHeartbeats 2000000 in
theorem cbelow_any {x : Int} (hx : Num x) (w : World) (hm : Mds w) :
    Calls Tryd.prog 31 #[.agg #[.int .u64 (l0 x), .int .u64 (l1 x), .int .u64 (l2 x), .int .u64 (l3 x)]] w fun e w' => e = .returned (.bool (decide (x < pN))) ∧ Below w.heap.size w w' := by
  have C := fun w => cmp_any hx fit_p.num w
  have hv : decide (cmpN x pN < 0) = decide (x < pN) := by
    unfold cmpN
    by_cases h' : x = pN
    · rw [h']; simp
    · by_cases h : x < pN <;> simp [h, h']
  have O : Hid (∀ w, Mds w → Calls Tryd.prog 44 #[.int .i64 0] w fun e w' => e = .returned (.tuple #[.agg #[.int .u64 (l0 pN), .int .u64 (l1 pN), .int .u64 (l2 pN), .int .u64 (l3 pN)], .int .i64 0]) ∧ Below w.heap.size w w') := fun w hm => Modulus_good kind_p w hm
  generalize decide (x < pN) = r at *
  generalize cmpN x pN = q at *
  generalize pN = p at *
  clear hx
  go_enter Tryd.func31, Tryd.ntmps31
  go_wp2_with fail
  refine calls_world (fun W => Below w.heap.size w W ∧ Mds W ∧ Hold W w.heap.size x) ⟨by repeat (first | with_reducible exact Below.refl _ _ | with_reducible refine Below.alloc ?_ (by first | omega | (simp; done) | (simp; omega)) _), hm.alloc _, Hold.fresh (by simp)⟩ ?_
  rintro W ⟨B, hD, hX⟩
  with_reducible refine (O.out _ hD).mono ?_
  rintro e w1 ⟨rfl, hb⟩
  replace B := B.trans (hb.mono B.size)
  replace hX := hX.keep hb
  clear hb hD W
  have gX := hX.allocs
  go_wp2_with fail
  refine calls_world (fun W => Below w.heap.size w W) (B.alloc B.size _) ?_
  clear B hX gX
  rintro W B
  with_reducible refine (C _).mono ?_
  rintro e w2 ⟨rfl, hb⟩
  replace B := B.trans (hb.mono B.size)
  clear hb W
  go_wp2
  simp [bodyPost, results, Tryd.results31, go_sem]
  exact B
end Go.Proofs.YtmcodflbngkdcaaDoor

namespace Go.Proofs.YtmcodflbngkdcaaDoor
open Go.RowKit Go.Sort

set_option maxHeartbeats 1000000 in
theorem rgood_yes {k : Int} (hk : k = 0 ∨ k = 1) (w : World) : Calls Tryd.prog 38 #[.int .i64 k] w fun e w' => e = .returned (.bool true) ∧ Below w.heap.size w w' := by
  rcases hk with rfl | rfl
  · skip
    go_enter Tryd.func38, Tryd.ntmps38
    go_wp2
    simp [bodyPost, results, Tryd.results38, go_sem]
    repeat (first | with_reducible exact Below.refl _ _ | with_reducible refine Below.drew ?_ | with_reducible refine Below.alloc ?_ (by first | omega | (simp; done) | (simp; omega)) _ | with_reducible refine Below.setCell ?_ (by first | omega | (simp; done)) _)
  · skip
    go_enter Tryd.func38, Tryd.ntmps38
    go_wp2
    simp [bodyPost, results, Tryd.results38, go_sem]
    repeat (first | with_reducible exact Below.refl _ _ | with_reducible refine Below.drew ?_ | with_reducible refine Below.alloc ?_ (by first | omega | (simp; done) | (simp; omega)) _ | with_reducible refine Below.setCell ?_ (by first | omega | (simp; done)) _)

set_option maxHeartbeats 2000000 in
theorem rtimes_any {k x y : Int} (hx : Num x) (hy : Num y) (w : World) :
    Calls Tryd.prog 40 #[.int .i64 k, .agg #[.int .u64 (l0 x), .int .u64 (l1 x), .int .u64 (l2 x), .int .u64 (l3 x)], .agg #[.int .u64 (l0 y), .int .u64 (l1 y), .int .u64 (l2 y), .int .u64 (l3 y)]] w fun e w' => e = .returned (.agg #[.int .u64 (l0 (modN (rM k) (x * y))), .int .u64 (l1 (modN (rM k) (x * y))), .int .u64 (l2 (modN (rM k) (x * y))), .int .u64 (l3 (modN (rM k) (x * y)))]) ∧ Below w.heap.size w w' := by
  have M1 : Hid (∀ w, Calls Tryd.prog 50 #[.agg #[.int .u64 (l0 x), .int .u64 (l1 x), .int .u64 (l2 x), .int .u64 (l3 x)], .agg #[.int .u64 (l0 y), .int .u64 (l1 y), .int .u64 (l2 y), .int .u64 (l3 y)]] w fun e w' => e = .returned (.tuple #[.agg #[.int .u64 (l0 (hiN x y)), .int .u64 (l1 (hiN x y)), .int .u64 (l2 (hiN x y)), .int .u64 (l3 (hiN x y))], .agg #[.int .u64 (l0 (loN x y)), .int .u64 (l1 (loN x y)), .int .u64 (l2 (loN x y)), .int .u64 (l3 (loN x y))]]) ∧ Below w.heap.size w w') := rmul_any hx hy
  have R1 : Hid (∀ w, Calls Tryd.prog 51 #[.int .i64 k, .agg #[.int .u64 (l0 (hiN x y)), .int .u64 (l1 (hiN x y)), .int .u64 (l2 (hiN x y)), .int .u64 (l3 (hiN x y))], .agg #[.int .u64 (l0 (loN x y)), .int .u64 (l1 (loN x y)), .int .u64 (l2 (loN x y)), .int .u64 (l3 (loN x y))]] w fun e w' => e = .returned (.agg #[.int .u64 (l0 (modN (rM k) (x * y))), .int .u64 (l1 (modN (rM k) (x * y))), .int .u64 (l2 (modN (rM k) (x * y))), .int .u64 (l3 (modN (rM k) (x * y)))]) ∧ Below w.heap.size w w') := fun w => by
    have := rfold_any (k := k) (hiN_Num hx hy) (loN_Num x y) w; rw [wide_mul] at this; exact this
  generalize modN (rM k) (x * y) = R at *
  generalize hiN x y = H at *
  generalize loN x y = L at *
  go_enter Tryd.func40, Tryd.ntmps40
  go_wp2_with fail
  refine calls_world (fun W => Below w.heap.size w W ∧ Blank W (w.heap.size + 1 + 1)) ⟨by repeat (first | with_reducible exact Below.refl _ _ | with_reducible refine Below.alloc ?_ (by first | omega | (simp; done) | (simp; omega)) _), Blank.new (by simp)⟩ ?_
  rintro W ⟨B, hR⟩
  have o3 : w.heap.size ≤ w.heap.size + 1 + 1 := by omega
  generalize w.heap.size + 1 + 1 = br at *
  with_reducible refine (M1.out _).mono ?_
  rintro e w1 ⟨rfl, hb⟩
  replace B := B.trans (hb.mono B.size)
  replace hR := hR.keep hb
  clear hb W
  go_wp2_with fail
  refine calls_world (fun W => Below w.heap.size w W ∧ Blank W br) ⟨(B.alloc B.size _).alloc (by have := B.size; simp; omega) _, (hR.alloc _).alloc _⟩ ?_
  clear B hR
  rintro W ⟨B, hR⟩
  with_reducible refine (R1.out _).mono ?_
  rintro e w2 ⟨rfl, hb⟩
  replace B := B.trans (hb.mono B.size)
  replace hR := hR.keep hb
  clear hb W
  have gR := hR.1.all4; have fR := hR.2.all4
  go_wp2
  simp [bodyPost, results, Tryd.results40, go_sem, gR]
  exact below_set4 B o3 _ _ _ _

set_option maxHeartbeats 2000000 in
theorem rMul_good {k x y : Int} (hk : k = 0 ∨ k = 1) (hx : Num x) (hy : Num y) (w : World) :
    Calls Tryd.prog 26 #[.int .i64 k, .agg #[.int .u64 (l0 x), .int .u64 (l1 x), .int .u64 (l2 x), .int .u64 (l3 x)], .agg #[.int .u64 (l0 y), .int .u64 (l1 y), .int .u64 (l2 y), .int .u64 (l3 y)]] w fun e w' => e = .returned (.tuple #[.agg #[.int .u64 (l0 (modN (rM k) (x * y))), .int .u64 (l1 (modN (rM k) (x * y))), .int .u64 (l2 (modN (rM k) (x * y))), .int .u64 (l3 (modN (rM k) (x * y)))], .int .i64 0]) ∧ Below w.heap.size w w' := by
  have G : Hid (∀ w, Calls Tryd.prog 38 #[.int .i64 k] w fun e w' => e = .returned (.bool true) ∧ Below w.heap.size w w') := rgood_yes hk
  have C : Hid (∀ w, Calls Tryd.prog 40 #[.int .i64 k, .agg #[.int .u64 (l0 x), .int .u64 (l1 x), .int .u64 (l2 x), .int .u64 (l3 x)], .agg #[.int .u64 (l0 y), .int .u64 (l1 y), .int .u64 (l2 y), .int .u64 (l3 y)]] w fun e w' => e = .returned (.agg #[.int .u64 (l0 (modN (rM k) (x * y))), .int .u64 (l1 (modN (rM k) (x * y))), .int .u64 (l2 (modN (rM k) (x * y))), .int .u64 (l3 (modN (rM k) (x * y)))]) ∧ Below w.heap.size w w') := rtimes_any hx hy
  generalize (modN (rM k) (x * y)) = r at *
  clear hk
  go_enter Tryd.func26, Tryd.ntmps26
  go_wp2_with fail
  refine calls_world (fun W => Below w.heap.size w W ∧ Hold W (w.heap.size) x ∧ Hold W (w.heap.size + 1) y ∧ Blank W (w.heap.size + 1 + 1)) ⟨by repeat (first | with_reducible exact Below.refl _ _ | with_reducible refine Below.alloc ?_ (by first | omega | (simp; done) | (simp; omega)) _), ((Hold.fresh (by simp)).alloc _).alloc _, (Hold.fresh (by simp)).alloc _, Blank.new (by simp)⟩ ?_
  rintro W ⟨B, hX, hY, hR⟩
  have o3 : w.heap.size ≤ w.heap.size + 1 + 1 := by omega
  generalize w.heap.size + 1 + 1 = br at *
  generalize w.heap.size + 1 = bw at *
  with_reducible refine (G.out _).mono ?_
  rintro e w1 ⟨rfl, hb⟩
  replace B := B.trans (hb.mono B.size)
  replace hX := hX.keep hb; replace hY := hY.keep hb; replace hR := hR.keep hb
  clear hb W
  have gX := hX.cells
  have gY := hY.cells
  go_wp2_with fail
  with_reducible refine (C.out _).mono ?_
  rintro e w2 ⟨rfl, hb⟩
  replace B := B.trans (hb.mono B.size)
  replace hR := hR.keep hb
  clear hb hX hY gX gY w1
  have gR := hR.1.all4; have fR := hR.2.all4
  go_wp2
  simp [bodyPost, results, Tryd.results26, go_sem, gR]
  exact below_set4 B o3 _ _ _ _

end Go.Proofs.YtmcodflbngkdcaaDoor

namespace Go.Proofs.YtmcodflbngkdcaaDoor
open Go.RowKit Go.Sort

theorem carN_wordF {n m : Int} (hn : Num n) (hm : Num m) : Word (carN n m) := by
  obtain ⟨_, _⟩ := hn; obtain ⟨_, _⟩ := hm
  unfold carN Word
  omega
theorem wide_sum (x y : Int) : wideN (carN x y) (sumN x y) = x + y := by unfold wideN carN sumN; omega

set_option maxHeartbeats 2000000 in
theorem rplus_any {k x y : Int} (hx : Num x) (hy : Num y) (w : World) :
    Calls Tryd.prog 52 #[.int .i64 k, .agg #[.int .u64 (l0 x), .int .u64 (l1 x), .int .u64 (l2 x), .int .u64 (l3 x)], .agg #[.int .u64 (l0 y), .int .u64 (l1 y), .int .u64 (l2 y), .int .u64 (l3 y)]] w fun e w' => e = .returned (.agg #[.int .u64 (l0 (modN (rM k) (x + y))), .int .u64 (l1 (modN (rM k) (x + y))), .int .u64 (l2 (modN (rM k) (x + y))), .int .u64 (l3 (modN (rM k) (x + y)))]) ∧ Below w.heap.size w w' := by
  have wc := carN_wordF hx hy
  have nc : Num (carN x y) := by obtain ⟨a, b⟩ := wc; exact ⟨a, by omega⟩
  have A1 : Hid (∀ w, Calls Tryd.prog 66 #[.agg #[.int .u64 (l0 x), .int .u64 (l1 x), .int .u64 (l2 x), .int .u64 (l3 x)], .agg #[.int .u64 (l0 y), .int .u64 (l1 y), .int .u64 (l2 y), .int .u64 (l3 y)]] w fun e w' => e = .returned (.tuple #[.agg #[.int .u64 (l0 (sumN x y)), .int .u64 (l1 (sumN x y)), .int .u64 (l2 (sumN x y)), .int .u64 (l3 (sumN x y))], .int .u64 (carN x y)]) ∧ Below w.heap.size w w') := radd_any hx hy
  have F1 : Hid (∀ w, Calls Tryd.prog 28 #[.int .u64 (carN x y)] w fun e w' => e = .returned (.agg #[.int .u64 (l0 (carN x y)), .int .u64 (l1 (carN x y)), .int .u64 (l2 (carN x y)), .int .u64 (l3 (carN x y))]) ∧ Below w.heap.size w w') := rfrom_any wc
  have R1 : Hid (∀ w, Calls Tryd.prog 51 #[.int .i64 k, .agg #[.int .u64 (l0 (carN x y)), .int .u64 (l1 (carN x y)), .int .u64 (l2 (carN x y)), .int .u64 (l3 (carN x y))], .agg #[.int .u64 (l0 (sumN x y)), .int .u64 (l1 (sumN x y)), .int .u64 (l2 (sumN x y)), .int .u64 (l3 (sumN x y))]] w fun e w' => e = .returned (.agg #[.int .u64 (l0 (modN (rM k) (x + y))), .int .u64 (l1 (modN (rM k) (x + y))), .int .u64 (l2 (modN (rM k) (x + y))), .int .u64 (l3 (modN (rM k) (x + y)))]) ∧ Below w.heap.size w w') := fun w => by
    have := rfold_any (k := k) nc (sumN_Num x y) w; rw [wide_sum] at this; exact this
  clear wc nc
  generalize modN (rM k) (x + y) = R at *
  generalize carN x y = C at *
  generalize sumN x y = S at *
  go_enter Tryd.func52, Tryd.ntmps52
  go_wp2_with fail
  refine calls_world (fun W => Below w.heap.size w W ∧ Blank W (w.heap.size + 1 + 1)) ⟨by repeat (first | with_reducible exact Below.refl _ _ | with_reducible refine Below.alloc ?_ (by first | omega | (simp; done) | (simp; omega)) _), Blank.new (by simp)⟩ ?_
  rintro W ⟨B, hR⟩
  have o3 : w.heap.size ≤ w.heap.size + 1 + 1 := by omega
  generalize w.heap.size + 1 + 1 = br at *
  with_reducible refine (A1.out _).mono ?_
  rintro e w1 ⟨rfl, hb⟩
  replace B := B.trans (hb.mono B.size)
  replace hR := hR.keep hb
  clear hb W
  go_wp2_with fail
  refine wp_world (fun W => Below w.heap.size w W ∧ Blank W br ∧ Hold W w1.heap.size S) ⟨B.alloc B.size _, hR.alloc _, Hold.new _ _ _⟩ ?_
  clear B hR
  rintro W ⟨B, hR, hS⟩
  generalize w1.heap.size = bs at *
  have gS := hS.grown
  refine below_tail 5 (by kernel_rfl) (by kernel_rfl) ?_
  simp only [List.take_succ_cons, List.take_zero, List.drop_succ_cons, List.drop_zero]
  repeat
    first
      | go_big_quiet_skip
      | (go_big_quiet_want; go_big_quiet_op; go_big_quiet_on)
      | (go_big_quiet_want
         go_big_quiet_op
         apply Exists.intro
         refine ⟨fun p => ?_, ?_⟩
         · (first | (go_at_call 28; with_reducible exact Calls.regrown_of (F1.out _)) | (go_at_call 51; with_reducible exact Calls.regrown_of (R1.out _)))
         go_big_quiet_on)
  refine wpQuiet_nil ?_
  rintro w2 ⟨p, rfl⟩
  have hb := below_regrown W p.d p.os
  generalize grow (redrawn W p.d) p.os = w2 at *
  replace B := B.trans (hb.mono B.size)
  replace hR := hR.keep hb
  clear hb hS gS W
  have gR := hR.1.all4; have fR := hR.2.all4
  go_wp2
  simp [bodyPost, results, Tryd.results52, go_sem, gR]
  exact below_set4 B o3 _ _ _ _

set_option maxHeartbeats 2000000 in
theorem rAdd_good {k x y : Int} (hk : k = 0 ∨ k = 1) (hx : Num x) (hy : Num y) (w : World) :
    Calls Tryd.prog 41 #[.int .i64 k, .agg #[.int .u64 (l0 x), .int .u64 (l1 x), .int .u64 (l2 x), .int .u64 (l3 x)], .agg #[.int .u64 (l0 y), .int .u64 (l1 y), .int .u64 (l2 y), .int .u64 (l3 y)]] w fun e w' => e = .returned (.tuple #[.agg #[.int .u64 (l0 (modN (rM k) (x + y))), .int .u64 (l1 (modN (rM k) (x + y))), .int .u64 (l2 (modN (rM k) (x + y))), .int .u64 (l3 (modN (rM k) (x + y)))], .int .i64 0]) ∧ Below w.heap.size w w' := by
  have G : Hid (∀ w, Calls Tryd.prog 38 #[.int .i64 k] w fun e w' => e = .returned (.bool true) ∧ Below w.heap.size w w') := rgood_yes hk
  have C : Hid (∀ w, Calls Tryd.prog 52 #[.int .i64 k, .agg #[.int .u64 (l0 x), .int .u64 (l1 x), .int .u64 (l2 x), .int .u64 (l3 x)], .agg #[.int .u64 (l0 y), .int .u64 (l1 y), .int .u64 (l2 y), .int .u64 (l3 y)]] w fun e w' => e = .returned (.agg #[.int .u64 (l0 (modN (rM k) (x + y))), .int .u64 (l1 (modN (rM k) (x + y))), .int .u64 (l2 (modN (rM k) (x + y))), .int .u64 (l3 (modN (rM k) (x + y)))]) ∧ Below w.heap.size w w') := rplus_any hx hy
  generalize (modN (rM k) (x + y)) = r at *
  clear hk
  go_enter Tryd.func41, Tryd.ntmps41
  go_wp2_with fail
  refine calls_world (fun W => Below w.heap.size w W ∧ Hold W (w.heap.size) x ∧ Hold W (w.heap.size + 1) y ∧ Blank W (w.heap.size + 1 + 1)) ⟨by repeat (first | with_reducible exact Below.refl _ _ | with_reducible refine Below.alloc ?_ (by first | omega | (simp; done) | (simp; omega)) _), ((Hold.fresh (by simp)).alloc _).alloc _, (Hold.fresh (by simp)).alloc _, Blank.new (by simp)⟩ ?_
  rintro W ⟨B, hX, hY, hR⟩
  have o3 : w.heap.size ≤ w.heap.size + 1 + 1 := by omega
  generalize w.heap.size + 1 + 1 = br at *
  generalize w.heap.size + 1 = bw at *
  with_reducible refine (G.out _).mono ?_
  rintro e w1 ⟨rfl, hb⟩
  replace B := B.trans (hb.mono B.size)
  replace hX := hX.keep hb; replace hY := hY.keep hb; replace hR := hR.keep hb
  clear hb W
  have gX := hX.cells
  have gY := hY.cells
  go_wp2_with fail
  with_reducible refine (C.out _).mono ?_
  rintro e w2 ⟨rfl, hb⟩
  replace B := B.trans (hb.mono B.size)
  replace hR := hR.keep hb
  clear hb hX hY gX gY w1
  have gR := hR.1.all4; have fR := hR.2.all4
  go_wp2
  simp [bodyPost, results, Tryd.results41, go_sem, gR]
  exact below_set4 B o3 _ _ _ _

set_option maxHeartbeats 2000000 in
theorem rModulus_good {k : Int} (hk : k = 0 ∨ k = 1) (w : World) :
    Calls Tryd.prog 24 #[.int .i64 k] w fun e w' => e = .returned (.tuple #[.agg #[.int .u64 (l0 (rM k)), .int .u64 (l1 (rM k)), .int .u64 (l2 (rM k)), .int .u64 (l3 (rM k))], .int .i64 0]) ∧ Below w.heap.size w w' := by
  have G : Hid (∀ w, Calls Tryd.prog 38 #[.int .i64 k] w fun e w' => e = .returned (.bool true) ∧ Below w.heap.size w w') := rgood_yes hk
  have C : Hid (∀ w, Calls Tryd.prog 39 #[.int .i64 k] w fun e w' => e = .returned (.agg #[.int .u64 (l0 (rM k)), .int .u64 (l1 (rM k)), .int .u64 (l2 (rM k)), .int .u64 (l3 (rM k))]) ∧ Below w.heap.size w w') := rmodulus_any k
  generalize rM k = r at *
  clear hk
  go_enter Tryd.func24, Tryd.ntmps24
  go_wp2_with fail
  refine calls_world (fun W => Below w.heap.size w W ∧ Blank W w.heap.size) ⟨by repeat (first | with_reducible exact Below.refl _ _ | with_reducible refine Below.alloc ?_ (by first | omega | (simp; done) | (simp; omega)) _), Blank.new (by simp)⟩ ?_
  rintro W ⟨B, hR⟩
  have o3 : w.heap.size ≤ w.heap.size := by omega
  with_reducible refine (G.out _).mono ?_
  rintro e w1 ⟨rfl, hb⟩
  replace B := B.trans (hb.mono B.size)
  replace hR := hR.keep hb
  clear hb W
  go_wp2_with fail
  with_reducible refine (C.out _).mono ?_
  rintro e w2 ⟨rfl, hb⟩
  replace B := B.trans (hb.mono B.size)
  replace hR := hR.keep hb
  clear hb w1
  have gR := hR.1.all4; have fR := hR.2.all4
  go_wp2
  simp [bodyPost, results, Tryd.results24, go_sem, gR]
  exact below_set4 B o3 _ _ _ _

end Go.Proofs.YtmcodflbngkdcaaDoor

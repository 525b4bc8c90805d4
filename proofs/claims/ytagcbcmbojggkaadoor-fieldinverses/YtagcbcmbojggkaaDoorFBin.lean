import Derived.Test.YtagcbcmbojggkaaDoorFOf
import Derived.Test.YtagcbcmbojggkaaDoorFAdd
import Derived.Test.YtagcbcmbojggkaaDoorFRef
namespace Go.Proofs.YtagcbcmbojggkaaDoor
open Go.RowKit Go.Sort

/-- k is a kind; m its modulus, c what is left of 2^256. -/
structure Kind (k m c : Int) : Prop where
  em : kM k = m
  ec : kC k = c
  ee : kE k = 0
  fit : Fit m c
theorem kind_p : Kind 0 pN pC := ⟨rfl, rfl, rfl, fit_p⟩
theorem kind_n : Kind 1 nN nC := ⟨rfl, rfl, rfl, fit_n⟩
theorem of_good {k m c : Int} (h : Kind k m c) (w : World) (hm : Mds w) :
    Calls Tryd.prog 8 #[.int .i64 k] w fun e w' => e = .returned (.tuple #[.agg #[.int .u64 (l0 m), .int .u64 (l1 m), .int .u64 (l2 m), .int .u64 (l3 m), .int .u64 (l0 c), .int .u64 (l1 c), .int .u64 (l2 c), .int .u64 (l3 c)], .int .i64 0]) ∧ Below w.heap.size w w' := by
  have := of_any k w hm
  rw [h.em, h.ec, h.ee] at this
  exact this
theorem of_bad {k : Int} (h0 : k ≠ 0) (h1 : k ≠ 1) (w : World) (hm : Mds w) :
    Calls Tryd.prog 8 #[.int .i64 k] w fun e w' => e = .returned (.tuple #[.agg #[.int .u64 (l0 0), .int .u64 (l1 0), .int .u64 (l2 0), .int .u64 (l3 0), .int .u64 (l0 0), .int .u64 (l1 0), .int .u64 (l2 0), .int .u64 (l3 0)], .int .i64 1]) ∧ Below w.heap.size w w' := by
  have := of_any k w hm
  rw [show kM k = 0 by simp [kM, h0, h1], show kC k = 0 by simp [kC, h0, h1], show kE k = 1 by simp [kE, h0, h1]] at this
  exact this

end Go.Proofs.YtagcbcmbojggkaaDoor

namespace Go.Proofs.YtagcbcmbojggkaaDoor
open Go.RowKit Go.Sort

set_option maxHeartbeats 1000000 in
theorem rgood_yes {k : Int} (hk : k = 0 ∨ k = 1) (w : World) : Calls Tryd.prog 12 #[.int .i64 k] w fun e w' => e = .returned (.bool true) ∧ Below w.heap.size w w' := by
  rcases hk with rfl | rfl
  · skip
    go_enter Tryd.func12, Tryd.ntmps12
    go_wp2
    simp [bodyPost, results, Tryd.results12, go_sem]
    repeat (first | with_reducible exact Below.refl _ _ | with_reducible refine Below.drew ?_ | with_reducible refine Below.alloc ?_ (by first | omega | (simp; done) | (simp; omega)) _ | with_reducible refine Below.setCell ?_ (by first | omega | (simp; done)) _)
  · skip
    go_enter Tryd.func12, Tryd.ntmps12
    go_wp2
    simp [bodyPost, results, Tryd.results12, go_sem]
    repeat (first | with_reducible exact Below.refl _ _ | with_reducible refine Below.drew ?_ | with_reducible refine Below.alloc ?_ (by first | omega | (simp; done) | (simp; omega)) _ | with_reducible refine Below.setCell ?_ (by first | omega | (simp; done)) _)

set_option maxHeartbeats 1000000 in
theorem rgood_no {k : Int} (h0 : k ≠ 0) (h1 : k ≠ 1) (w : World) : Calls Tryd.prog 12 #[.int .i64 k] w fun e w' => e = .returned (.bool false) ∧ Below w.heap.size w w' := by
  have t0 : (k == 0) = false := by simp [h0]
  have t1 : (k == 1) = false := by simp [h1]
  clear h0 h1
  go_enter Tryd.func12, Tryd.ntmps12
  go_wp2
  simp [bodyPost, results, Tryd.results12, go_sem]
  repeat (first | with_reducible exact Below.refl _ _ | with_reducible refine Below.drew ?_ | with_reducible refine Below.alloc ?_ (by first | omega | (simp; done) | (simp; omega)) _ | with_reducible refine Below.setCell ?_ (by first | omega | (simp; done)) _)

set_option maxHeartbeats 2000000 in
theorem rtimes_any {k x y : Int} (hx : Num x) (hy : Num y) (w : World) :
    Calls Tryd.prog 35 #[.int .i64 k, .agg #[.int .u64 (l0 x), .int .u64 (l1 x), .int .u64 (l2 x), .int .u64 (l3 x)], .agg #[.int .u64 (l0 y), .int .u64 (l1 y), .int .u64 (l2 y), .int .u64 (l3 y)]] w fun e w' => e = .returned (.agg #[.int .u64 (l0 (modN (rM k) (x * y))), .int .u64 (l1 (modN (rM k) (x * y))), .int .u64 (l2 (modN (rM k) (x * y))), .int .u64 (l3 (modN (rM k) (x * y)))]) ∧ Below w.heap.size w w' := by
  have M1 : Hid (∀ w, Calls Tryd.prog 41 #[.agg #[.int .u64 (l0 x), .int .u64 (l1 x), .int .u64 (l2 x), .int .u64 (l3 x)], .agg #[.int .u64 (l0 y), .int .u64 (l1 y), .int .u64 (l2 y), .int .u64 (l3 y)]] w fun e w' => e = .returned (.tuple #[.agg #[.int .u64 (l0 (hiN x y)), .int .u64 (l1 (hiN x y)), .int .u64 (l2 (hiN x y)), .int .u64 (l3 (hiN x y))], .agg #[.int .u64 (l0 (loN x y)), .int .u64 (l1 (loN x y)), .int .u64 (l2 (loN x y)), .int .u64 (l3 (loN x y))]]) ∧ Below w.heap.size w w') := rmul_any hx hy
  have R1 : Hid (∀ w, Calls Tryd.prog 31 #[.int .i64 k, .agg #[.int .u64 (l0 (hiN x y)), .int .u64 (l1 (hiN x y)), .int .u64 (l2 (hiN x y)), .int .u64 (l3 (hiN x y))], .agg #[.int .u64 (l0 (loN x y)), .int .u64 (l1 (loN x y)), .int .u64 (l2 (loN x y)), .int .u64 (l3 (loN x y))]] w fun e w' => e = .returned (.agg #[.int .u64 (l0 (modN (rM k) (x * y))), .int .u64 (l1 (modN (rM k) (x * y))), .int .u64 (l2 (modN (rM k) (x * y))), .int .u64 (l3 (modN (rM k) (x * y)))]) ∧ Below w.heap.size w w') := fun w => by
    have := rfold_any (k := k) (hiN_Num hx hy) (loN_Num x y) w; rw [wide_mul] at this; exact this
  generalize modN (rM k) (x * y) = R at *
  generalize hiN x y = H at *
  generalize loN x y = L at *
  go_enter Tryd.func35, Tryd.ntmps35
  go_wp2_with fail
  refine calls_world (fun W => Below w.heap.size w W ∧ Blank W (w.heap.size + 1 + 1)) ⟨by repeat (first | with_reducible exact Below.refl _ _ | with_reducible refine Below.alloc ?_ (by first | omega | (simp; done) | (simp; omega)) _), Blank.new (by simp)⟩ ?_
  rintro W ⟨B, hR⟩
  have o3 : w.heap.size ≤ w.heap.size + 1 + 1 := by omega
  generalize w.heap.size + 1 + 1 = br at *
  with_reducible refine (M1.out _).mono ?_
  rintro e w1 ⟨rfl, hb⟩
  replace B := B.trans (hb.mono B.size)
  replace hR := hR.keep hb
  clear hb W
  go_wp2_with fail
  refine calls_world (fun W => Below w.heap.size w W ∧ Blank W br) ⟨(B.alloc B.size _).alloc (by have := B.size; simp; omega) _, (hR.alloc _).alloc _⟩ ?_
  clear B hR
  rintro W ⟨B, hR⟩
  with_reducible refine (R1.out _).mono ?_
  rintro e w2 ⟨rfl, hb⟩
  replace B := B.trans (hb.mono B.size)
  replace hR := hR.keep hb
  clear hb W
  have gR := hR.1.all4; have fR := hR.2.all4
  go_wp2
  simp [bodyPost, results, Tryd.results35, go_sem, gR]
  exact below_set4 B o3 _ _ _ _

end Go.Proofs.YtagcbcmbojggkaaDoor

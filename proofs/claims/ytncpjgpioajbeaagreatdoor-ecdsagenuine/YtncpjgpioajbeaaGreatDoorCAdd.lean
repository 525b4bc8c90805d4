import Derived.Test.YtncpjgpioajbeaaGreatDoorEMod
import Derived.Test.YtncpjgpioajbeaaGreatDoorQAlloc
namespace Go.Proofs.YtncpjgpioajbeaaGreatDoor
open Go.RowKit Go.Sort

/-- What is reckoned where the run is not 0. -/
structure LateC (z z2 c ey h r k m q n p s u v1 v2 v3 v o1 o2 : Int) : Prop where
  A11 : Hid (∀ w, Mds w → Calls Tryz.prog 62 #[.agg #[.int .u64 (l0 h), .int .u64 (l1 h), .int .u64 (l2 h), .int .u64 (l3 h)]] w fun e w' => e = .returned (.agg #[.int .u64 (l0 k), .int .u64 (l1 k), .int .u64 (l2 k), .int .u64 (l3 k)]) ∧ Below w.heap.size w w')
  A12 : Hid (∀ w, Mds w → Calls Tryz.prog 63 #[.agg #[.int .u64 (l0 k), .int .u64 (l1 k), .int .u64 (l2 k), .int .u64 (l3 k)], .agg #[.int .u64 (l0 h), .int .u64 (l1 h), .int .u64 (l2 h), .int .u64 (l3 h)]] w fun e w' => e = .returned (.agg #[.int .u64 (l0 m), .int .u64 (l1 m), .int .u64 (l2 m), .int .u64 (l3 m)]) ∧ Below w.heap.size w w')
  A13 : Hid (∀ w, Mds w → Calls Tryz.prog 63 #[.agg #[.int .u64 (l0 c), .int .u64 (l1 c), .int .u64 (l2 c), .int .u64 (l3 c)], .agg #[.int .u64 (l0 k), .int .u64 (l1 k), .int .u64 (l2 k), .int .u64 (l3 k)]] w fun e w' => e = .returned (.agg #[.int .u64 (l0 q), .int .u64 (l1 q), .int .u64 (l2 q), .int .u64 (l3 q)]) ∧ Below w.heap.size w w')
  A14 : Hid (∀ w, Mds w → Calls Tryz.prog 62 #[.agg #[.int .u64 (l0 r), .int .u64 (l1 r), .int .u64 (l2 r), .int .u64 (l3 r)]] w fun e w' => e = .returned (.agg #[.int .u64 (l0 n), .int .u64 (l1 n), .int .u64 (l2 n), .int .u64 (l3 n)]) ∧ Below w.heap.size w w')
  A15 : Hid (∀ w, Mds w → Calls Tryz.prog 90 #[.agg #[.int .u64 (l0 n), .int .u64 (l1 n), .int .u64 (l2 n), .int .u64 (l3 n)], .agg #[.int .u64 (l0 m), .int .u64 (l1 m), .int .u64 (l2 m), .int .u64 (l3 m)]] w fun e w' => e = .returned (.agg #[.int .u64 (l0 p), .int .u64 (l1 p), .int .u64 (l2 p), .int .u64 (l3 p)]) ∧ Below w.heap.size w w')
  A16 : Hid (∀ w, Mds w → Calls Tryz.prog 92 #[.agg #[.int .u64 (l0 q), .int .u64 (l1 q), .int .u64 (l2 q), .int .u64 (l3 q)]] w fun e w' => e = .returned (.agg #[.int .u64 (l0 s), .int .u64 (l1 s), .int .u64 (l2 s), .int .u64 (l3 s)]) ∧ Below w.heap.size w w')
  A17 : Hid (∀ w, Mds w → Calls Tryz.prog 90 #[.agg #[.int .u64 (l0 p), .int .u64 (l1 p), .int .u64 (l2 p), .int .u64 (l3 p)], .agg #[.int .u64 (l0 s), .int .u64 (l1 s), .int .u64 (l2 s), .int .u64 (l3 s)]] w fun e w' => e = .returned (.agg #[.int .u64 (l0 u), .int .u64 (l1 u), .int .u64 (l2 u), .int .u64 (l3 u)]) ∧ Below w.heap.size w w')
  A18 : Hid (∀ w, Mds w → Calls Tryz.prog 90 #[.agg #[.int .u64 (l0 q), .int .u64 (l1 q), .int .u64 (l2 q), .int .u64 (l3 q)], .agg #[.int .u64 (l0 u), .int .u64 (l1 u), .int .u64 (l2 u), .int .u64 (l3 u)]] w fun e w' => e = .returned (.agg #[.int .u64 (l0 v1), .int .u64 (l1 v1), .int .u64 (l2 v1), .int .u64 (l3 v1)]) ∧ Below w.heap.size w w')
  A19 : Hid (∀ w, Mds w → Calls Tryz.prog 63 #[.agg #[.int .u64 (l0 r), .int .u64 (l1 r), .int .u64 (l2 r), .int .u64 (l3 r)], .agg #[.int .u64 (l0 v1), .int .u64 (l1 v1), .int .u64 (l2 v1), .int .u64 (l3 v1)]] w fun e w' => e = .returned (.agg #[.int .u64 (l0 v2), .int .u64 (l1 v2), .int .u64 (l2 v2), .int .u64 (l3 v2)]) ∧ Below w.heap.size w w')
  A20 : Hid (∀ w, Mds w → Calls Tryz.prog 63 #[.agg #[.int .u64 (l0 ey), .int .u64 (l1 ey), .int .u64 (l2 ey), .int .u64 (l3 ey)], .agg #[.int .u64 (l0 m), .int .u64 (l1 m), .int .u64 (l2 m), .int .u64 (l3 m)]] w fun e w' => e = .returned (.agg #[.int .u64 (l0 v3), .int .u64 (l1 v3), .int .u64 (l2 v3), .int .u64 (l3 v3)]) ∧ Below w.heap.size w w')
  A21 : Hid (∀ w, Mds w → Calls Tryz.prog 90 #[.agg #[.int .u64 (l0 v2), .int .u64 (l1 v2), .int .u64 (l2 v2), .int .u64 (l3 v2)], .agg #[.int .u64 (l0 v3), .int .u64 (l1 v3), .int .u64 (l2 v3), .int .u64 (l3 v3)]] w fun e w' => e = .returned (.agg #[.int .u64 (l0 v), .int .u64 (l1 v), .int .u64 (l2 v), .int .u64 (l3 v)]) ∧ Below w.heap.size w w')
  A22 : Hid (∀ w, Mds w → Calls Tryz.prog 63 #[.agg #[.int .u64 (l0 z), .int .u64 (l1 z), .int .u64 (l2 z), .int .u64 (l3 z)], .agg #[.int .u64 (l0 z2), .int .u64 (l1 z2), .int .u64 (l2 z2), .int .u64 (l3 z2)]] w fun e w' => e = .returned (.agg #[.int .u64 (l0 o1), .int .u64 (l1 o1), .int .u64 (l2 o1), .int .u64 (l3 o1)]) ∧ Below w.heap.size w w')
  A23 : Hid (∀ w, Mds w → Calls Tryz.prog 63 #[.agg #[.int .u64 (l0 o1), .int .u64 (l1 o1), .int .u64 (l2 o1), .int .u64 (l3 o1)], .agg #[.int .u64 (l0 h), .int .u64 (l1 h), .int .u64 (l2 h), .int .u64 (l3 h)]] w fun e w' => e = .returned (.agg #[.int .u64 (l0 o2), .int .u64 (l1 o2), .int .u64 (l2 o2), .int .u64 (l3 o2)]) ∧ Below w.heap.size w w')

set_option maxRecDepth 100000 in
set_option maxHeartbeats 32000000 in
theorem cadd_walk {x y z x2 y2 z2 a b c d ey f h g j r X Y Z : Int} (C0 : Hid (∀ w, Calls Tryz.prog 61 #[.agg #[.int .u64 (l0 x), .int .u64 (l1 x), .int .u64 (l2 x), .int .u64 (l3 x), .int .u64 (l0 y), .int .u64 (l1 y), .int .u64 (l2 y), .int .u64 (l3 y), .int .u64 (l0 z), .int .u64 (l1 z), .int .u64 (l2 z), .int .u64 (l3 z)]] w fun e w' => e = .returned (.bool false) ∧ Below w.heap.size w w'))
    (C1 : Hid (∀ w, Calls Tryz.prog 61 #[.agg #[.int .u64 (l0 x2), .int .u64 (l1 x2), .int .u64 (l2 x2), .int .u64 (l3 x2), .int .u64 (l0 y2), .int .u64 (l1 y2), .int .u64 (l2 y2), .int .u64 (l3 y2), .int .u64 (l0 z2), .int .u64 (l1 z2), .int .u64 (l2 z2), .int .u64 (l3 z2)]] w fun e w' => e = .returned (.bool false) ∧ Below w.heap.size w w'))
    (A1 : Hid (∀ w, Mds w → Calls Tryz.prog 62 #[.agg #[.int .u64 (l0 z), .int .u64 (l1 z), .int .u64 (l2 z), .int .u64 (l3 z)]] w fun e w' => e = .returned (.agg #[.int .u64 (l0 a), .int .u64 (l1 a), .int .u64 (l2 a), .int .u64 (l3 a)]) ∧ Below w.heap.size w w'))
    (A2 : Hid (∀ w, Mds w → Calls Tryz.prog 62 #[.agg #[.int .u64 (l0 z2), .int .u64 (l1 z2), .int .u64 (l2 z2), .int .u64 (l3 z2)]] w fun e w' => e = .returned (.agg #[.int .u64 (l0 b), .int .u64 (l1 b), .int .u64 (l2 b), .int .u64 (l3 b)]) ∧ Below w.heap.size w w'))
    (A3 : Hid (∀ w, Mds w → Calls Tryz.prog 63 #[.agg #[.int .u64 (l0 x), .int .u64 (l1 x), .int .u64 (l2 x), .int .u64 (l3 x)], .agg #[.int .u64 (l0 b), .int .u64 (l1 b), .int .u64 (l2 b), .int .u64 (l3 b)]] w fun e w' => e = .returned (.agg #[.int .u64 (l0 c), .int .u64 (l1 c), .int .u64 (l2 c), .int .u64 (l3 c)]) ∧ Below w.heap.size w w'))
    (A4 : Hid (∀ w, Mds w → Calls Tryz.prog 63 #[.agg #[.int .u64 (l0 b), .int .u64 (l1 b), .int .u64 (l2 b), .int .u64 (l3 b)], .agg #[.int .u64 (l0 z2), .int .u64 (l1 z2), .int .u64 (l2 z2), .int .u64 (l3 z2)]] w fun e w' => e = .returned (.agg #[.int .u64 (l0 d), .int .u64 (l1 d), .int .u64 (l2 d), .int .u64 (l3 d)]) ∧ Below w.heap.size w w'))
    (A5 : Hid (∀ w, Mds w → Calls Tryz.prog 63 #[.agg #[.int .u64 (l0 y), .int .u64 (l1 y), .int .u64 (l2 y), .int .u64 (l3 y)], .agg #[.int .u64 (l0 d), .int .u64 (l1 d), .int .u64 (l2 d), .int .u64 (l3 d)]] w fun e w' => e = .returned (.agg #[.int .u64 (l0 ey), .int .u64 (l1 ey), .int .u64 (l2 ey), .int .u64 (l3 ey)]) ∧ Below w.heap.size w w'))
    (A6 : Hid (∀ w, Mds w → Calls Tryz.prog 63 #[.agg #[.int .u64 (l0 x2), .int .u64 (l1 x2), .int .u64 (l2 x2), .int .u64 (l3 x2)], .agg #[.int .u64 (l0 a), .int .u64 (l1 a), .int .u64 (l2 a), .int .u64 (l3 a)]] w fun e w' => e = .returned (.agg #[.int .u64 (l0 f), .int .u64 (l1 f), .int .u64 (l2 f), .int .u64 (l3 f)]) ∧ Below w.heap.size w w'))
    (A7 : Hid (∀ w, Mds w → Calls Tryz.prog 90 #[.agg #[.int .u64 (l0 f), .int .u64 (l1 f), .int .u64 (l2 f), .int .u64 (l3 f)], .agg #[.int .u64 (l0 c), .int .u64 (l1 c), .int .u64 (l2 c), .int .u64 (l3 c)]] w fun e w' => e = .returned (.agg #[.int .u64 (l0 h), .int .u64 (l1 h), .int .u64 (l2 h), .int .u64 (l3 h)]) ∧ Below w.heap.size w w'))
    (A8 : Hid (∀ w, Mds w → Calls Tryz.prog 63 #[.agg #[.int .u64 (l0 a), .int .u64 (l1 a), .int .u64 (l2 a), .int .u64 (l3 a)], .agg #[.int .u64 (l0 z), .int .u64 (l1 z), .int .u64 (l2 z), .int .u64 (l3 z)]] w fun e w' => e = .returned (.agg #[.int .u64 (l0 g), .int .u64 (l1 g), .int .u64 (l2 g), .int .u64 (l3 g)]) ∧ Below w.heap.size w w'))
    (A9 : Hid (∀ w, Mds w → Calls Tryz.prog 63 #[.agg #[.int .u64 (l0 y2), .int .u64 (l1 y2), .int .u64 (l2 y2), .int .u64 (l3 y2)], .agg #[.int .u64 (l0 g), .int .u64 (l1 g), .int .u64 (l2 g), .int .u64 (l3 g)]] w fun e w' => e = .returned (.agg #[.int .u64 (l0 j), .int .u64 (l1 j), .int .u64 (l2 j), .int .u64 (l3 j)]) ∧ Below w.heap.size w w'))
    (A10 : Hid (∀ w, Mds w → Calls Tryz.prog 90 #[.agg #[.int .u64 (l0 j), .int .u64 (l1 j), .int .u64 (l2 j), .int .u64 (l3 j)], .agg #[.int .u64 (l0 ey), .int .u64 (l1 ey), .int .u64 (l2 ey), .int .u64 (l3 ey)]] w fun e w' => e = .returned (.agg #[.int .u64 (l0 r), .int .u64 (l1 r), .int .u64 (l2 r), .int .u64 (l3 r)]) ∧ Below w.heap.size w w'))
    (HB : Hid (((∀ w, (Op.equalIn 10000 24 (.agg #[.int .u64 (l0 h), .int .u64 (l1 h), .int .u64 (l2 h), .int .u64 (l3 h)]) (.agg #[.int .u64 0, .int .u64 0, .int .u64 0, .int .u64 0])).run Tryz.prog w = .ok true w) ∧ Hid (∀ w, Mds w → Calls Tryz.prog 93 #[.agg #[.int .u64 (l0 x), .int .u64 (l1 x), .int .u64 (l2 x), .int .u64 (l3 x), .int .u64 (l0 y), .int .u64 (l1 y), .int .u64 (l2 y), .int .u64 (l3 y), .int .u64 (l0 z), .int .u64 (l1 z), .int .u64 (l2 z), .int .u64 (l3 z)], .agg #[.int .u64 (l0 r), .int .u64 (l1 r), .int .u64 (l2 r), .int .u64 (l3 r)]] w fun e w' => e = .returned (.agg #[.int .u64 (l0 X), .int .u64 (l1 X), .int .u64 (l2 X), .int .u64 (l3 X), .int .u64 (l0 Y), .int .u64 (l1 Y), .int .u64 (l2 Y), .int .u64 (l3 Y), .int .u64 (l0 Z), .int .u64 (l1 Z), .int .u64 (l2 Z), .int .u64 (l3 Z)]) ∧ Below w.heap.size w w')) ∨
      ((∀ w, (Op.equalIn 10000 24 (.agg #[.int .u64 (l0 h), .int .u64 (l1 h), .int .u64 (l2 h), .int .u64 (l3 h)]) (.agg #[.int .u64 0, .int .u64 0, .int .u64 0, .int .u64 0])).run Tryz.prog w = .ok false w) ∧ ∃ k m q n p s v1 v2 v3 o1, LateC z z2 c ey h r k m q n p s X v1 v2 v3 Y o1 Z)))
    (w : World) (hm : Mds w) :
    Calls Tryz.prog 57 #[.agg #[.int .u64 (l0 x), .int .u64 (l1 x), .int .u64 (l2 x), .int .u64 (l3 x), .int .u64 (l0 y), .int .u64 (l1 y), .int .u64 (l2 y), .int .u64 (l3 y), .int .u64 (l0 z), .int .u64 (l1 z), .int .u64 (l2 z), .int .u64 (l3 z)], .agg #[.int .u64 (l0 x2), .int .u64 (l1 x2), .int .u64 (l2 x2), .int .u64 (l3 x2), .int .u64 (l0 y2), .int .u64 (l1 y2), .int .u64 (l2 y2), .int .u64 (l3 y2), .int .u64 (l0 z2), .int .u64 (l1 z2), .int .u64 (l2 z2), .int .u64 (l3 z2)]] w fun e w' => e = .returned (.agg #[.int .u64 (l0 X), .int .u64 (l1 X), .int .u64 (l2 X), .int .u64 (l3 X), .int .u64 (l0 Y), .int .u64 (l1 Y), .int .u64 (l2 Y), .int .u64 (l3 Y), .int .u64 (l0 Z), .int .u64 (l1 Z), .int .u64 (l2 Z), .int .u64 (l3 Z)]) ∧ Below w.heap.size w w' := by
  have bz := build_zero
  go_enter Tryz.func57, Tryz.ntmps57
  go_wp2_with fail
  refine calls_world (fun W => Below w.heap.size w W ∧ Mds W ∧ Thr W w.heap.size x y z ∧ Thr W (w.heap.size + 1) x2 y2 z2 ∧ Bk12 W (w.heap.size + 1 + 1)) ⟨by repeat (first | with_reducible exact Below.refl _ _ | with_reducible refine Below.alloc ?_ (by first | omega | (simp; done) | (simp; omega)) _), ((hm.alloc _).alloc _).alloc _, ((Thr.new rfl).alloc _).alloc _, (Thr.new (by simp)).alloc _, Bk12.new (by simp)⟩ ?_
  rintro W ⟨B, hD, hT, hO, hR⟩
  have o3 : w.heap.size ≤ w.heap.size + 1 + 1 := by omega
  generalize w.heap.size + 1 + 1 = br at *
  generalize w.heap.size + 1 = bo at *
  with_reducible refine (C0.out _).mono ?_
  rintro e w1 ⟨rfl, hb⟩
  replace B := B.trans (hb.mono B.size)
  replace hD := hD.keep hb; replace hT := hT.keep hb; replace hO := hO.keep hb; replace hR := hR.keep hb
  clear hb W
  have ghO := hO.cells
  go_wp2_with fail
  refine calls_world (fun W => Below w.heap.size w W ∧ Mds W ∧ Thr W w.heap.size x y z ∧ Thr W bo x2 y2 z2 ∧ Bk12 W br) ⟨B, hD, hT, hO, hR⟩ ?_
  clear B hD hT hO hR ghO
  rintro W ⟨B, hD, hT, hO, hR⟩
  with_reducible refine (C1.out _).mono ?_
  rintro e w2 ⟨rfl, hb⟩
  replace B := B.trans (hb.mono B.size)
  replace hD := hD.keep hb; replace hT := hT.keep hb; replace hO := hO.keep hb; replace hR := hR.keep hb
  clear hb W
  go_wp2_with fail
  refine wp_world (fun W => Below w.heap.size w W ∧ Mds W ∧ Thr W w.heap.size x y z ∧ Thr W bo x2 y2 z2 ∧ Bk12 W br) ⟨B, hD, hT, hO, hR⟩ ?_
  clear B hD hT hO hR 
  rintro W ⟨B, hD, hT, hO, hR⟩
  refine alloc2_tail (A := ?AA1) 6 (by kernel_rfl) (by kernel_rfl) rfl rfl rfl rfl (alloc_num _ _ _) (alloc_num _ _ _) (fun V hV => ?HH1) (fun V V2 w1 hV hw hV2 hw2 hdd => ?TT1)
  case HH1 =>
    have hDg : ∀ d os, Mds (grow (redrawn V d) os) := fun d os => (hD.keep hV).keep (below_regrown V d os)
    have ghT := (hT.keep hV).grown
    have ghO := (hO.keep hV).grown
    unfold Gr
    simp only [List.take_succ_cons, List.take_zero]
    repeat
      first
        | go_big_quiet_skip
        | (go_big_quiet_want; go_big_quiet_op; go_big_quiet_on)
        | (go_big_quiet_want
           go_big_quiet_op
           apply Exists.intro
           refine ⟨fun p => ?_, ?_⟩
           · (first | (go_at_call 62; with_reducible exact Calls.regrown_of (A1.out _ (hDg p.d p.os))) | (go_at_call 62; with_reducible exact Calls.regrown_of (A2.out _ (hDg p.d p.os))))
           go_big_quiet_on)
    refine wpQuiet_nil ?_
    exact rfl
  case TT1 =>
    have hb := alloc_below hV hw
    have hN := (Blank.new rfl).keep hw
    have hM := (Blank.new rfl).keep hw2
    have nhD : V.heap.size ≠ 1 := Nat.ne_of_gt (Nat.lt_of_lt_of_le (hD.lt) hV.size)
    have nhT : V.heap.size ≠ w.heap.size := Nat.ne_of_gt (Nat.lt_of_lt_of_le (hT.lt) hV.size)
    have nhO : V.heap.size ≠ bo := Nat.ne_of_gt (Nat.lt_of_lt_of_le (hO.lt) hV.size)
    have nhR : V.heap.size ≠ br := Nat.ne_of_gt (Nat.lt_of_lt_of_le (hR.lt) hV.size)
    have khD : V2.heap.size ≠ 1 := Nat.ne_of_gt (Nat.lt_of_lt_of_le (hD.lt) hV2.size)
    have khT : V2.heap.size ≠ w.heap.size := Nat.ne_of_gt (Nat.lt_of_lt_of_le (hT.lt) hV2.size)
    have khO : V2.heap.size ≠ bo := Nat.ne_of_gt (Nat.lt_of_lt_of_le (hO.lt) hV2.size)
    have khR : V2.heap.size ≠ br := Nat.ne_of_gt (Nat.lt_of_lt_of_le (hR.lt) hV2.size)
    have gn : w.heap.size ≤ V.heap.size := Nat.le_trans B.size hV.size
    have gm : w.heap.size ≤ V2.heap.size := Nat.le_trans B.size hV2.size
    have hdd2 := hdd.symm
    replace B := B.trans (hb.mono B.size)
    replace hD := hD.keep hb; replace hT := hT.keep hb; replace hO := hO.keep hb; replace hR := hR.keep hb
    clear hb hw hV hw2 hV2 W
    generalize V.heap.size = ba at *
    generalize V2.heap.size = bb at *
    clear V V2
    have gN := hN.1.all4; have qN := hN.2.all4
    have gM := hM.1.all4; have qM := hM.2.all4
    have mhD := nhD.symm
    have lhD := khD.symm
    have mhT := nhT.symm
    have lhT := khT.symm
    have mhO := nhO.symm
    have lhO := khO.symm
    have mhR := nhR.symm
    have lhR := khR.symm
    simp only [List.drop_succ_cons, List.drop_zero, Act.put, List.setIfInBounds_toArray, List.set_cons_zero, List.set_cons_succ]
    go_wp2_with fail
    refine wp_world (fun W => Below w.heap.size w W ∧ Mds W ∧ Thr W w.heap.size x y z ∧ Thr W bo x2 y2 z2 ∧ Bk12 W br ∧ Hold W ba a ∧ Hold W bb b) ⟨below_set4 (below_set4 B gn _ _ _ _) gm _ _ _ _, (hD.set4 nhD _ _ _ _).set4 khD _ _ _ _, (hT.set4 nhT _ _ _ _).set4 khT _ _ _ _, (hO.set4 nhO _ _ _ _).set4 khO _ _ _ _, (hR.set4 nhR _ _ _ _).set4 khR _ _ _ _, (Hold.sets4 (Blank.has hN)).set4 hdd2 _ _ _ _, Hold.sets4 (Blank.has (hM.set4 hdd _ _ _ _))⟩ ?_
    clear B hN gN qN hM gM qM hdd hdd2 hD hT hO hR nhD mhD khD lhD nhT mhT khT lhT nhO mhO khO lhO nhR mhR khR lhR  gn gm
    rintro W ⟨B, hD, hT, hO, hR, hA, hB⟩
    clear w1
    refine alloc2_tail (A := ?AA2) 11 (by kernel_rfl) (by kernel_rfl) rfl rfl rfl rfl (alloc_num _ _ _) (alloc_num _ _ _) (fun V hV => ?HH2) (fun V V2 w1 hV hw hV2 hw2 hdd => ?TT2)
    case HH2 =>
      have hDg : ∀ d os, Mds (grow (redrawn V d) os) := fun d os => (hD.keep hV).keep (below_regrown V d os)
      have ghT := (hT.keep hV).grown
      have ghO := (hO.keep hV).grown
      have ghB := (hB.keep hV).grown
      unfold Gr
      simp only [List.take_succ_cons, List.take_zero]
      repeat
        first
          | go_big_quiet_skip
          | (go_big_quiet_want; go_big_quiet_op; go_big_quiet_on)
          | (go_big_quiet_want
             go_big_quiet_op
             apply Exists.intro
             refine ⟨fun p => ?_, ?_⟩
             · (first | (go_at_call 63; with_reducible exact Calls.regrown_of (A3.out _ (hDg p.d p.os))) | (go_at_call 63; with_reducible exact Calls.regrown_of (A4.out _ (hDg p.d p.os))) | (go_at_call 63; with_reducible exact Calls.regrown_of (A5.out _ (hDg p.d p.os))))
             go_big_quiet_on)
      refine wpQuiet_nil ?_
      exact rfl
    case TT2 =>
      have hb := alloc_below hV hw
      have hN := (Blank.new rfl).keep hw
      have hM := (Blank.new rfl).keep hw2
      have nhD : V.heap.size ≠ 1 := Nat.ne_of_gt (Nat.lt_of_lt_of_le (hD.lt) hV.size)
      have nhT : V.heap.size ≠ w.heap.size := Nat.ne_of_gt (Nat.lt_of_lt_of_le (hT.lt) hV.size)
      have nhO : V.heap.size ≠ bo := Nat.ne_of_gt (Nat.lt_of_lt_of_le (hO.lt) hV.size)
      have nhR : V.heap.size ≠ br := Nat.ne_of_gt (Nat.lt_of_lt_of_le (hR.lt) hV.size)
      have nhA : V.heap.size ≠ ba := Nat.ne_of_gt (Nat.lt_of_lt_of_le (World.block_lt_of_cell? _ _ hA.1) hV.size)
      have nhB : V.heap.size ≠ bb := Nat.ne_of_gt (Nat.lt_of_lt_of_le (World.block_lt_of_cell? _ _ hB.1) hV.size)
      have khD : V2.heap.size ≠ 1 := Nat.ne_of_gt (Nat.lt_of_lt_of_le (hD.lt) hV2.size)
      have khT : V2.heap.size ≠ w.heap.size := Nat.ne_of_gt (Nat.lt_of_lt_of_le (hT.lt) hV2.size)
      have khO : V2.heap.size ≠ bo := Nat.ne_of_gt (Nat.lt_of_lt_of_le (hO.lt) hV2.size)
      have khR : V2.heap.size ≠ br := Nat.ne_of_gt (Nat.lt_of_lt_of_le (hR.lt) hV2.size)
      have khA : V2.heap.size ≠ ba := Nat.ne_of_gt (Nat.lt_of_lt_of_le (World.block_lt_of_cell? _ _ hA.1) hV2.size)
      have khB : V2.heap.size ≠ bb := Nat.ne_of_gt (Nat.lt_of_lt_of_le (World.block_lt_of_cell? _ _ hB.1) hV2.size)
      have gn : w.heap.size ≤ V.heap.size := Nat.le_trans B.size hV.size
      have gm : w.heap.size ≤ V2.heap.size := Nat.le_trans B.size hV2.size
      have hdd2 := hdd.symm
      replace B := B.trans (hb.mono B.size)
      replace hD := hD.keep hb; replace hT := hT.keep hb; replace hO := hO.keep hb; replace hR := hR.keep hb; replace hA := hA.keep hb; replace hB := hB.keep hb
      clear hb hw hV hw2 hV2 W
      generalize V.heap.size = bc at *
      generalize V2.heap.size = be at *
      clear V V2
      have gN := hN.1.all4; have qN := hN.2.all4
      have gM := hM.1.all4; have qM := hM.2.all4
      have mhD := nhD.symm
      have lhD := khD.symm
      have mhT := nhT.symm
      have lhT := khT.symm
      have mhO := nhO.symm
      have lhO := khO.symm
      have mhR := nhR.symm
      have lhR := khR.symm
      have mhA := nhA.symm
      have lhA := khA.symm
      have mhB := nhB.symm
      have lhB := khB.symm
      simp only [List.drop_succ_cons, List.drop_zero, Act.put, List.setIfInBounds_toArray, List.set_cons_zero, List.set_cons_succ]
      go_wp2_with fail
      refine wp_world (fun W => Below w.heap.size w W ∧ Mds W ∧ Thr W w.heap.size x y z ∧ Thr W bo x2 y2 z2 ∧ Bk12 W br ∧ Hold W ba a ∧ Hold W bb b ∧ Hold W bc c ∧ Hold W be ey) ⟨below_set4 (below_set4 B gn _ _ _ _) gm _ _ _ _, (hD.set4 nhD _ _ _ _).set4 khD _ _ _ _, (hT.set4 nhT _ _ _ _).set4 khT _ _ _ _, (hO.set4 nhO _ _ _ _).set4 khO _ _ _ _, (hR.set4 nhR _ _ _ _).set4 khR _ _ _ _, (hA.set4 nhA _ _ _ _).set4 khA _ _ _ _, (hB.set4 nhB _ _ _ _).set4 khB _ _ _ _, (Hold.sets4 (Blank.has hN)).set4 hdd2 _ _ _ _, Hold.sets4 (Blank.has (hM.set4 hdd _ _ _ _))⟩ ?_
      clear B hN gN qN hM gM qM hdd hdd2 hD hT hO hR hA hB nhD mhD khD lhD nhT mhT khT lhT nhO mhO khO lhO nhR mhR khR lhR nhA mhA khA lhA nhB mhB khB lhB  gn gm
      rintro W ⟨B, hD, hT, hO, hR, hA, hB, hC, hE⟩
      clear w1
      clear hB
      refine alloc_tail (A := ?AA3) 6 (by kernel_rfl) (by kernel_rfl) rfl rfl (alloc_num _ _ _) (fun V hV => ?HH3) (fun V w1 hV hw => ?TT3)
      case HH3 =>
        have hDg : ∀ d os, Mds (grow (redrawn V d) os) := fun d os => (hD.keep hV).keep (below_regrown V d os)
        have ghO := (hO.keep hV).grown
        have ghA := (hA.keep hV).grown
        have ghC := (hC.keep hV).grown
        unfold Gr
        simp only [List.take_succ_cons, List.take_zero]
        repeat
          first
            | go_big_quiet_skip
            | (go_big_quiet_want; go_big_quiet_op; go_big_quiet_on)
            | (go_big_quiet_want
               go_big_quiet_op
               apply Exists.intro
               refine ⟨fun p => ?_, ?_⟩
               · (first | (go_at_call 63; with_reducible exact Calls.regrown_of (A6.out _ (hDg p.d p.os))) | (go_at_call 90; with_reducible exact Calls.regrown_of (A7.out _ (hDg p.d p.os))))
               go_big_quiet_on)
        refine wpQuiet_nil ?_
        exact rfl
      case TT3 =>
        have hb := alloc_below hV hw
        have hN := (Blank.new rfl).keep hw
        have nhD : V.heap.size ≠ 1 := Nat.ne_of_gt (Nat.lt_of_lt_of_le (hD.lt) hV.size)
        have nhT : V.heap.size ≠ w.heap.size := Nat.ne_of_gt (Nat.lt_of_lt_of_le (hT.lt) hV.size)
        have nhO : V.heap.size ≠ bo := Nat.ne_of_gt (Nat.lt_of_lt_of_le (hO.lt) hV.size)
        have nhR : V.heap.size ≠ br := Nat.ne_of_gt (Nat.lt_of_lt_of_le (hR.lt) hV.size)
        have nhA : V.heap.size ≠ ba := Nat.ne_of_gt (Nat.lt_of_lt_of_le (World.block_lt_of_cell? _ _ hA.1) hV.size)
        have nhC : V.heap.size ≠ bc := Nat.ne_of_gt (Nat.lt_of_lt_of_le (World.block_lt_of_cell? _ _ hC.1) hV.size)
        have nhE : V.heap.size ≠ be := Nat.ne_of_gt (Nat.lt_of_lt_of_le (World.block_lt_of_cell? _ _ hE.1) hV.size)
        have gn : w.heap.size ≤ V.heap.size := Nat.le_trans B.size hV.size
        replace B := B.trans (hb.mono B.size)
        replace hD := hD.keep hb; replace hT := hT.keep hb; replace hO := hO.keep hb; replace hR := hR.keep hb; replace hA := hA.keep hb; replace hC := hC.keep hb; replace hE := hE.keep hb
        clear hb hw hV W
        generalize V.heap.size = bh at *
        clear V
        have gN := hN.1.all4; have qN := hN.2.all4
        have mhD := nhD.symm
        have mhT := nhT.symm
        have mhO := nhO.symm
        have mhR := nhR.symm
        have mhA := nhA.symm
        have mhC := nhC.symm
        have mhE := nhE.symm
        simp only [List.drop_succ_cons, List.drop_zero, Act.put, List.setIfInBounds_toArray, List.set_cons_zero, List.set_cons_succ]
        go_wp2_with fail
        refine wp_world (fun W => Below w.heap.size w W ∧ Mds W ∧ Thr W w.heap.size x y z ∧ Thr W bo x2 y2 z2 ∧ Bk12 W br ∧ Hold W ba a ∧ Hold W bc c ∧ Hold W be ey ∧ Hold W bh h) ⟨below_set4 B gn _ _ _ _, hD.set4 nhD _ _ _ _, hT.set4 nhT _ _ _ _, hO.set4 nhO _ _ _ _, hR.set4 nhR _ _ _ _, hA.set4 nhA _ _ _ _, hC.set4 nhC _ _ _ _, hE.set4 nhE _ _ _ _, Hold.sets4 (Blank.has hN)⟩ ?_
        clear B hN gN qN hD hT hO hR hA hC hE nhD mhD nhT mhT nhO mhO nhR mhR nhA mhA nhC mhC nhE mhE  gn
        rintro W ⟨B, hD, hT, hO, hR, hA, hC, hE, hH⟩
        clear w1
        clear C0 C1 A1 A2 A3 A4 A5 A6 A7
        rcases HB.out with ⟨he, CS⟩ | ⟨he, k, m, q, n, p, s, v1, v2, v3, o1, L⟩
        · clear HB
          refine alloc_tail (A := ?AA4) 9 (by kernel_rfl) (by kernel_rfl) rfl rfl (alloc_num _ _ _) (fun V hV => ?HH4) (fun V w1 hV hw => ?TT4)
          case HH4 =>
            have hDg : ∀ d os, Mds (grow (redrawn V d) os) := fun d os => (hD.keep hV).keep (below_regrown V d os)
            have ghT := (hT.keep hV).grown
            have ghO := (hO.keep hV).grown
            have ghA := (hA.keep hV).grown
            have ghE := (hE.keep hV).grown
            unfold Gr
            simp only [List.take_succ_cons, List.take_zero]
            repeat
              first
                | go_big_quiet_skip
                | (go_big_quiet_want; go_big_quiet_op; go_big_quiet_on)
                | (go_big_quiet_want
                   go_big_quiet_op
                   apply Exists.intro
                   refine ⟨fun p => ?_, ?_⟩
                   · (first | (go_at_call 63; with_reducible exact Calls.regrown_of (A8.out _ (hDg p.d p.os))) | (go_at_call 63; with_reducible exact Calls.regrown_of (A9.out _ (hDg p.d p.os))) | (go_at_call 90; with_reducible exact Calls.regrown_of (A10.out _ (hDg p.d p.os))))
                   go_big_quiet_on)
            refine wpQuiet_nil ?_
            exact rfl
          case TT4 =>
            have hb := alloc_below hV hw
            have hN := (Blank.new rfl).keep hw
            have nhD : V.heap.size ≠ 1 := Nat.ne_of_gt (Nat.lt_of_lt_of_le (hD.lt) hV.size)
            have nhT : V.heap.size ≠ w.heap.size := Nat.ne_of_gt (Nat.lt_of_lt_of_le (hT.lt) hV.size)
            have nhO : V.heap.size ≠ bo := Nat.ne_of_gt (Nat.lt_of_lt_of_le (hO.lt) hV.size)
            have nhR : V.heap.size ≠ br := Nat.ne_of_gt (Nat.lt_of_lt_of_le (hR.lt) hV.size)
            have nhA : V.heap.size ≠ ba := Nat.ne_of_gt (Nat.lt_of_lt_of_le (World.block_lt_of_cell? _ _ hA.1) hV.size)
            have nhC : V.heap.size ≠ bc := Nat.ne_of_gt (Nat.lt_of_lt_of_le (World.block_lt_of_cell? _ _ hC.1) hV.size)
            have nhE : V.heap.size ≠ be := Nat.ne_of_gt (Nat.lt_of_lt_of_le (World.block_lt_of_cell? _ _ hE.1) hV.size)
            have nhH : V.heap.size ≠ bh := Nat.ne_of_gt (Nat.lt_of_lt_of_le (World.block_lt_of_cell? _ _ hH.1) hV.size)
            have gn : w.heap.size ≤ V.heap.size := Nat.le_trans B.size hV.size
            replace B := B.trans (hb.mono B.size)
            replace hD := hD.keep hb; replace hT := hT.keep hb; replace hO := hO.keep hb; replace hR := hR.keep hb; replace hA := hA.keep hb; replace hC := hC.keep hb; replace hE := hE.keep hb; replace hH := hH.keep hb
            clear hb hw hV W
            generalize V.heap.size = bg at *
            clear V
            have gN := hN.1.all4; have qN := hN.2.all4
            have ghT := hT.cells
            have ghH := hH.cells
            have mhD := nhD.symm
            have mhT := nhT.symm
            have mhO := nhO.symm
            have mhR := nhR.symm
            have mhA := nhA.symm
            have mhC := nhC.symm
            have mhE := nhE.symm
            have mhH := nhH.symm
            simp only [List.drop_succ_cons, List.drop_zero, Act.put, List.setIfInBounds_toArray, List.set_cons_zero, List.set_cons_succ]
            go_wp2_with fail
            refine calls_world (fun W => Below w.heap.size w W ∧ Mds W ∧ Thr W w.heap.size x y z ∧ Thr W bo x2 y2 z2 ∧ Bk12 W br ∧ Hold W ba a ∧ Hold W bc c ∧ Hold W be ey ∧ Hold W bh h ∧ Hold W bg r) ⟨below_set4 B gn _ _ _ _, hD.set4 nhD _ _ _ _, hT.set4 nhT _ _ _ _, hO.set4 nhO _ _ _ _, hR.set4 nhR _ _ _ _, hA.set4 nhA _ _ _ _, hC.set4 nhC _ _ _ _, hE.set4 nhE _ _ _ _, hH.set4 nhH _ _ _ _, Hold.sets4 (Blank.has hN)⟩ ?_
            clear B hN gN qN hD hT hO hR hA hC hE hH nhD mhD nhT mhT nhO mhO nhR mhR nhA mhA nhC mhC nhE mhE nhH mhH ghT ghH gn
            rintro W ⟨B, hD, hT, hO, hR, hA, hC, hE, hH, hG⟩
            clear w1
            with_reducible refine (CS.out _ hD).mono ?_
            rintro e w9 ⟨rfl, hb⟩
            replace B := B.trans (hb.mono B.size)
            replace hD := hD.keep hb; replace hT := hT.keep hb; replace hO := hO.keep hb; replace hR := hR.keep hb; replace hA := hA.keep hb; replace hC := hC.keep hb; replace hE := hE.keep hb; replace hH := hH.keep hb; replace hG := hG.keep hb
            clear hb W hD hT hO hA hC hE hH hG
            have gR := hR.cells; have fR := hR.free
            go_wp2
            simp [bodyPost, results, Tryz.results57, go_sem, gR]
            repeat (first | with_reducible exact B | with_reducible refine Below.setCell ?_ o3 _)
        · clear HB
          obtain ⟨A11, A12, A13, A14, A15, A16, A17, A18, A19, A20, A21, A22, A23⟩ := L
          refine alloc_tail (A := ?AA5) 9 (by kernel_rfl) (by kernel_rfl) rfl rfl (alloc_num _ _ _) (fun V hV => ?HH5) (fun V w1 hV hw => ?TT5)
          case HH5 =>
            have hDg : ∀ d os, Mds (grow (redrawn V d) os) := fun d os => (hD.keep hV).keep (below_regrown V d os)
            have ghT := (hT.keep hV).grown
            have ghO := (hO.keep hV).grown
            have ghA := (hA.keep hV).grown
            have ghE := (hE.keep hV).grown
            unfold Gr
            simp only [List.take_succ_cons, List.take_zero]
            repeat
              first
                | go_big_quiet_skip
                | (go_big_quiet_want; go_big_quiet_op; go_big_quiet_on)
                | (go_big_quiet_want
                   go_big_quiet_op
                   apply Exists.intro
                   refine ⟨fun p => ?_, ?_⟩
                   · (first | (go_at_call 63; with_reducible exact Calls.regrown_of (A8.out _ (hDg p.d p.os))) | (go_at_call 63; with_reducible exact Calls.regrown_of (A9.out _ (hDg p.d p.os))) | (go_at_call 90; with_reducible exact Calls.regrown_of (A10.out _ (hDg p.d p.os))))
                   go_big_quiet_on)
            refine wpQuiet_nil ?_
            exact rfl
          case TT5 =>
            have hb := alloc_below hV hw
            have hN := (Blank.new rfl).keep hw
            have nhD : V.heap.size ≠ 1 := Nat.ne_of_gt (Nat.lt_of_lt_of_le (hD.lt) hV.size)
            have nhT : V.heap.size ≠ w.heap.size := Nat.ne_of_gt (Nat.lt_of_lt_of_le (hT.lt) hV.size)
            have nhO : V.heap.size ≠ bo := Nat.ne_of_gt (Nat.lt_of_lt_of_le (hO.lt) hV.size)
            have nhR : V.heap.size ≠ br := Nat.ne_of_gt (Nat.lt_of_lt_of_le (hR.lt) hV.size)
            have nhA : V.heap.size ≠ ba := Nat.ne_of_gt (Nat.lt_of_lt_of_le (World.block_lt_of_cell? _ _ hA.1) hV.size)
            have nhC : V.heap.size ≠ bc := Nat.ne_of_gt (Nat.lt_of_lt_of_le (World.block_lt_of_cell? _ _ hC.1) hV.size)
            have nhE : V.heap.size ≠ be := Nat.ne_of_gt (Nat.lt_of_lt_of_le (World.block_lt_of_cell? _ _ hE.1) hV.size)
            have nhH : V.heap.size ≠ bh := Nat.ne_of_gt (Nat.lt_of_lt_of_le (World.block_lt_of_cell? _ _ hH.1) hV.size)
            have gn : w.heap.size ≤ V.heap.size := Nat.le_trans B.size hV.size
            replace B := B.trans (hb.mono B.size)
            replace hD := hD.keep hb; replace hT := hT.keep hb; replace hO := hO.keep hb; replace hR := hR.keep hb; replace hA := hA.keep hb; replace hC := hC.keep hb; replace hE := hE.keep hb; replace hH := hH.keep hb
            clear hb hw hV W
            generalize V.heap.size = bg at *
            clear V
            have gN := hN.1.all4; have qN := hN.2.all4
            have ghH := hH.cells
            have mhD := nhD.symm
            have mhT := nhT.symm
            have mhO := nhO.symm
            have mhR := nhR.symm
            have mhA := nhA.symm
            have mhC := nhC.symm
            have mhE := nhE.symm
            have mhH := nhH.symm
            simp only [List.drop_succ_cons, List.drop_zero, Act.put, List.setIfInBounds_toArray, List.set_cons_zero, List.set_cons_succ]
            go_wp2_with fail
            refine calls_world (fun W => Below w.heap.size w W ∧ Mds W ∧ Thr W w.heap.size x y z ∧ Thr W bo x2 y2 z2 ∧ Bk12 W br ∧ Hold W ba a ∧ Hold W bc c ∧ Hold W be ey ∧ Hold W bh h ∧ Hold W bg r) ⟨below_set4 B gn _ _ _ _, hD.set4 nhD _ _ _ _, hT.set4 nhT _ _ _ _, hO.set4 nhO _ _ _ _, hR.set4 nhR _ _ _ _, hA.set4 nhA _ _ _ _, hC.set4 nhC _ _ _ _, hE.set4 nhE _ _ _ _, hH.set4 nhH _ _ _ _, Hold.sets4 (Blank.has hN)⟩ ?_
            clear B hN gN qN hD hT hO hR hA hC hE hH nhD mhD nhT mhT nhO mhO nhR mhR nhA mhA nhC mhC nhE mhE nhH mhH ghH gn
            rintro W ⟨B, hD, hT, hO, hR, hA, hC, hE, hH, hG⟩
            clear w1
            clear hA
            with_reducible refine (A11.out _ hD).mono ?_
            rintro e w3 ⟨rfl, hb⟩
            replace B := B.trans (hb.mono B.size)
            replace hD := hD.keep hb; replace hT := hT.keep hb; replace hO := hO.keep hb; replace hR := hR.keep hb; replace hC := hC.keep hb; replace hE := hE.keep hb; replace hH := hH.keep hb; replace hG := hG.keep hb
            clear hb W
            have ghH := hH.allocs
            go_wp2_with fail
            refine calls_world (fun W => Below w.heap.size w W ∧ Mds W ∧ Thr W w.heap.size x y z ∧ Thr W bo x2 y2 z2 ∧ Bk12 W br ∧ Hold W bc c ∧ Hold W be ey ∧ Hold W bh h ∧ Hold W bg r ∧ Hold W w3.heap.size k) ⟨B.alloc B.size _, hD.alloc _, hT.alloc _, hO.alloc _, hR.alloc _, hC.alloc _, hE.alloc _, hH.alloc _, hG.alloc _, Hold.new _ _ _⟩ ?_
            clear B hD hT hO hR hC hE hH hG ghH
            rintro W ⟨B, hD, hT, hO, hR, hC, hE, hH, hG, hK⟩
            generalize w3.heap.size = bk at *
            with_reducible refine (A12.out _ hD).mono ?_
            rintro e w4 ⟨rfl, hb⟩
            replace B := B.trans (hb.mono B.size)
            replace hD := hD.keep hb; replace hT := hT.keep hb; replace hO := hO.keep hb; replace hR := hR.keep hb; replace hC := hC.keep hb; replace hE := hE.keep hb; replace hH := hH.keep hb; replace hG := hG.keep hb; replace hK := hK.keep hb
            clear hb W
            have ghC := hC.allocs
            have ghK := hK.allocs
            go_wp2_with fail
            refine calls_world (fun W => Below w.heap.size w W ∧ Mds W ∧ Thr W w.heap.size x y z ∧ Thr W bo x2 y2 z2 ∧ Bk12 W br ∧ Hold W bc c ∧ Hold W be ey ∧ Hold W bh h ∧ Hold W bg r ∧ Hold W bk k ∧ Hold W w4.heap.size m) ⟨B.alloc B.size _, hD.alloc _, hT.alloc _, hO.alloc _, hR.alloc _, hC.alloc _, hE.alloc _, hH.alloc _, hG.alloc _, hK.alloc _, Hold.new _ _ _⟩ ?_
            clear B hD hT hO hR hC hE hH hG hK ghC ghK
            rintro W ⟨B, hD, hT, hO, hR, hC, hE, hH, hG, hK, hM1⟩
            generalize w4.heap.size = bm at *
            with_reducible refine (A13.out _ hD).mono ?_
            rintro e w5 ⟨rfl, hb⟩
            replace B := B.trans (hb.mono B.size)
            replace hD := hD.keep hb; replace hT := hT.keep hb; replace hO := hO.keep hb; replace hR := hR.keep hb; replace hC := hC.keep hb; replace hE := hE.keep hb; replace hH := hH.keep hb; replace hG := hG.keep hb; replace hK := hK.keep hb; replace hM1 := hM1.keep hb
            clear hb W
            go_wp2_with fail
            refine wp_world (fun W => Below w.heap.size w W ∧ Mds W ∧ Thr W w.heap.size x y z ∧ Thr W bo x2 y2 z2 ∧ Bk12 W br ∧ Hold W bc c ∧ Hold W be ey ∧ Hold W bh h ∧ Hold W bg r ∧ Hold W bk k ∧ Hold W bm m ∧ Hold W w5.heap.size q) ⟨B.alloc B.size _, hD.alloc _, hT.alloc _, hO.alloc _, hR.alloc _, hC.alloc _, hE.alloc _, hH.alloc _, hG.alloc _, hK.alloc _, hM1.alloc _, Hold.new _ _ _⟩ ?_
            clear B hD hT hO hR hC hE hH hG hK hM1 
            rintro W ⟨B, hD, hT, hO, hR, hC, hE, hH, hG, hK, hM1, hQ⟩
            generalize w5.heap.size = bq at *
            clear hK hC
            refine alloc_tail (A := ?AA6) 7 (by kernel_rfl) (by kernel_rfl) rfl rfl (alloc_num _ _ _) (fun V hV => ?HH6) (fun V w1 hV hw => ?TT6)
            case HH6 =>
              have hDg : ∀ d os, Mds (grow (redrawn V d) os) := fun d os => (hD.keep hV).keep (below_regrown V d os)
              have ghG := (hG.keep hV).grown
              have ghM1 := (hM1.keep hV).grown
              have ghQ := (hQ.keep hV).grown
              unfold Gr
              simp only [List.take_succ_cons, List.take_zero]
              repeat
                first
                  | go_big_quiet_skip
                  | (go_big_quiet_want; go_big_quiet_op; go_big_quiet_on)
                  | (go_big_quiet_want
                     go_big_quiet_op
                     apply Exists.intro
                     refine ⟨fun p => ?_, ?_⟩
                     · (first | (go_at_call 62; with_reducible exact Calls.regrown_of (A14.out _ (hDg p.d p.os))) | (go_at_call 90; with_reducible exact Calls.regrown_of (A15.out _ (hDg p.d p.os))) | (go_at_call 92; with_reducible exact Calls.regrown_of (A16.out _ (hDg p.d p.os))) | (go_at_call 90; with_reducible exact Calls.regrown_of (A17.out _ (hDg p.d p.os))))
                     go_big_quiet_on)
              refine wpQuiet_nil ?_
              exact rfl
            case TT6 =>
              have hb := alloc_below hV hw
              have hN := (Blank.new rfl).keep hw
              have nhD : V.heap.size ≠ 1 := Nat.ne_of_gt (Nat.lt_of_lt_of_le (hD.lt) hV.size)
              have nhT : V.heap.size ≠ w.heap.size := Nat.ne_of_gt (Nat.lt_of_lt_of_le (hT.lt) hV.size)
              have nhO : V.heap.size ≠ bo := Nat.ne_of_gt (Nat.lt_of_lt_of_le (hO.lt) hV.size)
              have nhR : V.heap.size ≠ br := Nat.ne_of_gt (Nat.lt_of_lt_of_le (hR.lt) hV.size)
              have nhE : V.heap.size ≠ be := Nat.ne_of_gt (Nat.lt_of_lt_of_le (World.block_lt_of_cell? _ _ hE.1) hV.size)
              have nhH : V.heap.size ≠ bh := Nat.ne_of_gt (Nat.lt_of_lt_of_le (World.block_lt_of_cell? _ _ hH.1) hV.size)
              have nhG : V.heap.size ≠ bg := Nat.ne_of_gt (Nat.lt_of_lt_of_le (World.block_lt_of_cell? _ _ hG.1) hV.size)
              have nhM1 : V.heap.size ≠ bm := Nat.ne_of_gt (Nat.lt_of_lt_of_le (World.block_lt_of_cell? _ _ hM1.1) hV.size)
              have nhQ : V.heap.size ≠ bq := Nat.ne_of_gt (Nat.lt_of_lt_of_le (World.block_lt_of_cell? _ _ hQ.1) hV.size)
              have gn : w.heap.size ≤ V.heap.size := Nat.le_trans B.size hV.size
              replace B := B.trans (hb.mono B.size)
              replace hD := hD.keep hb; replace hT := hT.keep hb; replace hO := hO.keep hb; replace hR := hR.keep hb; replace hE := hE.keep hb; replace hH := hH.keep hb; replace hG := hG.keep hb; replace hM1 := hM1.keep hb; replace hQ := hQ.keep hb
              clear hb hw hV W
              generalize V.heap.size = bu at *
              clear V
              have gN := hN.1.all4; have qN := hN.2.all4
              have mhD := nhD.symm
              have mhT := nhT.symm
              have mhO := nhO.symm
              have mhR := nhR.symm
              have mhE := nhE.symm
              have mhH := nhH.symm
              have mhG := nhG.symm
              have mhM1 := nhM1.symm
              have mhQ := nhQ.symm
              simp only [List.drop_succ_cons, List.drop_zero, Act.put, List.setIfInBounds_toArray, List.set_cons_zero, List.set_cons_succ]
              go_wp2_with fail
              refine wp_world (fun W => Below w.heap.size w W ∧ Mds W ∧ Thr W w.heap.size x y z ∧ Thr W bo x2 y2 z2 ∧ Bk12 W br ∧ Hold W be ey ∧ Hold W bh h ∧ Hold W bg r ∧ Hold W bm m ∧ Hold W bq q ∧ Hold W bu X) ⟨below_set4 B gn _ _ _ _, hD.set4 nhD _ _ _ _, hT.set4 nhT _ _ _ _, hO.set4 nhO _ _ _ _, hR.set4 nhR _ _ _ _, hE.set4 nhE _ _ _ _, hH.set4 nhH _ _ _ _, hG.set4 nhG _ _ _ _, hM1.set4 nhM1 _ _ _ _, hQ.set4 nhQ _ _ _ _, Hold.sets4 (Blank.has hN)⟩ ?_
              clear B hN gN qN hD hT hO hR hE hH hG hM1 hQ nhD mhD nhT mhT nhO mhO nhR mhR nhE mhE nhH mhH nhG mhG nhM1 mhM1 nhQ mhQ  gn
              rintro W ⟨B, hD, hT, hO, hR, hE, hH, hG, hM1, hQ, hU⟩
              clear w1
              refine alloc_tail (A := ?AA7) 9 (by kernel_rfl) (by kernel_rfl) rfl rfl (alloc_num _ _ _) (fun V hV => ?HH7) (fun V w1 hV hw => ?TT7)
              case HH7 =>
                have hDg : ∀ d os, Mds (grow (redrawn V d) os) := fun d os => (hD.keep hV).keep (below_regrown V d os)
                have ghE := (hE.keep hV).grown
                have ghG := (hG.keep hV).grown
                have ghM1 := (hM1.keep hV).grown
                have ghQ := (hQ.keep hV).grown
                have ghU := (hU.keep hV).grown
                unfold Gr
                simp only [List.take_succ_cons, List.take_zero]
                repeat
                  first
                    | go_big_quiet_skip
                    | (go_big_quiet_want; go_big_quiet_op; go_big_quiet_on)
                    | (go_big_quiet_want
                       go_big_quiet_op
                       apply Exists.intro
                       refine ⟨fun p => ?_, ?_⟩
                       · (first | (go_at_call 90; with_reducible exact Calls.regrown_of (A18.out _ (hDg p.d p.os))) | (go_at_call 63; with_reducible exact Calls.regrown_of (A19.out _ (hDg p.d p.os))) | (go_at_call 63; with_reducible exact Calls.regrown_of (A20.out _ (hDg p.d p.os))) | (go_at_call 90; with_reducible exact Calls.regrown_of (A21.out _ (hDg p.d p.os))))
                       go_big_quiet_on)
                refine wpQuiet_nil ?_
                exact rfl
              case TT7 =>
                have hb := alloc_below hV hw
                have hN := (Blank.new rfl).keep hw
                have nhD : V.heap.size ≠ 1 := Nat.ne_of_gt (Nat.lt_of_lt_of_le (hD.lt) hV.size)
                have nhT : V.heap.size ≠ w.heap.size := Nat.ne_of_gt (Nat.lt_of_lt_of_le (hT.lt) hV.size)
                have nhO : V.heap.size ≠ bo := Nat.ne_of_gt (Nat.lt_of_lt_of_le (hO.lt) hV.size)
                have nhR : V.heap.size ≠ br := Nat.ne_of_gt (Nat.lt_of_lt_of_le (hR.lt) hV.size)
                have nhE : V.heap.size ≠ be := Nat.ne_of_gt (Nat.lt_of_lt_of_le (World.block_lt_of_cell? _ _ hE.1) hV.size)
                have nhH : V.heap.size ≠ bh := Nat.ne_of_gt (Nat.lt_of_lt_of_le (World.block_lt_of_cell? _ _ hH.1) hV.size)
                have nhG : V.heap.size ≠ bg := Nat.ne_of_gt (Nat.lt_of_lt_of_le (World.block_lt_of_cell? _ _ hG.1) hV.size)
                have nhM1 : V.heap.size ≠ bm := Nat.ne_of_gt (Nat.lt_of_lt_of_le (World.block_lt_of_cell? _ _ hM1.1) hV.size)
                have nhQ : V.heap.size ≠ bq := Nat.ne_of_gt (Nat.lt_of_lt_of_le (World.block_lt_of_cell? _ _ hQ.1) hV.size)
                have nhU : V.heap.size ≠ bu := Nat.ne_of_gt (Nat.lt_of_lt_of_le (World.block_lt_of_cell? _ _ hU.1) hV.size)
                have gn : w.heap.size ≤ V.heap.size := Nat.le_trans B.size hV.size
                replace B := B.trans (hb.mono B.size)
                replace hD := hD.keep hb; replace hT := hT.keep hb; replace hO := hO.keep hb; replace hR := hR.keep hb; replace hE := hE.keep hb; replace hH := hH.keep hb; replace hG := hG.keep hb; replace hM1 := hM1.keep hb; replace hQ := hQ.keep hb; replace hU := hU.keep hb
                clear hb hw hV W
                generalize V.heap.size = bv at *
                clear V
                have gN := hN.1.all4; have qN := hN.2.all4
                have mhD := nhD.symm
                have mhT := nhT.symm
                have mhO := nhO.symm
                have mhR := nhR.symm
                have mhE := nhE.symm
                have mhH := nhH.symm
                have mhG := nhG.symm
                have mhM1 := nhM1.symm
                have mhQ := nhQ.symm
                have mhU := nhU.symm
                simp only [List.drop_succ_cons, List.drop_zero, Act.put, List.setIfInBounds_toArray, List.set_cons_zero, List.set_cons_succ]
                go_wp2_with fail
                refine wp_world (fun W => Below w.heap.size w W ∧ Mds W ∧ Thr W w.heap.size x y z ∧ Thr W bo x2 y2 z2 ∧ Bk12 W br ∧ Hold W be ey ∧ Hold W bh h ∧ Hold W bg r ∧ Hold W bm m ∧ Hold W bq q ∧ Hold W bu X ∧ Hold W bv Y) ⟨below_set4 B gn _ _ _ _, hD.set4 nhD _ _ _ _, hT.set4 nhT _ _ _ _, hO.set4 nhO _ _ _ _, hR.set4 nhR _ _ _ _, hE.set4 nhE _ _ _ _, hH.set4 nhH _ _ _ _, hG.set4 nhG _ _ _ _, hM1.set4 nhM1 _ _ _ _, hQ.set4 nhQ _ _ _ _, hU.set4 nhU _ _ _ _, Hold.sets4 (Blank.has hN)⟩ ?_
                clear B hN gN qN hD hT hO hR hE hH hG hM1 hQ hU nhD mhD nhT mhT nhO mhO nhR mhR nhE mhE nhH mhH nhG mhG nhM1 mhM1 nhQ mhQ nhU mhU  gn
                rintro W ⟨B, hD, hT, hO, hR, hE, hH, hG, hM1, hQ, hU, hV1⟩
                clear w1
                have ghT := hT.grown
                have ghO := hO.grown
                have ghU := hU.grown
                have ghV1 := hV1.grown
                have ghH := hH.grown
                have hDg : ∀ d os, Mds (grow (redrawn W d) os) := fun d os => hD.keep (below_regrown W d os)
                refine below_tail 10 (by kernel_rfl) (by kernel_rfl) ?_
                simp only [List.take_succ_cons, List.take_zero, List.drop_succ_cons, List.drop_zero]
                repeat
                  first
                    | go_big_quiet_skip
                    | (go_big_quiet_want; go_big_quiet_op; go_big_quiet_on)
                    | (go_big_quiet_want
                       go_big_quiet_op
                       apply Exists.intro
                       refine ⟨fun p => ?_, ?_⟩
                       · (first | (go_at_call 63; with_reducible exact Calls.regrown_of (A22.out _ (hDg p.d p.os))) | (go_at_call 63; with_reducible exact Calls.regrown_of (A23.out _ (hDg p.d p.os))))
                       go_big_quiet_on)
                refine wpQuiet_nil ?_
                rintro w6 ⟨p, rfl⟩
                have hb := below_regrown W p.d p.os
                generalize grow (redrawn W p.d) p.os = w6 at *
                replace B := B.trans (hb.mono B.size)
                replace hD := hD.keep hb; replace hT := hT.keep hb; replace hO := hO.keep hb; replace hR := hR.keep hb; replace hE := hE.keep hb; replace hH := hH.keep hb; replace hG := hG.keep hb; replace hM1 := hM1.keep hb; replace hQ := hQ.keep hb; replace hU := hU.keep hb; replace hV1 := hV1.keep hb
                clear hb W ghT ghO ghU ghV1 ghH hDg
                have gR := hR.cells; have fR := hR.free
                go_wp2
                simp [bodyPost, results, Tryz.results57, go_sem, gR]
                repeat (first | with_reducible exact B | with_reducible refine Below.setCell ?_ o3 _)
end Go.Proofs.YtncpjgpioajbeaaGreatDoor

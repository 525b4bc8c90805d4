import Derived.Test.YtncpjgpioajbeaaGreatDoorCRef
import Derived.Test.YtncpjgpioajbeaaGreatDoorCSumK
import Derived.Test.YtncpjgpioajbeaaGreatDoorQAlloc
namespace Go.Proofs.YtncpjgpioajbeaaGreatDoor
open Go.RowKit Go.Sort

set_option maxRecDepth 100000 in
set_option maxHeartbeats 4000000 in
theorem r5times_walk {n x r : Int} (C1 : Hid (∀ w, Calls Tryz.prog 148 #[.int .u64 n] w fun e w' => e = .returned (.agg #[.int .u64 (l0 n), .int .u64 (l1 n), .int .u64 (l2 n), .int .u64 (l3 n)]) ∧ Below w.heap.size w w')) (C2 : Hid (∀ w, Calls Tryz.prog 140 #[.agg #[.int .u64 (l0 n), .int .u64 (l1 n), .int .u64 (l2 n), .int .u64 (l3 n)], .agg #[.int .u64 (l0 x), .int .u64 (l1 x), .int .u64 (l2 x), .int .u64 (l3 x)]] w fun e w' => e = .returned (.agg #[.int .u64 (l0 r), .int .u64 (l1 r), .int .u64 (l2 r), .int .u64 (l3 r)]) ∧ Below w.heap.size w w')) (w : World) :
    Calls Tryz.prog 160 #[.int .u64 n, .agg #[.int .u64 (l0 x), .int .u64 (l1 x), .int .u64 (l2 x), .int .u64 (l3 x)]] w fun e w' => e = .returned (.agg #[.int .u64 (l0 r), .int .u64 (l1 r), .int .u64 (l2 r), .int .u64 (l3 r)]) ∧ Below w.heap.size w w' := by
  go_enter Tryz.func160, Tryz.ntmps160
  go_wp2_with fail
  refine wp_world (fun W => Below w.heap.size w W ∧ Hold W w.heap.size x ∧ Blank W (w.heap.size + 1)) ⟨by repeat (first | with_reducible exact Below.refl _ _ | with_reducible refine Below.alloc ?_ (by first | omega | (simp; done) | (simp; omega)) _), (Hold.new _ _ _).alloc _, Blank.new (by simp)⟩ ?_
  rintro W ⟨B, hX, hR⟩
  have o3 : w.heap.size ≤ w.heap.size + 1 := by omega
  generalize w.heap.size + 1 = br at *
  have ghX := hX.grown
  refine below_tail 4 (by kernel_rfl) (by kernel_rfl) ?_
  simp only [List.take_succ_cons, List.take_zero, List.drop_succ_cons, List.drop_zero]
  repeat
    first
      | go_big_quiet_skip
      | (go_big_quiet_want; go_big_quiet_op; go_big_quiet_on)
      | (go_big_quiet_want
         go_big_quiet_op
         apply Exists.intro
         refine ⟨fun p => ?_, ?_⟩
         · (first | (go_at_call 148; with_reducible exact Calls.regrown_of (C1.out _)) | (go_at_call 140; with_reducible exact Calls.regrown_of (C2.out _)))
         go_big_quiet_on)
  refine wpQuiet_nil ?_
  rintro w1 ⟨p, rfl⟩
  have hb := below_regrown W p.d p.os
  generalize grow (redrawn W p.d) p.os = w1 at *
  replace B := B.trans (hb.mono B.size)
  replace hX := hX.keep hb; replace hR := hR.keep hb
  clear hb W ghX 
  clear hX
  have gR := hR.1.all4; have fR := hR.2.all4
  go_wp2
  simp [bodyPost, results, Tryz.results160, go_sem, *]
  repeat (first | with_reducible exact B | with_reducible refine Below.setCell ?_ o3 _)

set_option maxRecDepth 100000 in
set_option maxHeartbeats 4000000 in
theorem r5three_id {x y : Int} (w : World) :
    Calls Tryz.prog 141 #[.agg #[.int .u64 (l0 x), .int .u64 (l1 x), .int .u64 (l2 x), .int .u64 (l3 x), .int .u64 (l0 y), .int .u64 (l1 y), .int .u64 (l2 y), .int .u64 (l3 y), .bool true]] w fun e w' => e = .returned (.agg #[.int .u64 (l0 0), .int .u64 (l1 0), .int .u64 (l2 0), .int .u64 (l3 0), .int .u64 (l0 0), .int .u64 (l1 0), .int .u64 (l2 0), .int .u64 (l3 0), .int .u64 (l0 0), .int .u64 (l1 0), .int .u64 (l2 0), .int .u64 (l3 0)]) ∧ Below w.heap.size w w' := by
  obtain ⟨z0, z1, z2, z3⟩ := zero_limbs
  rw [z0, z1, z2, z3]
  go_enter Tryz.func141, Tryz.ntmps141
  go_wp2
  simp [bodyPost, results, Tryz.results141, go_sem]
  repeat (first | with_reducible exact Below.refl _ _ | with_reducible refine Below.alloc ?_ (by first | omega | (simp; done) | (simp; omega)) _ | with_reducible refine Below.setCell ?_ (by first | omega | (simp; done) | (simp; omega)) _)

set_option maxRecDepth 100000 in
set_option maxHeartbeats 4000000 in
theorem r5three_pt {x y : Int} (C1 : Hid (∀ w, Calls Tryz.prog 148 #[.int .u64 1] w fun e w' => e = .returned (.agg #[.int .u64 (l0 1), .int .u64 (l1 1), .int .u64 (l2 1), .int .u64 (l3 1)]) ∧ Below w.heap.size w w')) (w : World) :
    Calls Tryz.prog 141 #[.agg #[.int .u64 (l0 x), .int .u64 (l1 x), .int .u64 (l2 x), .int .u64 (l3 x), .int .u64 (l0 y), .int .u64 (l1 y), .int .u64 (l2 y), .int .u64 (l3 y), .bool false]] w fun e w' => e = .returned (.agg #[.int .u64 (l0 x), .int .u64 (l1 x), .int .u64 (l2 x), .int .u64 (l3 x), .int .u64 (l0 y), .int .u64 (l1 y), .int .u64 (l2 y), .int .u64 (l3 y), .int .u64 (l0 1), .int .u64 (l1 1), .int .u64 (l2 1), .int .u64 (l3 1)]) ∧ Below w.heap.size w w' := by
  go_enter Tryz.func141, Tryz.ntmps141
  go_wp2_with fail
  refine wp_world (fun W => Below w.heap.size w W ∧ Pnt W w.heap.size x y false ∧ Bk12 W (w.heap.size + 1)) ⟨by repeat (first | with_reducible exact Below.refl _ _ | with_reducible refine Below.alloc ?_ (by first | omega | (simp; done) | (simp; omega)) _), (Pnt.new rfl).alloc _, Bk12.new (by simp)⟩ ?_
  rintro W ⟨B, hP, hR⟩
  have o3 : w.heap.size ≤ w.heap.size + 1 := by omega
  generalize w.heap.size + 1 = br at *
  have ghP := hP.grown
  refine below_tail 6 (by kernel_rfl) (by kernel_rfl) ?_
  simp only [List.take_succ_cons, List.take_zero, List.drop_succ_cons, List.drop_zero]
  repeat
    first
      | go_big_quiet_skip
      | (go_big_quiet_want; go_big_quiet_op; go_big_quiet_on)
      | (go_big_quiet_want
         go_big_quiet_op
         apply Exists.intro
         refine ⟨fun p => ?_, ?_⟩
         · (first | (go_at_call 148; with_reducible exact Calls.regrown_of (C1.out _)))
         go_big_quiet_on)
  refine wpQuiet_nil ?_
  rintro w1 ⟨p, rfl⟩
  have hb := below_regrown W p.d p.os
  generalize grow (redrawn W p.d) p.os = w1 at *
  replace B := B.trans (hb.mono B.size)
  replace hP := hP.keep hb; replace hR := hR.keep hb
  clear hb W ghP 
  clear hP
  have gR := hR.cells; have fR := hR.free
  go_wp2
  simp [bodyPost, results, Tryz.results141, go_sem, gR]
  repeat (first | with_reducible exact B | with_reducible refine Below.setCell ?_ o3 _)

set_option maxRecDepth 100000 in
set_option maxHeartbeats 16000000 in
theorem r5twice_walk {x y z a f s c m h k u q n b1 b2 v e1 r : Int}
    (C1 : Hid (∀ w, Calls Tryz.prog 140 #[.agg #[.int .u64 (l0 y), .int .u64 (l1 y), .int .u64 (l2 y), .int .u64 (l3 y)], .agg #[.int .u64 (l0 y), .int .u64 (l1 y), .int .u64 (l2 y), .int .u64 (l3 y)]] w fun e w' => e = .returned (.agg #[.int .u64 (l0 a), .int .u64 (l1 a), .int .u64 (l2 a), .int .u64 (l3 a)]) ∧ Below w.heap.size w w'))
    (C2 : Hid (∀ w, Calls Tryz.prog 140 #[.agg #[.int .u64 (l0 x), .int .u64 (l1 x), .int .u64 (l2 x), .int .u64 (l3 x)], .agg #[.int .u64 (l0 a), .int .u64 (l1 a), .int .u64 (l2 a), .int .u64 (l3 a)]] w fun e w' => e = .returned (.agg #[.int .u64 (l0 f), .int .u64 (l1 f), .int .u64 (l2 f), .int .u64 (l3 f)]) ∧ Below w.heap.size w w'))
    (C3 : Hid (∀ w, Calls Tryz.prog 160 #[.int .u64 4, .agg #[.int .u64 (l0 f), .int .u64 (l1 f), .int .u64 (l2 f), .int .u64 (l3 f)]] w fun e w' => e = .returned (.agg #[.int .u64 (l0 s), .int .u64 (l1 s), .int .u64 (l2 s), .int .u64 (l3 s)]) ∧ Below w.heap.size w w'))
    (C4 : Hid (∀ w, Calls Tryz.prog 140 #[.agg #[.int .u64 (l0 x), .int .u64 (l1 x), .int .u64 (l2 x), .int .u64 (l3 x)], .agg #[.int .u64 (l0 x), .int .u64 (l1 x), .int .u64 (l2 x), .int .u64 (l3 x)]] w fun e w' => e = .returned (.agg #[.int .u64 (l0 c), .int .u64 (l1 c), .int .u64 (l2 c), .int .u64 (l3 c)]) ∧ Below w.heap.size w w'))
    (C5 : Hid (∀ w, Calls Tryz.prog 160 #[.int .u64 3, .agg #[.int .u64 (l0 c), .int .u64 (l1 c), .int .u64 (l2 c), .int .u64 (l3 c)]] w fun e w' => e = .returned (.agg #[.int .u64 (l0 m), .int .u64 (l1 m), .int .u64 (l2 m), .int .u64 (l3 m)]) ∧ Below w.heap.size w w'))
    (C6 : Hid (∀ w, Calls Tryz.prog 140 #[.agg #[.int .u64 (l0 m), .int .u64 (l1 m), .int .u64 (l2 m), .int .u64 (l3 m)], .agg #[.int .u64 (l0 m), .int .u64 (l1 m), .int .u64 (l2 m), .int .u64 (l3 m)]] w fun e w' => e = .returned (.agg #[.int .u64 (l0 h), .int .u64 (l1 h), .int .u64 (l2 h), .int .u64 (l3 h)]) ∧ Below w.heap.size w w'))
    (C7 : Hid (∀ w, Calls Tryz.prog 160 #[.int .u64 2, .agg #[.int .u64 (l0 s), .int .u64 (l1 s), .int .u64 (l2 s), .int .u64 (l3 s)]] w fun e w' => e = .returned (.agg #[.int .u64 (l0 k), .int .u64 (l1 k), .int .u64 (l2 k), .int .u64 (l3 k)]) ∧ Below w.heap.size w w'))
    (C8 : Hid (∀ w, Calls Tryz.prog 161 #[.agg #[.int .u64 (l0 h), .int .u64 (l1 h), .int .u64 (l2 h), .int .u64 (l3 h)], .agg #[.int .u64 (l0 k), .int .u64 (l1 k), .int .u64 (l2 k), .int .u64 (l3 k)]] w fun e w' => e = .returned (.agg #[.int .u64 (l0 u), .int .u64 (l1 u), .int .u64 (l2 u), .int .u64 (l3 u)]) ∧ Below w.heap.size w w'))
    (C9 : Hid (∀ w, Calls Tryz.prog 161 #[.agg #[.int .u64 (l0 s), .int .u64 (l1 s), .int .u64 (l2 s), .int .u64 (l3 s)], .agg #[.int .u64 (l0 u), .int .u64 (l1 u), .int .u64 (l2 u), .int .u64 (l3 u)]] w fun e w' => e = .returned (.agg #[.int .u64 (l0 q), .int .u64 (l1 q), .int .u64 (l2 q), .int .u64 (l3 q)]) ∧ Below w.heap.size w w'))
    (C10 : Hid (∀ w, Calls Tryz.prog 140 #[.agg #[.int .u64 (l0 m), .int .u64 (l1 m), .int .u64 (l2 m), .int .u64 (l3 m)], .agg #[.int .u64 (l0 q), .int .u64 (l1 q), .int .u64 (l2 q), .int .u64 (l3 q)]] w fun e w' => e = .returned (.agg #[.int .u64 (l0 n), .int .u64 (l1 n), .int .u64 (l2 n), .int .u64 (l3 n)]) ∧ Below w.heap.size w w'))
    (C11 : Hid (∀ w, Calls Tryz.prog 140 #[.agg #[.int .u64 (l0 a), .int .u64 (l1 a), .int .u64 (l2 a), .int .u64 (l3 a)], .agg #[.int .u64 (l0 a), .int .u64 (l1 a), .int .u64 (l2 a), .int .u64 (l3 a)]] w fun e w' => e = .returned (.agg #[.int .u64 (l0 b1), .int .u64 (l1 b1), .int .u64 (l2 b1), .int .u64 (l3 b1)]) ∧ Below w.heap.size w w'))
    (C12 : Hid (∀ w, Calls Tryz.prog 160 #[.int .u64 8, .agg #[.int .u64 (l0 b1), .int .u64 (l1 b1), .int .u64 (l2 b1), .int .u64 (l3 b1)]] w fun e w' => e = .returned (.agg #[.int .u64 (l0 b2), .int .u64 (l1 b2), .int .u64 (l2 b2), .int .u64 (l3 b2)]) ∧ Below w.heap.size w w'))
    (C13 : Hid (∀ w, Calls Tryz.prog 161 #[.agg #[.int .u64 (l0 n), .int .u64 (l1 n), .int .u64 (l2 n), .int .u64 (l3 n)], .agg #[.int .u64 (l0 b2), .int .u64 (l1 b2), .int .u64 (l2 b2), .int .u64 (l3 b2)]] w fun e w' => e = .returned (.agg #[.int .u64 (l0 v), .int .u64 (l1 v), .int .u64 (l2 v), .int .u64 (l3 v)]) ∧ Below w.heap.size w w'))
    (C14 : Hid (∀ w, Calls Tryz.prog 140 #[.agg #[.int .u64 (l0 y), .int .u64 (l1 y), .int .u64 (l2 y), .int .u64 (l3 y)], .agg #[.int .u64 (l0 z), .int .u64 (l1 z), .int .u64 (l2 z), .int .u64 (l3 z)]] w fun e w' => e = .returned (.agg #[.int .u64 (l0 e1), .int .u64 (l1 e1), .int .u64 (l2 e1), .int .u64 (l3 e1)]) ∧ Below w.heap.size w w'))
    (C15 : Hid (∀ w, Calls Tryz.prog 160 #[.int .u64 2, .agg #[.int .u64 (l0 e1), .int .u64 (l1 e1), .int .u64 (l2 e1), .int .u64 (l3 e1)]] w fun e w' => e = .returned (.agg #[.int .u64 (l0 r), .int .u64 (l1 r), .int .u64 (l2 r), .int .u64 (l3 r)]) ∧ Below w.heap.size w w'))
    (w : World) :
    Calls Tryz.prog 142 #[.agg #[.int .u64 (l0 x), .int .u64 (l1 x), .int .u64 (l2 x), .int .u64 (l3 x), .int .u64 (l0 y), .int .u64 (l1 y), .int .u64 (l2 y), .int .u64 (l3 y), .int .u64 (l0 z), .int .u64 (l1 z), .int .u64 (l2 z), .int .u64 (l3 z)]] w fun e w' => e = .returned (.agg #[.int .u64 (l0 u), .int .u64 (l1 u), .int .u64 (l2 u), .int .u64 (l3 u), .int .u64 (l0 v), .int .u64 (l1 v), .int .u64 (l2 v), .int .u64 (l3 v), .int .u64 (l0 r), .int .u64 (l1 r), .int .u64 (l2 r), .int .u64 (l3 r)]) ∧ Below w.heap.size w w' := by
  go_enter Tryz.func142, Tryz.ntmps142
  go_wp2_with fail
  refine calls_world (fun W => Below w.heap.size w W ∧ Thr W w.heap.size x y z ∧ Bk12 W (w.heap.size + 1)) ⟨by repeat (first | with_reducible exact Below.refl _ _ | with_reducible refine Below.alloc ?_ (by first | omega | (simp; done) | (simp; omega)) _), (Thr.new rfl).alloc _, Bk12.new (by simp)⟩ ?_
  rintro W ⟨B, hT, hR⟩
  have o3 : w.heap.size ≤ w.heap.size + 1 := by omega
  generalize w.heap.size + 1 = br at *
  with_reducible refine (C1.out _).mono ?_
  rintro e w1 ⟨rfl, hb⟩
  replace B := B.trans (hb.mono B.size)
  replace hT := hT.keep hb; replace hR := hR.keep hb
  clear hb W
  have ghT := fun o => (hT.alloc o).cells
  go_wp2_with fail
  refine calls_world (fun W => Below w.heap.size w W ∧ Thr W w.heap.size x y z ∧ Bk12 W br ∧ Hold W w1.heap.size a) ⟨B.alloc B.size _, hT.alloc _, hR.alloc _, Hold.new _ _ _⟩ ?_
  clear B hT hR ghT
  rintro W ⟨B, hT, hR, hA⟩
  generalize w1.heap.size = ba at *
  with_reducible refine (C2.out _).mono ?_
  rintro e w2 ⟨rfl, hb⟩
  replace B := B.trans (hb.mono B.size)
  replace hT := hT.keep hb; replace hR := hR.keep hb; replace hA := hA.keep hb
  clear hb W
  go_wp2_with fail
  refine calls_world (fun W => Below w.heap.size w W ∧ Thr W w.heap.size x y z ∧ Bk12 W br ∧ Hold W ba a) ⟨B, hT, hR, hA⟩ ?_
  clear B hT hR hA 
  rintro W ⟨B, hT, hR, hA⟩
  with_reducible refine (C3.out _).mono ?_
  rintro e w3 ⟨rfl, hb⟩
  replace B := B.trans (hb.mono B.size)
  replace hT := hT.keep hb; replace hR := hR.keep hb; replace hA := hA.keep hb
  clear hb W
  have ghT := fun o => (hT.alloc o).cells
  go_wp2_with fail
  refine calls_world (fun W => Below w.heap.size w W ∧ Thr W w.heap.size x y z ∧ Bk12 W br ∧ Hold W ba a ∧ Hold W w3.heap.size s) ⟨B.alloc B.size _, hT.alloc _, hR.alloc _, hA.alloc _, Hold.new _ _ _⟩ ?_
  clear B hT hR hA ghT
  rintro W ⟨B, hT, hR, hA, hS⟩
  generalize w3.heap.size = bs at *
  with_reducible refine (C4.out _).mono ?_
  rintro e w4 ⟨rfl, hb⟩
  replace B := B.trans (hb.mono B.size)
  replace hT := hT.keep hb; replace hR := hR.keep hb; replace hA := hA.keep hb; replace hS := hS.keep hb
  clear hb W
  go_wp2_with fail
  refine calls_world (fun W => Below w.heap.size w W ∧ Thr W w.heap.size x y z ∧ Bk12 W br ∧ Hold W ba a ∧ Hold W bs s) ⟨B, hT, hR, hA, hS⟩ ?_
  clear B hT hR hA hS 
  rintro W ⟨B, hT, hR, hA, hS⟩
  with_reducible refine (C5.out _).mono ?_
  rintro e w5 ⟨rfl, hb⟩
  replace B := B.trans (hb.mono B.size)
  replace hT := hT.keep hb; replace hR := hR.keep hb; replace hA := hA.keep hb; replace hS := hS.keep hb
  clear hb W
  go_wp2_with fail
  refine wp_world (fun W => Below w.heap.size w W ∧ Thr W w.heap.size x y z ∧ Bk12 W br ∧ Hold W ba a ∧ Hold W bs s ∧ Hold W w5.heap.size m) ⟨B.alloc B.size _, hT.alloc _, hR.alloc _, hA.alloc _, hS.alloc _, Hold.new _ _ _⟩ ?_
  clear B hT hR hA hS 
  rintro W ⟨B, hT, hR, hA, hS, hM⟩
  generalize w5.heap.size = bm at *
  refine alloc_tail (A := ?AA1) 6 (by kernel_rfl) (by kernel_rfl) rfl rfl (alloc_num _ _ _) (fun V hV => ?HH1) (fun V w1 hV hw => ?TT1)
  case HH1 =>
    have ghS := (hS.keep hV).grown
    have ghM := (hM.keep hV).grown
    unfold Gr
    simp only [List.take_succ_cons, List.take_zero]
    repeat
      first
        | go_big_quiet_skip
        | (go_big_quiet_want; go_big_quiet_op; go_big_quiet_on)
        | (go_big_quiet_want
           go_big_quiet_op
           apply Exists.intro
           refine ⟨fun p => ?_, ?_⟩
           · (first | (go_at_call 140; with_reducible exact Calls.regrown_of (C6.out _)) | (go_at_call 160; with_reducible exact Calls.regrown_of (C7.out _)) | (go_at_call 161; with_reducible exact Calls.regrown_of (C8.out _)))
           go_big_quiet_on)
    refine wpQuiet_nil ?_
    exact rfl
  case TT1 =>
    have hb := alloc_below hV hw
    have hN := (Blank.new rfl).keep hw
    have nhT : V.heap.size ≠ w.heap.size := Nat.ne_of_gt (Nat.lt_of_lt_of_le (hT.lt) hV.size)
    have nhR : V.heap.size ≠ br := Nat.ne_of_gt (Nat.lt_of_lt_of_le (hR.lt) hV.size)
    have nhA : V.heap.size ≠ ba := Nat.ne_of_gt (Nat.lt_of_lt_of_le (World.block_lt_of_cell? _ _ hA.1) hV.size)
    have nhS : V.heap.size ≠ bs := Nat.ne_of_gt (Nat.lt_of_lt_of_le (World.block_lt_of_cell? _ _ hS.1) hV.size)
    have nhM : V.heap.size ≠ bm := Nat.ne_of_gt (Nat.lt_of_lt_of_le (World.block_lt_of_cell? _ _ hM.1) hV.size)
    have gn : w.heap.size ≤ V.heap.size := Nat.le_trans B.size hV.size
    replace B := B.trans (hb.mono B.size)
    replace hT := hT.keep hb; replace hR := hR.keep hb; replace hA := hA.keep hb; replace hS := hS.keep hb; replace hM := hM.keep hb
    clear hb hw hV W
    generalize V.heap.size = bu at *
    clear V
    have gN := hN.1.all4; have qN := hN.2.all4
    have mhT := nhT.symm
    have mhR := nhR.symm
    have mhA := nhA.symm
    have mhS := nhS.symm
    have mhM := nhM.symm
    simp only [List.drop_succ_cons, List.drop_zero, Act.put, List.setIfInBounds_toArray, List.set_cons_zero, List.set_cons_succ]
    go_wp2_with fail
    refine wp_world (fun W => Below w.heap.size w W ∧ Thr W w.heap.size x y z ∧ Bk12 W br ∧ Hold W ba a ∧ Hold W bs s ∧ Hold W bm m ∧ Hold W bu u) ⟨below_set4 B gn _ _ _ _, hT.set4 nhT _ _ _ _, hR.set4 nhR _ _ _ _, hA.set4 nhA _ _ _ _, hS.set4 nhS _ _ _ _, hM.set4 nhM _ _ _ _, Hold.sets4 (Blank.has hN)⟩ ?_
    clear B hN gN qN hT hR hA hS hM nhT mhT nhR mhR nhA mhA nhS mhS nhM mhM  gn
    rintro W ⟨B, hT, hR, hA, hS, hM, hU⟩
    clear w1
    refine alloc_tail (A := ?AA2) 10 (by kernel_rfl) (by kernel_rfl) rfl rfl (alloc_num _ _ _) (fun V hV => ?HH2) (fun V w1 hV hw => ?TT2)
    case HH2 =>
      have ghA := (hA.keep hV).grown
      have ghS := (hS.keep hV).grown
      have ghM := (hM.keep hV).grown
      have ghU := (hU.keep hV).grown
      unfold Gr
      simp only [List.take_succ_cons, List.take_zero]
      repeat
        first
          | go_big_quiet_skip
          | (go_big_quiet_want; go_big_quiet_op; go_big_quiet_on)
          | (go_big_quiet_want
             go_big_quiet_op
             apply Exists.intro
             refine ⟨fun p => ?_, ?_⟩
             · (first | (go_at_call 161; with_reducible exact Calls.regrown_of (C9.out _)) | (go_at_call 140; with_reducible exact Calls.regrown_of (C10.out _)) | (go_at_call 140; with_reducible exact Calls.regrown_of (C11.out _)) | (go_at_call 160; with_reducible exact Calls.regrown_of (C12.out _)) | (go_at_call 161; with_reducible exact Calls.regrown_of (C13.out _)))
             go_big_quiet_on)
      refine wpQuiet_nil ?_
      exact rfl
    case TT2 =>
      have hb := alloc_below hV hw
      have hN := (Blank.new rfl).keep hw
      have nhT : V.heap.size ≠ w.heap.size := Nat.ne_of_gt (Nat.lt_of_lt_of_le (hT.lt) hV.size)
      have nhR : V.heap.size ≠ br := Nat.ne_of_gt (Nat.lt_of_lt_of_le (hR.lt) hV.size)
      have nhA : V.heap.size ≠ ba := Nat.ne_of_gt (Nat.lt_of_lt_of_le (World.block_lt_of_cell? _ _ hA.1) hV.size)
      have nhS : V.heap.size ≠ bs := Nat.ne_of_gt (Nat.lt_of_lt_of_le (World.block_lt_of_cell? _ _ hS.1) hV.size)
      have nhM : V.heap.size ≠ bm := Nat.ne_of_gt (Nat.lt_of_lt_of_le (World.block_lt_of_cell? _ _ hM.1) hV.size)
      have nhU : V.heap.size ≠ bu := Nat.ne_of_gt (Nat.lt_of_lt_of_le (World.block_lt_of_cell? _ _ hU.1) hV.size)
      have gn : w.heap.size ≤ V.heap.size := Nat.le_trans B.size hV.size
      replace B := B.trans (hb.mono B.size)
      replace hT := hT.keep hb; replace hR := hR.keep hb; replace hA := hA.keep hb; replace hS := hS.keep hb; replace hM := hM.keep hb; replace hU := hU.keep hb
      clear hb hw hV W
      generalize V.heap.size = bv at *
      clear V
      have gN := hN.1.all4; have qN := hN.2.all4
      have ghT := hT.cells
      have mhT := nhT.symm
      have mhR := nhR.symm
      have mhA := nhA.symm
      have mhS := nhS.symm
      have mhM := nhM.symm
      have mhU := nhU.symm
      simp only [List.drop_succ_cons, List.drop_zero, Act.put, List.setIfInBounds_toArray, List.set_cons_zero, List.set_cons_succ]
      go_wp2_with fail
      refine calls_world (fun W => Below w.heap.size w W ∧ Thr W w.heap.size x y z ∧ Bk12 W br ∧ Hold W ba a ∧ Hold W bs s ∧ Hold W bm m ∧ Hold W bu u ∧ Hold W bv v) ⟨below_set4 B gn _ _ _ _, hT.set4 nhT _ _ _ _, hR.set4 nhR _ _ _ _, hA.set4 nhA _ _ _ _, hS.set4 nhS _ _ _ _, hM.set4 nhM _ _ _ _, hU.set4 nhU _ _ _ _, Hold.sets4 (Blank.has hN)⟩ ?_
      clear B hN gN qN hT hR hA hS hM hU nhT mhT nhR mhR nhA mhA nhS mhS nhM mhM nhU mhU ghT gn
      rintro W ⟨B, hT, hR, hA, hS, hM, hU, hV1⟩
      clear w1
      clear hA hS hM
      with_reducible refine (C14.out _).mono ?_
      rintro e w6 ⟨rfl, hb⟩
      replace B := B.trans (hb.mono B.size)
      replace hT := hT.keep hb; replace hR := hR.keep hb; replace hU := hU.keep hb; replace hV1 := hV1.keep hb
      clear hb W
      go_wp2_with fail
      refine calls_world (fun W => Below w.heap.size w W ∧ Thr W w.heap.size x y z ∧ Bk12 W br ∧ Hold W bu u ∧ Hold W bv v) ⟨B, hT, hR, hU, hV1⟩ ?_
      clear B hT hR hU hV1 
      rintro W ⟨B, hT, hR, hU, hV1⟩
      with_reducible refine (C15.out _).mono ?_
      rintro e w9 ⟨rfl, hb⟩
      replace B := B.trans (hb.mono B.size)
      replace hT := hT.keep hb; replace hR := hR.keep hb; replace hU := hU.keep hb; replace hV1 := hV1.keep hb
      clear hb W hT
      have gU := hU.allocs; have gV := hV1.allocs
      have nr : w9.heap.size ≠ br := by have := hR.lt; omega
      have nr2 := nr.symm
      have gR := fun o => (hR.alloc o).cells; have fR := fun o => (hR.alloc o).free
      have nu : w9.heap.size ≠ bu := Nat.ne_of_gt (World.block_lt_of_cell? _ _ hU.1)
      have nv : w9.heap.size ≠ bv := Nat.ne_of_gt (World.block_lt_of_cell? _ _ hV1.1)
      have nu2 := nu.symm; have nv2 := nv.symm
      have BB : Hid (∀ o, Below w.heap.size w (w9.alloc o)) := fun o => B.alloc B.size o
      clear B hU hV1 hR
      go_wp2
      simp [bodyPost, results, Tryz.results142, go_sem, *]
      repeat (first | with_reducible exact BB.out _ | with_reducible refine Below.setCell ?_ o3 _)

theorem r5times_any {n x : Int} (hn : Word n) (hx : Num x) (w : World) : Calls Tryz.prog 160 #[.int .u64 n, .agg #[.int .u64 (l0 x), .int .u64 (l1 x), .int .u64 (l2 x), .int .u64 (l3 x)]] w fun e w' => e = .returned (.agg #[.int .u64 (l0 (modN pN (n * x))), .int .u64 (l1 (modN pN (n * x))), .int .u64 (l2 (modN pN (n * x))), .int .u64 (l3 (modN pN (n * x)))]) ∧ Below w.heap.size w w' :=
  r5times_walk (fun w => rfrom_any hn w) (fun w => r5mul_any ⟨hn.1, by have := hn.2; omega⟩ hx w) w
end Go.Proofs.YtncpjgpioajbeaaGreatDoor

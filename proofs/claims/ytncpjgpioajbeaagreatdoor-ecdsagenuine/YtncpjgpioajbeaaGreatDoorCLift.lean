import Derived.Test.YtncpjgpioajbeaaGreatDoorCPnt
import Derived.Test.YtncpjgpioajbeaaGreatDoorCSq
import Derived.Test.YtncpjgpioajbeaaGreatDoorFRootAny
import Derived.Test.YtncpjgpioajbeaaGreatDoorFSqNum
namespace Go.Proofs.YtncpjgpioajbeaaGreatDoor
open Go.RowKit Go.Sort

set_option maxHeartbeats 2000000 in
theorem clift_high {x : Int} {i : Bool} (C1 : Hid (∀ w, Mds w → Calls Tryz.prog 47 #[.agg #[.int .u64 (l0 x), .int .u64 (l1 x), .int .u64 (l2 x), .int .u64 (l3 x)]] w fun e w' => e = .returned (.bool false) ∧ Below w.heap.size w w')) (w : World) (hm : Mds w) :
    Calls Tryz.prog 24 #[.agg #[.int .u64 (l0 x), .int .u64 (l1 x), .int .u64 (l2 x), .int .u64 (l3 x)], .bool i] w fun e w' => e = .returned (.tuple #[.agg #[.int .u64 0, .int .u64 0, .int .u64 0, .int .u64 0, .int .u64 0, .int .u64 0, .int .u64 0, .int .u64 0, .bool false], .int .i64 50]) ∧ Below w.heap.size w w' := by
  go_enter Tryz.func24, Tryz.ntmps24
  go_wp2_with fail
  refine calls_world (fun W => Below w.heap.size w W ∧ Mds W ∧ Hold W w.heap.size x ∧ Bk9 W (w.heap.size + 1)) ⟨by repeat (first | with_reducible exact Below.refl _ _ | with_reducible refine Below.alloc ?_ (by first | omega | (simp; done) | (simp; omega)) _), (hm.alloc _).alloc _, (Hold.fresh (by simp)).alloc _, Bk9.new (by simp)⟩ ?_
  rintro W ⟨B, hD, hX, hR⟩
  have o3 : w.heap.size ≤ w.heap.size + 1 := by omega
  generalize w.heap.size + 1 = br at *
  with_reducible refine (C1.out _ hD).mono ?_
  rintro e w1 ⟨rfl, hb⟩
  replace B := B.trans (hb.mono B.size)
  replace hD := hD.keep hb; replace hX := hX.keep hb; replace hR := hR.keep hb
  clear hb W hD
  clear hX
  have gR := hR.cells; have fR := hR.free
  go_wp2
  simp [bodyPost, results, Tryz.results24, go_sem, gR]
  repeat (first | with_reducible exact B | with_reducible refine Below.setCell ?_ o3 _)

set_option maxHeartbeats 2000000 in
theorem clift_none {x c r e1 : Int} {i : Bool} (C1 : Hid (∀ w, Mds w → Calls Tryz.prog 47 #[.agg #[.int .u64 (l0 x), .int .u64 (l1 x), .int .u64 (l2 x), .int .u64 (l3 x)]] w fun e w' => e = .returned (.bool true) ∧ Below w.heap.size w w')) (C2 : Hid (∀ w, Mds w → Calls Tryz.prog 49 #[.agg #[.int .u64 (l0 x), .int .u64 (l1 x), .int .u64 (l2 x), .int .u64 (l3 x)]] w fun e w' => e = .returned (.agg #[.int .u64 (l0 c), .int .u64 (l1 c), .int .u64 (l2 c), .int .u64 (l3 c)]) ∧ Below w.heap.size w w')) (C3 : Hid (∀ w, Mds w → Calls Tryz.prog 48 #[.agg #[.int .u64 (l0 c), .int .u64 (l1 c), .int .u64 (l2 c), .int .u64 (l3 c)]] w fun e w' => e = .returned (.tuple #[.agg #[.int .u64 (l0 r), .int .u64 (l1 r), .int .u64 (l2 r), .int .u64 (l3 r)], .int .i64 e1]) ∧ Below w.heap.size w w')) (he : e1 ≠ 0) (w : World) (hm : Mds w) :
    Calls Tryz.prog 24 #[.agg #[.int .u64 (l0 x), .int .u64 (l1 x), .int .u64 (l2 x), .int .u64 (l3 x)], .bool i] w fun e w' => e = .returned (.tuple #[.agg #[.int .u64 0, .int .u64 0, .int .u64 0, .int .u64 0, .int .u64 0, .int .u64 0, .int .u64 0, .int .u64 0, .bool false], .int .i64 50]) ∧ Below w.heap.size w w' := by
  go_enter Tryz.func24, Tryz.ntmps24
  go_wp2_with fail
  refine calls_world (fun W => Below w.heap.size w W ∧ Mds W ∧ Hold W w.heap.size x ∧ Bk9 W (w.heap.size + 1)) ⟨by repeat (first | with_reducible exact Below.refl _ _ | with_reducible refine Below.alloc ?_ (by first | omega | (simp; done) | (simp; omega)) _), (hm.alloc _).alloc _, (Hold.fresh (by simp)).alloc _, Bk9.new (by simp)⟩ ?_
  rintro W ⟨B, hD, hX, hR⟩
  have o3 : w.heap.size ≤ w.heap.size + 1 := by omega
  generalize w.heap.size + 1 = br at *
  with_reducible refine (C1.out _ hD).mono ?_
  rintro e w1 ⟨rfl, hb⟩
  replace B := B.trans (hb.mono B.size)
  replace hD := hD.keep hb; replace hX := hX.keep hb; replace hR := hR.keep hb
  clear hb W
  have ghX := hX.cells
  go_wp2_with fail
  refine calls_world (fun W => Below w.heap.size w W ∧ Mds W ∧ Hold W w.heap.size x ∧ Bk9 W br) ⟨B, hD, hX, hR⟩ ?_
  clear B hD hX hR ghX
  rintro W ⟨B, hD, hX, hR⟩
  with_reducible refine (C2.out _ hD).mono ?_
  rintro e w2 ⟨rfl, hb⟩
  replace B := B.trans (hb.mono B.size)
  replace hD := hD.keep hb; replace hX := hX.keep hb; replace hR := hR.keep hb
  clear hb W
  go_wp2_with fail
  refine calls_world (fun W => Below w.heap.size w W ∧ Mds W ∧ Hold W w.heap.size x ∧ Bk9 W br) ⟨B, hD, hX, hR⟩ ?_
  clear B hD hX hR 
  rintro W ⟨B, hD, hX, hR⟩
  with_reducible refine (C3.out _ hD).mono ?_
  rintro e w3 ⟨rfl, hb⟩
  replace B := B.trans (hb.mono B.size)
  replace hD := hD.keep hb; replace hX := hX.keep hb; replace hR := hR.keep hb
  clear hb W hD hX
  have lr := hR.lt
  have nr : w3.heap.size ≠ br := by omega
  have nr' := nr.symm
  have gR := fun o => (hR.alloc o).cells; have fR := fun o => (hR.alloc o).free
  have BB : Hid (∀ o, Below w.heap.size w (w3.alloc o)) := fun o => B.alloc B.size o
  clear B hR lr
  go_wp2
  simp [bodyPost, results, Tryz.results24, go_sem, *]
  repeat (first | with_reducible exact BB.out _ | with_reducible refine Below.drew ?_ | with_reducible refine Below.setCell ?_ (by with_reducible assumption) _)

set_option maxHeartbeats 4000000 in
theorem clift_even {x c r : Int} (C1 : Hid (∀ w, Mds w → Calls Tryz.prog 47 #[.agg #[.int .u64 (l0 x), .int .u64 (l1 x), .int .u64 (l2 x), .int .u64 (l3 x)]] w fun e w' => e = .returned (.bool true) ∧ Below w.heap.size w w')) (C2 : Hid (∀ w, Mds w → Calls Tryz.prog 49 #[.agg #[.int .u64 (l0 x), .int .u64 (l1 x), .int .u64 (l2 x), .int .u64 (l3 x)]] w fun e w' => e = .returned (.agg #[.int .u64 (l0 c), .int .u64 (l1 c), .int .u64 (l2 c), .int .u64 (l3 c)]) ∧ Below w.heap.size w w')) (C3 : Hid (∀ w, Mds w → Calls Tryz.prog 48 #[.agg #[.int .u64 (l0 c), .int .u64 (l1 c), .int .u64 (l2 c), .int .u64 (l3 c)]] w fun e w' => e = .returned (.tuple #[.agg #[.int .u64 (l0 r), .int .u64 (l1 r), .int .u64 (l2 r), .int .u64 (l3 r)], .int .i64 0]) ∧ Below w.heap.size w w')) (w : World) (hm : Mds w) :
    Calls Tryz.prog 24 #[.agg #[.int .u64 (l0 x), .int .u64 (l1 x), .int .u64 (l2 x), .int .u64 (l3 x)], .bool false] w fun e w' => e = .returned (.tuple #[.agg #[.int .u64 (l0 x), .int .u64 (l1 x), .int .u64 (l2 x), .int .u64 (l3 x), .int .u64 (l0 r), .int .u64 (l1 r), .int .u64 (l2 r), .int .u64 (l3 r), .bool false], .int .i64 0]) ∧ Below w.heap.size w w' := by
  go_enter Tryz.func24, Tryz.ntmps24
  go_wp2_with fail
  refine calls_world (fun W => Below w.heap.size w W ∧ Mds W ∧ Hold W w.heap.size x ∧ Bk9 W (w.heap.size + 1)) ⟨by repeat (first | with_reducible exact Below.refl _ _ | with_reducible refine Below.alloc ?_ (by first | omega | (simp; done) | (simp; omega)) _), (hm.alloc _).alloc _, (Hold.fresh (by simp)).alloc _, Bk9.new (by simp)⟩ ?_
  rintro W ⟨B, hD, hX, hR⟩
  have o3 : w.heap.size ≤ w.heap.size + 1 := by omega
  generalize w.heap.size + 1 = br at *
  with_reducible refine (C1.out _ hD).mono ?_
  rintro e w1 ⟨rfl, hb⟩
  replace B := B.trans (hb.mono B.size)
  replace hD := hD.keep hb; replace hX := hX.keep hb; replace hR := hR.keep hb
  clear hb W
  have ghX := hX.cells
  go_wp2_with fail
  refine calls_world (fun W => Below w.heap.size w W ∧ Mds W ∧ Hold W w.heap.size x ∧ Bk9 W br) ⟨B, hD, hX, hR⟩ ?_
  clear B hD hX hR ghX
  rintro W ⟨B, hD, hX, hR⟩
  with_reducible refine (C2.out _ hD).mono ?_
  rintro e w2 ⟨rfl, hb⟩
  replace B := B.trans (hb.mono B.size)
  replace hD := hD.keep hb; replace hX := hX.keep hb; replace hR := hR.keep hb
  clear hb W
  go_wp2_with fail
  refine calls_world (fun W => Below w.heap.size w W ∧ Mds W ∧ Hold W w.heap.size x ∧ Bk9 W br) ⟨B, hD, hX, hR⟩ ?_
  clear B hD hX hR 
  rintro W ⟨B, hD, hX, hR⟩
  with_reducible refine (C3.out _ hD).mono ?_
  rintro e w3 ⟨rfl, hb⟩
  replace B := B.trans (hb.mono B.size)
  replace hD := hD.keep hb; replace hX := hX.keep hb; replace hR := hR.keep hb
  clear hb W hD
  have gX := hX.allocs
  clear hX
  have lr := hR.lt
  have nr : w3.heap.size ≠ br := by omega
  have nr' := nr.symm
  have gR := fun o => (hR.alloc o).cells; have fR := fun o => (hR.alloc o).free
  have BB : Hid (∀ o, Below w.heap.size w (w3.alloc o)) := fun o => B.alloc B.size o
  clear B hR lr
  go_wp2
  simp [bodyPost, results, Tryz.results24, go_sem, *]
  repeat (first | with_reducible exact BB.out _ | with_reducible refine Below.drew ?_ | with_reducible refine Below.setCell ?_ (by with_reducible assumption) _)

set_option maxHeartbeats 4000000 in
theorem clift_odd {x c r s : Int} (C1 : Hid (∀ w, Mds w → Calls Tryz.prog 47 #[.agg #[.int .u64 (l0 x), .int .u64 (l1 x), .int .u64 (l2 x), .int .u64 (l3 x)]] w fun e w' => e = .returned (.bool true) ∧ Below w.heap.size w w')) (C2 : Hid (∀ w, Mds w → Calls Tryz.prog 49 #[.agg #[.int .u64 (l0 x), .int .u64 (l1 x), .int .u64 (l2 x), .int .u64 (l3 x)]] w fun e w' => e = .returned (.agg #[.int .u64 (l0 c), .int .u64 (l1 c), .int .u64 (l2 c), .int .u64 (l3 c)]) ∧ Below w.heap.size w w')) (C3 : Hid (∀ w, Mds w → Calls Tryz.prog 48 #[.agg #[.int .u64 (l0 c), .int .u64 (l1 c), .int .u64 (l2 c), .int .u64 (l3 c)]] w fun e w' => e = .returned (.tuple #[.agg #[.int .u64 (l0 r), .int .u64 (l1 r), .int .u64 (l2 r), .int .u64 (l3 r)], .int .i64 0]) ∧ Below w.heap.size w w')) (C4 : Hid (∀ w, Mds w → Calls Tryz.prog 50 #[.agg #[.int .u64 (l0 r), .int .u64 (l1 r), .int .u64 (l2 r), .int .u64 (l3 r)]] w fun e w' => e = .returned (.agg #[.int .u64 (l0 s), .int .u64 (l1 s), .int .u64 (l2 s), .int .u64 (l3 s)]) ∧ Below w.heap.size w w')) (w : World) (hm : Mds w) :
    Calls Tryz.prog 24 #[.agg #[.int .u64 (l0 x), .int .u64 (l1 x), .int .u64 (l2 x), .int .u64 (l3 x)], .bool true] w fun e w' => e = .returned (.tuple #[.agg #[.int .u64 (l0 x), .int .u64 (l1 x), .int .u64 (l2 x), .int .u64 (l3 x), .int .u64 (l0 s), .int .u64 (l1 s), .int .u64 (l2 s), .int .u64 (l3 s), .bool false], .int .i64 0]) ∧ Below w.heap.size w w' := by
  go_enter Tryz.func24, Tryz.ntmps24
  go_wp2_with fail
  refine calls_world (fun W => Below w.heap.size w W ∧ Mds W ∧ Hold W w.heap.size x ∧ Bk9 W (w.heap.size + 1)) ⟨by repeat (first | with_reducible exact Below.refl _ _ | with_reducible refine Below.alloc ?_ (by first | omega | (simp; done) | (simp; omega)) _), (hm.alloc _).alloc _, (Hold.fresh (by simp)).alloc _, Bk9.new (by simp)⟩ ?_
  rintro W ⟨B, hD, hX, hR⟩
  have o3 : w.heap.size ≤ w.heap.size + 1 := by omega
  generalize w.heap.size + 1 = br at *
  with_reducible refine (C1.out _ hD).mono ?_
  rintro e w1 ⟨rfl, hb⟩
  replace B := B.trans (hb.mono B.size)
  replace hD := hD.keep hb; replace hX := hX.keep hb; replace hR := hR.keep hb
  clear hb W
  have ghX := hX.cells
  go_wp2_with fail
  refine calls_world (fun W => Below w.heap.size w W ∧ Mds W ∧ Hold W w.heap.size x ∧ Bk9 W br) ⟨B, hD, hX, hR⟩ ?_
  clear B hD hX hR ghX
  rintro W ⟨B, hD, hX, hR⟩
  with_reducible refine (C2.out _ hD).mono ?_
  rintro e w2 ⟨rfl, hb⟩
  replace B := B.trans (hb.mono B.size)
  replace hD := hD.keep hb; replace hX := hX.keep hb; replace hR := hR.keep hb
  clear hb W
  go_wp2_with fail
  refine calls_world (fun W => Below w.heap.size w W ∧ Mds W ∧ Hold W w.heap.size x ∧ Bk9 W br) ⟨B, hD, hX, hR⟩ ?_
  clear B hD hX hR 
  rintro W ⟨B, hD, hX, hR⟩
  with_reducible refine (C3.out _ hD).mono ?_
  rintro e w3 ⟨rfl, hb⟩
  replace B := B.trans (hb.mono B.size)
  replace hD := hD.keep hb; replace hX := hX.keep hb; replace hR := hR.keep hb
  clear hb W
  go_wp2_with fail
  have hnx0 : w3.heap.size ≠ w.heap.size := by have h : w.heap.size < w3.heap.size := World.block_lt_of_cell? _ _ hX.1; omega
  have hny0 : w3.heap.size ≠ br := by have := hR.lt; omega
  have geby1 : w.heap.size ≤ w3.heap.size := by have := B.size; omega
  refine calls_world (fun W => Below w.heap.size w W ∧ Mds W ∧ Hold W w.heap.size x ∧ Bk9 W br ∧ Var W w3.heap.size r) ⟨B.alloc B.size _, hD.alloc _, hX.alloc _, hR.alloc _, Var.new rfl⟩ ?_
  clear B hD hX hR 
  rintro W ⟨B, hD, hX, hR, hY⟩
  generalize w3.heap.size = by1 at *
  with_reducible refine (C4.out _ hD).mono ?_
  rintro e w4 ⟨rfl, hb⟩
  replace B := B.trans (hb.mono B.size)
  replace hD := hD.keep hb; replace hX := hX.keep hb; replace hR := hR.keep hb; replace hY := hY.keep hb
  clear hb W hD
  have gX := hX.cells
  have gY := hY.1.cells; have qY := hY.2.all4
  have gR := hR.cells; have fR := hR.free
  have n1 : by1 ≠ w.heap.size := hnx0
  have n2 : by1 ≠ br := hny0
  have n1' := n1.symm
  have n2' := n2.symm
  go_wp2
  simp [bodyPost, results, Tryz.results24, go_sem, *]
  repeat (first | with_reducible exact B | with_reducible refine Below.drew ?_ | with_reducible refine Below.setCell ?_ (by with_reducible assumption) _)

def liftOk (x : Int) : Prop := x < pN ∧ rootE (cubN x) = 0
instance (x : Int) : Decidable (liftOk x) := inferInstanceAs (Decidable (_ ∧ _))
def liftE (x : Int) : Int := if liftOk x then 0 else 50
def liftX (x : Int) : Int := if liftOk x then x else 0
def liftY (odd : Bool) (x : Int) : Int := if liftOk x then (if odd then modN pN (0 - rootN (cubN x)) else rootN (cubN x)) else 0
theorem root_num (x : Int) : Num (rootN x) := by
  unfold rootN
  split
  · obtain ⟨_, a, b, _⟩ := even_one (powN_lt fit_p x qN).1 (powN_lt fit_p x qN).2
    have := fit_p.num
    exact ⟨a, Int.lt_trans b this.2⟩
  · exact ⟨by decide, by decide⟩
theorem clift_any {x : Int} (hx : Num x) (i : Bool) (w : World) (hm : Mds w) :
    Calls Tryz.prog 24 #[.agg #[.int .u64 (l0 x), .int .u64 (l1 x), .int .u64 (l2 x), .int .u64 (l3 x)], .bool i] w fun e w' => e = .returned (.tuple #[.agg #[.int .u64 (l0 (liftX x)), .int .u64 (l1 (liftX x)), .int .u64 (l2 (liftX x)), .int .u64 (l3 (liftX x)), .int .u64 (l0 (liftY i x)), .int .u64 (l1 (liftY i x)), .int .u64 (l2 (liftY i x)), .int .u64 (l3 (liftY i x)), .bool false], .int .i64 (liftE x)]) ∧ Below w.heap.size w w' := by
  obtain ⟨z0, z1, z2, z3⟩ := zero_limbs
  by_cases hp : x < pN
  · have C1 : Hid (∀ w, Mds w → Calls Tryz.prog 47 #[.agg #[.int .u64 (l0 x), .int .u64 (l1 x), .int .u64 (l2 x), .int .u64 (l3 x)]] w fun e w' => e = .returned (.bool true) ∧ Below w.heap.size w w') := fun w hm => by
      have := cbelow_any hx w hm
      rw [decide_eq_true hp] at this; exact this
    by_cases hr : rootE (cubN x) = 0
    · have ok : liftOk x := ⟨hp, hr⟩
      have C3 : Hid (∀ w, Mds w → Calls Tryz.prog 48 #[.agg #[.int .u64 (l0 (cubN x)), .int .u64 (l1 (cubN x)), .int .u64 (l2 (cubN x)), .int .u64 (l3 (cubN x))]] w fun e w' => e = .returned (.tuple #[.agg #[.int .u64 (l0 (rootN (cubN x))), .int .u64 (l1 (rootN (cubN x))), .int .u64 (l2 (rootN (cubN x))), .int .u64 (l3 (rootN (cubN x)))], .int .i64 0]) ∧ Below w.heap.size w w') := fun w hm => by
        have := Root_any (modN_Num fit_p _) w hm (x := cubN x)
        rw [hr] at this; exact this
      unfold liftX liftY liftE
      rw [if_pos ok, if_pos ok, if_pos ok]
      cases i with
      | false => exact clift_even C1 (fun w hm => csqat_any hx w hm) C3 w hm
      | true => exact clift_odd C1 (fun w hm => csqat_any hx w hm) C3 (fun w hm => copposite_any (root_num _) w hm) w hm
    · have no : ¬ liftOk x := fun h => hr h.2
      unfold liftX liftY liftE
      rw [if_neg no, if_neg no, if_neg no, z0, z1, z2, z3]
      exact clift_none C1 (fun w hm => csqat_any hx w hm) (fun w hm => Root_any (modN_Num fit_p _) w hm) hr w hm
  · have no : ¬ liftOk x := fun h => hp h.1
    unfold liftX liftY liftE
    rw [if_neg no, if_neg no, if_neg no, z0, z1, z2, z3]
    exact clift_high (fun w hm => by
      have := cbelow_any hx w hm
      rw [decide_eq_false hp] at this; exact this) w hm

end Go.Proofs.YtncpjgpioajbeaaGreatDoor

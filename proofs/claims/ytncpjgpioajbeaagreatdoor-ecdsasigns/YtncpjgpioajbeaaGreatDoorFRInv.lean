import Derived.Test.YtncpjgpioajbeaaGreatDoorFRefY
import Derived.Test.YtncpjgpioajbeaaGreatDoorFInv
namespace Go.Proofs.YtncpjgpioajbeaaGreatDoor
open Go.RowKit Go.Sort

set_option maxHeartbeats 4000000 in
theorem rInverse_good {k x : Int} (hk : k = 0 ∨ k = 1) (hx : Num x) (hz : modN (rM k) x ≠ 0) (w : World) :
    Calls Tryz.prog 127 #[.int .i64 k, .agg #[.int .u64 (l0 x), .int .u64 (l1 x), .int .u64 (l2 x), .int .u64 (l3 x)]] w fun e w' => e = .returned (.tuple #[.agg #[.int .u64 (l0 (invN (rM k) x)), .int .u64 (l1 (invN (rM k) x)), .int .u64 (l2 (invN (rM k) x)), .int .u64 (l3 (invN (rM k) x))], .int .i64 0]) ∧ Below w.heap.size w w' := by
  have hf := rfit k
  obtain ⟨q1, q2⟩ := two_off hf
  have G : Hid (∀ w, Calls Tryz.prog 117 #[.int .i64 k] w fun e w' => e = .returned (.bool true) ∧ Below w.heap.size w w') := rgood_yes hk
  have B1 : Hid (∀ w, Calls Tryz.prog 147 #[.int .i64 k, .agg #[.int .u64 (l0 x), .int .u64 (l1 x), .int .u64 (l2 x), .int .u64 (l3 x)]] w fun e w' => e = .returned (.agg #[.int .u64 (l0 (modN (rM k) x)), .int .u64 (l1 (modN (rM k) x)), .int .u64 (l2 (modN (rM k) x)), .int .u64 (l3 (modN (rM k) x))]) ∧ Below w.heap.size w w') := rbelow_any hx
  have M1 : Hid (∀ w, Calls Tryz.prog 118 #[.int .i64 k] w fun e w' => e = .returned (.agg #[.int .u64 (l0 (rM k)), .int .u64 (l1 (rM k)), .int .u64 (l2 (rM k)), .int .u64 (l3 (rM k))]) ∧ Below w.heap.size w w') := rmodulus_any k
  have F1 : Hid (∀ w, Calls Tryz.prog 148 #[.int .u64 2] w fun e w' => e = .returned (.agg #[.int .u64 (l0 2), .int .u64 (l1 2), .int .u64 (l2 2), .int .u64 (l3 2)]) ∧ Below w.heap.size w w') := rfrom_any ⟨by decide, by decide⟩
  have S1 : Hid (∀ w, Calls Tryz.prog 70 #[.agg #[.int .u64 (l0 (rM k)), .int .u64 (l1 (rM k)), .int .u64 (l2 (rM k)), .int .u64 (l3 (rM k))], .agg #[.int .u64 (l0 2), .int .u64 (l1 2), .int .u64 (l2 2), .int .u64 (l3 2)]] w fun e w' => e = .returned (.tuple #[.agg #[.int .u64 (l0 (rM k - 2)), .int .u64 (l1 (rM k - 2)), .int .u64 (l2 (rM k - 2)), .int .u64 (l3 (rM k - 2))], .int .u64 (borN (rM k) 2)]) ∧ Below w.heap.size w w') := fun w => by
    have := rsub_any (m := 2) hf.num ⟨by decide, by decide⟩ w; rw [q1] at this; exact this
  have E1 : Hid (∀ w, Calls Tryz.prog 149 #[.int .i64 k, .agg #[.int .u64 (l0 x), .int .u64 (l1 x), .int .u64 (l2 x), .int .u64 (l3 x)], .agg #[.int .u64 (l0 (rM k - 2)), .int .u64 (l1 (rM k - 2)), .int .u64 (l2 (rM k - 2)), .int .u64 (l3 (rM k - 2))]] w fun e w' => e = .returned (.agg #[.int .u64 (l0 (invN (rM k) x)), .int .u64 (l1 (invN (rM k) x)), .int .u64 (l2 (invN (rM k) x)), .int .u64 (l3 (invN (rM k) x))]) ∧ Below w.heap.size w w') := rpower_any hx q2
  have hq := feq_zero (modN_Num hf x)
  rw [show decide (modN (rM k) x = 0) = false by simp [hz]] at hq
  clear q1 q2 hf hx hz hk
  generalize invN (rM k) x = R at *
  generalize modN (rM k) x = r at *
  generalize rM k - 2 = D at *
  generalize borN (rM k) 2 = z at *
  generalize rM k = m at *
  generalize ht : (2 : Int) = T at F1 S1
  have bz := build_zero
  go_enter Tryz.func127, Tryz.ntmps127
  go_wp2_with fail
  refine calls_world (fun W => Below w.heap.size w W ∧ Hold W w.heap.size x ∧ Blank W (w.heap.size + 1)) ⟨by repeat (first | with_reducible exact Below.refl _ _ | with_reducible refine Below.alloc ?_ (by first | omega | (simp; done) | (simp; omega)) _), (Hold.fresh (by simp)).alloc _, Blank.new (by simp)⟩ ?_
  rintro W ⟨B, hX, hR⟩
  have o3 : w.heap.size ≤ w.heap.size + 1 := by omega
  generalize w.heap.size + 1 = br at *
  with_reducible refine (G.out _).mono ?_
  rintro e w1 ⟨rfl, hb⟩
  replace B := B.trans (hb.mono B.size)
  replace hX := hX.keep hb; replace hR := hR.keep hb
  clear hb W
  have gX := hX.cells
  go_wp2_with fail
  with_reducible refine (B1.out _).mono ?_
  rintro e w2 ⟨rfl, hb⟩
  replace B := B.trans (hb.mono B.size)
  replace hX := hX.keep hb; replace hR := hR.keep hb
  clear hb gX w1
  go_wp2_with fail
  clear hq
  with_reducible refine (M1.out _).mono ?_
  rintro e w3 ⟨rfl, hb⟩
  replace B := B.trans (hb.mono B.size)
  replace hX := hX.keep hb; replace hR := hR.keep hb
  clear hb w2
  go_wp2_with fail
  subst ht
  with_reducible refine (F1.out _).mono ?_
  rintro e w4 ⟨rfl, hb⟩
  replace B := B.trans (hb.mono B.size)
  replace hX := hX.keep hb; replace hR := hR.keep hb
  clear hb w3
  go_wp2_with fail
  with_reducible refine (S1.out _).mono ?_
  rintro e w5 ⟨rfl, hb⟩
  replace B := B.trans (hb.mono B.size)
  replace hX := hX.keep hb; replace hR := hR.keep hb
  clear hb w4
  have gX := hX.allocs
  go_wp2_with fail
  refine calls_world (fun W => Below w.heap.size w W ∧ Blank W br) ⟨B.alloc B.size _, hR.alloc _⟩ ?_
  clear B hX hR gX
  rintro W ⟨B, hR⟩
  with_reducible refine (E1.out _).mono ?_
  rintro e w6 ⟨rfl, hb⟩
  replace B := B.trans (hb.mono B.size)
  replace hR := hR.keep hb
  clear hb W
  have gR := hR.1.all4; have fR := hR.2.all4
  go_wp2
  simp [bodyPost, results, Tryz.results127, go_sem, gR]
  exact below_set4 B o3 _ _ _ _

end Go.Proofs.YtncpjgpioajbeaaGreatDoor

import Derived.Test.YtmcodflbngkdcaaGreatDoorFBin
import Derived.Test.YtmcodflbngkdcaaGreatDoorAdd
import Derived.Test.YtmcodflbngkdcaaGreatDoorHold
namespace Go.Proofs.YtmcodflbngkdcaaGreatDoor
open Go.RowKit Go.Sort

set_option maxHeartbeats 2000000 in
theorem Modulus_walk {k m c e0 : Int} (O : Hid (∀ w, Mds w → Calls Tryz.prog 66 #[.int .i64 k] w fun e w' => e = .returned (.tuple #[.agg #[.int .u64 (l0 m), .int .u64 (l1 m), .int .u64 (l2 m), .int .u64 (l3 m), .int .u64 (l0 c), .int .u64 (l1 c), .int .u64 (l2 c), .int .u64 (l3 c)], .int .i64 e0]) ∧ Below w.heap.size w w')) (w : World) (hm : Mds w) :
    Calls Tryz.prog 85 #[.int .i64 k] w fun e w' => e = .returned (.tuple #[.agg #[.int .u64 (l0 m), .int .u64 (l1 m), .int .u64 (l2 m), .int .u64 (l3 m)], .int .i64 e0]) ∧ Below w.heap.size w w' := by
  go_enter Tryz.func85, Tryz.ntmps85
  go_wp2_with fail
  refine calls_world (fun W => Below w.heap.size w W ∧ Mds W ∧ Blank W w.heap.size) ⟨by repeat (first | with_reducible exact Below.refl _ _ | with_reducible refine Below.alloc ?_ (by first | omega | (simp; done) | (simp; omega)) _), hm.alloc _, Blank.new (by simp)⟩ ?_
  rintro W ⟨B, hD, hR⟩
  have o3 : w.heap.size ≤ w.heap.size := by omega
  with_reducible refine (O.out _ hD).mono ?_
  rintro e w1 ⟨rfl, hb⟩
  replace B := B.trans (hb.mono B.size)
  replace hR := hR.keep hb
  have lr := hR.1.lt (by simp)
  have nr : w1.heap.size ≠ w.heap.size := by omega
  have nr' := nr.symm
  clear hb hD W lr
  have gR := fun o => (hR.alloc o).1.all4
  have fR := fun o => (hR.alloc o).2.all4
  have BB : Hid (∀ o, Below w.heap.size w (w1.alloc o)) := fun o => B.alloc B.size o
  clear B hR
  go_wp2
  simp [bodyPost, results, Tryz.results85, go_sem, *]
  repeat (first | with_reducible exact BB.out _ | with_reducible refine Below.drew ?_ | with_reducible refine Below.setCell ?_ (by with_reducible assumption) _)

theorem Modulus_good {k m c : Int} (hk : Kind k m c) (w : World) (hm : Mds w) :
    Calls Tryz.prog 85 #[.int .i64 k] w fun e w' => e = .returned (.tuple #[.agg #[.int .u64 (l0 m), .int .u64 (l1 m), .int .u64 (l2 m), .int .u64 (l3 m)], .int .i64 0]) ∧ Below w.heap.size w w' := Modulus_walk (fun w h => of_good hk w h) w hm
end Go.Proofs.YtmcodflbngkdcaaGreatDoor

namespace Go.Proofs.YtmcodflbngkdcaaGreatDoor
open Go.RowKit Go.Sort

set_option maxHeartbeats 4000000 in
theorem rInverse_good {k x : Int} (hk : k = 0 ∨ k = 1) (hx : Num x) (hz : modN (rM k) x ≠ 0) (w : World) :
    Calls Tryz.prog 44 #[.int .i64 k, .agg #[.int .u64 (l0 x), .int .u64 (l1 x), .int .u64 (l2 x), .int .u64 (l3 x)]] w fun e w' => e = .returned (.tuple #[.agg #[.int .u64 (l0 (invN (rM k) x)), .int .u64 (l1 (invN (rM k) x)), .int .u64 (l2 (invN (rM k) x)), .int .u64 (l3 (invN (rM k) x))], .int .i64 0]) ∧ Below w.heap.size w w' := by
  have hf := rfit k
  obtain ⟨q1, q2⟩ := two_off hf
  have G : Hid (∀ w, Calls Tryz.prog 70 #[.int .i64 k] w fun e w' => e = .returned (.bool true) ∧ Below w.heap.size w w') := rgood_yes hk
  have B1 : Hid (∀ w, Calls Tryz.prog 72 #[.int .i64 k, .agg #[.int .u64 (l0 x), .int .u64 (l1 x), .int .u64 (l2 x), .int .u64 (l3 x)]] w fun e w' => e = .returned (.agg #[.int .u64 (l0 (modN (rM k) x)), .int .u64 (l1 (modN (rM k) x)), .int .u64 (l2 (modN (rM k) x)), .int .u64 (l3 (modN (rM k) x))]) ∧ Below w.heap.size w w') := rbelow_any hx
  have M1 : Hid (∀ w, Calls Tryz.prog 71 #[.int .i64 k] w fun e w' => e = .returned (.agg #[.int .u64 (l0 (rM k)), .int .u64 (l1 (rM k)), .int .u64 (l2 (rM k)), .int .u64 (l3 (rM k))]) ∧ Below w.heap.size w w') := rmodulus_any k
  have F1 : Hid (∀ w, Calls Tryz.prog 74 #[.int .u64 2] w fun e w' => e = .returned (.agg #[.int .u64 (l0 2), .int .u64 (l1 2), .int .u64 (l2 2), .int .u64 (l3 2)]) ∧ Below w.heap.size w w') := rfrom_any ⟨by decide, by decide⟩
  have S1 : Hid (∀ w, Calls Tryz.prog 73 #[.agg #[.int .u64 (l0 (rM k)), .int .u64 (l1 (rM k)), .int .u64 (l2 (rM k)), .int .u64 (l3 (rM k))], .agg #[.int .u64 (l0 2), .int .u64 (l1 2), .int .u64 (l2 2), .int .u64 (l3 2)]] w fun e w' => e = .returned (.tuple #[.agg #[.int .u64 (l0 (rM k - 2)), .int .u64 (l1 (rM k - 2)), .int .u64 (l2 (rM k - 2)), .int .u64 (l3 (rM k - 2))], .int .u64 (borN (rM k) 2)]) ∧ Below w.heap.size w w') := fun w => by
    have := rsub_any (m := 2) hf.num ⟨by decide, by decide⟩ w; rw [q1] at this; exact this
  have E1 : Hid (∀ w, Calls Tryz.prog 75 #[.int .i64 k, .agg #[.int .u64 (l0 x), .int .u64 (l1 x), .int .u64 (l2 x), .int .u64 (l3 x)], .agg #[.int .u64 (l0 (rM k - 2)), .int .u64 (l1 (rM k - 2)), .int .u64 (l2 (rM k - 2)), .int .u64 (l3 (rM k - 2))]] w fun e w' => e = .returned (.agg #[.int .u64 (l0 (invN (rM k) x)), .int .u64 (l1 (invN (rM k) x)), .int .u64 (l2 (invN (rM k) x)), .int .u64 (l3 (invN (rM k) x))]) ∧ Below w.heap.size w w') := rpower_any hx q2
  have hq := feq_zero (modN_Num hf x)
  rw [show decide (modN (rM k) x = 0) = false by simp [hz]] at hq
  clear q1 q2 hf hx hz hk
  generalize invN (rM k) x = R at *
  generalize modN (rM k) x = r at *
  generalize rM k - 2 = D at *
  generalize borN (rM k) 2 = z at *
  generalize rM k = m at *
  generalize ht : (2 : Int) = T at F1 S1
  have bz := build_zero
  go_enter Tryz.func44, Tryz.ntmps44
  go_wp2_with fail
  refine calls_world (fun W => Below w.heap.size w W ∧ Hold W w.heap.size x ∧ Blank W (w.heap.size + 1)) ⟨by repeat (first | with_reducible exact Below.refl _ _ | with_reducible refine Below.alloc ?_ (by first | omega | (simp; done) | (simp; omega)) _), (Hold.fresh (by simp)).alloc _, Blank.new (by simp)⟩ ?_
  rintro W ⟨B, hX, hR⟩
  have o3 : w.heap.size ≤ w.heap.size + 1 := by omega
  generalize w.heap.size + 1 = br at *
  with_reducible refine (G.out _).mono ?_
  rintro e w1 ⟨rfl, hb⟩
  replace B := B.trans (hb.mono B.size)
  replace hX := hX.keep hb; replace hR := hR.keep hb
  clear hb W
  have gX := hX.cells
  go_wp2_with fail
  with_reducible refine (B1.out _).mono ?_
  rintro e w2 ⟨rfl, hb⟩
  replace B := B.trans (hb.mono B.size)
  replace hX := hX.keep hb; replace hR := hR.keep hb
  clear hb gX w1
  go_wp2_with fail
  clear hq
  with_reducible refine (M1.out _).mono ?_
  rintro e w3 ⟨rfl, hb⟩
  replace B := B.trans (hb.mono B.size)
  replace hX := hX.keep hb; replace hR := hR.keep hb
  clear hb w2
  go_wp2_with fail
  subst ht
  with_reducible refine (F1.out _).mono ?_
  rintro e w4 ⟨rfl, hb⟩
  replace B := B.trans (hb.mono B.size)
  replace hX := hX.keep hb; replace hR := hR.keep hb
  clear hb w3
  go_wp2_with fail
  with_reducible refine (S1.out _).mono ?_
  rintro e w5 ⟨rfl, hb⟩
  replace B := B.trans (hb.mono B.size)
  replace hX := hX.keep hb; replace hR := hR.keep hb
  clear hb w4
  have gX := hX.allocs
  go_wp2_with fail
  refine calls_world (fun W => Below w.heap.size w W ∧ Blank W br) ⟨B.alloc B.size _, hR.alloc _⟩ ?_
  clear B hX hR gX
  rintro W ⟨B, hR⟩
  with_reducible refine (E1.out _).mono ?_
  rintro e w6 ⟨rfl, hb⟩
  replace B := B.trans (hb.mono B.size)
  replace hR := hR.keep hb
  clear hb W
  have gR := hR.1.all4; have fR := hR.2.all4
  go_wp2
  simp [bodyPost, results, Tryz.results44, go_sem, gR]
  exact below_set4 B o3 _ _ _ _

end Go.Proofs.YtmcodflbngkdcaaGreatDoor

namespace Go.Proofs.YtmcodflbngkdcaaGreatDoor
open Go.RowKit Go.Sort

set_option maxHeartbeats 2000000 in
theorem cplus_any {x y : Int} (hx : Num x) (hy : Num y) (w : World) (hm : Mds w) :
    Calls Tryz.prog 61 #[.agg #[.int .u64 (l0 x), .int .u64 (l1 x), .int .u64 (l2 x), .int .u64 (l3 x)], .agg #[.int .u64 (l0 y), .int .u64 (l1 y), .int .u64 (l2 y), .int .u64 (l3 y)]] w fun e w' => e = .returned (.agg #[.int .u64 (l0 (modN pN (x + y))), .int .u64 (l1 (modN pN (x + y))), .int .u64 (l2 (modN pN (x + y))), .int .u64 (l3 (modN pN (x + y)))]) ∧ Below w.heap.size w w' := by
  have C : Hid (∀ w, Mds w → Calls Tryz.prog 92 #[.int .i64 0, .agg #[.int .u64 (l0 x), .int .u64 (l1 x), .int .u64 (l2 x), .int .u64 (l3 x)], .agg #[.int .u64 (l0 y), .int .u64 (l1 y), .int .u64 (l2 y), .int .u64 (l3 y)]] w fun e w' => e = .returned (.tuple #[.agg #[.int .u64 (l0 (modN pN (x + y))), .int .u64 (l1 (modN pN (x + y))), .int .u64 (l2 (modN pN (x + y))), .int .u64 (l3 (modN pN (x + y)))], .int .i64 0]) ∧ Below w.heap.size w w') := fun w hm => Add_good kind_p hx hy w hm
  generalize modN pN (x + y) = r at *
  clear hx hy
  go_enter Tryz.func61, Tryz.ntmps61
  go_wp2_with fail
  refine calls_world (fun W => Below w.heap.size w W ∧ Mds W ∧ Blank W (w.heap.size + 1 + 1)) ⟨by repeat (first | with_reducible exact Below.refl _ _ | with_reducible refine Below.alloc ?_ (by first | omega | (simp; done) | (simp; omega)) _), ((hm.alloc _).alloc _).alloc _, Blank.new (by simp)⟩ ?_
  rintro W ⟨B, hD, hR⟩
  have o3 : w.heap.size ≤ w.heap.size + 1 + 1 := by omega
  generalize w.heap.size + 1 + 1 = br at *
  with_reducible refine (C.out _ hD).mono ?_
  rintro e w1 ⟨rfl, hb⟩
  replace B := B.trans (hb.mono B.size)
  replace hR := hR.keep hb
  have lr := hR.1.lt (by simp)
  have nr : w1.heap.size ≠ br := by omega
  have nr' := nr.symm
  clear hb hD W lr
  have gR := fun o => (hR.alloc o).1.all4
  have fR := fun o => (hR.alloc o).2.all4
  have BB : Hid (∀ o, Below w.heap.size w (w1.alloc o)) := fun o => B.alloc B.size o
  clear B hR
  go_wp2
  simp [bodyPost, results, Tryz.results61, go_sem, *]
  repeat (first | with_reducible exact BB.out _ | with_reducible refine Below.drew ?_ | with_reducible refine Below.setCell ?_ (by with_reducible assumption) _)

set_option maxHeartbeats 2000000 in
theorem cminus_any {x y : Int} (hx : Num x) (hy : Num y) (w : World) (hm : Mds w) :
    Calls Tryz.prog 63 #[.agg #[.int .u64 (l0 x), .int .u64 (l1 x), .int .u64 (l2 x), .int .u64 (l3 x)], .agg #[.int .u64 (l0 y), .int .u64 (l1 y), .int .u64 (l2 y), .int .u64 (l3 y)]] w fun e w' => e = .returned (.agg #[.int .u64 (l0 (modN pN (x - y))), .int .u64 (l1 (modN pN (x - y))), .int .u64 (l2 (modN pN (x - y))), .int .u64 (l3 (modN pN (x - y)))]) ∧ Below w.heap.size w w' := by
  have C : Hid (∀ w, Mds w → Calls Tryz.prog 93 #[.int .i64 0, .agg #[.int .u64 (l0 x), .int .u64 (l1 x), .int .u64 (l2 x), .int .u64 (l3 x)], .agg #[.int .u64 (l0 y), .int .u64 (l1 y), .int .u64 (l2 y), .int .u64 (l3 y)]] w fun e w' => e = .returned (.tuple #[.agg #[.int .u64 (l0 (modN pN (x - y))), .int .u64 (l1 (modN pN (x - y))), .int .u64 (l2 (modN pN (x - y))), .int .u64 (l3 (modN pN (x - y)))], .int .i64 0]) ∧ Below w.heap.size w w') := fun w hm => Sub_good kind_p hx hy w hm
  generalize modN pN (x - y) = r at *
  clear hx hy
  go_enter Tryz.func63, Tryz.ntmps63
  go_wp2_with fail
  refine calls_world (fun W => Below w.heap.size w W ∧ Mds W ∧ Blank W (w.heap.size + 1 + 1)) ⟨by repeat (first | with_reducible exact Below.refl _ _ | with_reducible refine Below.alloc ?_ (by first | omega | (simp; done) | (simp; omega)) _), ((hm.alloc _).alloc _).alloc _, Blank.new (by simp)⟩ ?_
  rintro W ⟨B, hD, hR⟩
  have o3 : w.heap.size ≤ w.heap.size + 1 + 1 := by omega
  generalize w.heap.size + 1 + 1 = br at *
  with_reducible refine (C.out _ hD).mono ?_
  rintro e w1 ⟨rfl, hb⟩
  replace B := B.trans (hb.mono B.size)
  replace hR := hR.keep hb
  have lr := hR.1.lt (by simp)
  have nr : w1.heap.size ≠ br := by omega
  have nr' := nr.symm
  clear hb hD W lr
  have gR := fun o => (hR.alloc o).1.all4
  have fR := fun o => (hR.alloc o).2.all4
  have BB : Hid (∀ o, Below w.heap.size w (w1.alloc o)) := fun o => B.alloc B.size o
  clear B hR
  go_wp2
  simp [bodyPost, results, Tryz.results63, go_sem, *]
  repeat (first | with_reducible exact BB.out _ | with_reducible refine Below.drew ?_ | with_reducible refine Below.setCell ?_ (by with_reducible assumption) _)

set_option maxHeartbeats 2000000 in
theorem ctimes_any {x y : Int} (hx : Num x) (hy : Num y) (w : World) (hm : Mds w) :
    Calls Tryz.prog 41 #[.agg #[.int .u64 (l0 x), .int .u64 (l1 x), .int .u64 (l2 x), .int .u64 (l3 x)], .agg #[.int .u64 (l0 y), .int .u64 (l1 y), .int .u64 (l2 y), .int .u64 (l3 y)]] w fun e w' => e = .returned (.agg #[.int .u64 (l0 (modN pN (x * y))), .int .u64 (l1 (modN pN (x * y))), .int .u64 (l2 (modN pN (x * y))), .int .u64 (l3 (modN pN (x * y)))]) ∧ Below w.heap.size w w' := by
  have C : Hid (∀ w, Mds w → Calls Tryz.prog 69 #[.int .i64 0, .agg #[.int .u64 (l0 x), .int .u64 (l1 x), .int .u64 (l2 x), .int .u64 (l3 x)], .agg #[.int .u64 (l0 y), .int .u64 (l1 y), .int .u64 (l2 y), .int .u64 (l3 y)]] w fun e w' => e = .returned (.tuple #[.agg #[.int .u64 (l0 (modN pN (x * y))), .int .u64 (l1 (modN pN (x * y))), .int .u64 (l2 (modN pN (x * y))), .int .u64 (l3 (modN pN (x * y)))], .int .i64 0]) ∧ Below w.heap.size w w') := fun w hm => Mul_good kind_p hx hy w hm
  generalize modN pN (x * y) = r at *
  clear hx hy
  go_enter Tryz.func41, Tryz.ntmps41
  go_wp2_with fail
  refine calls_world (fun W => Below w.heap.size w W ∧ Mds W ∧ Blank W (w.heap.size + 1 + 1)) ⟨by repeat (first | with_reducible exact Below.refl _ _ | with_reducible refine Below.alloc ?_ (by first | omega | (simp; done) | (simp; omega)) _), ((hm.alloc _).alloc _).alloc _, Blank.new (by simp)⟩ ?_
  rintro W ⟨B, hD, hR⟩
  have o3 : w.heap.size ≤ w.heap.size + 1 + 1 := by omega
  generalize w.heap.size + 1 + 1 = br at *
  with_reducible refine (C.out _ hD).mono ?_
  rintro e w1 ⟨rfl, hb⟩
  replace B := B.trans (hb.mono B.size)
  replace hR := hR.keep hb
  have lr := hR.1.lt (by simp)
  have nr : w1.heap.size ≠ br := by omega
  have nr' := nr.symm
  clear hb hD W lr
  have gR := fun o => (hR.alloc o).1.all4
  have fR := fun o => (hR.alloc o).2.all4
  have BB : Hid (∀ o, Below w.heap.size w (w1.alloc o)) := fun o => B.alloc B.size o
  clear B hR
  go_wp2
  simp [bodyPost, results, Tryz.results41, go_sem, *]
  repeat (first | with_reducible exact BB.out _ | with_reducible refine Below.drew ?_ | with_reducible refine Below.setCell ?_ (by with_reducible assumption) _)

set_option maxHeartbeats 2000000 in
theorem csquare_any {x : Int} (hx : Num x) (w : World) (hm : Mds w) :
    Calls Tryz.prog 40 #[.agg #[.int .u64 (l0 x), .int .u64 (l1 x), .int .u64 (l2 x), .int .u64 (l3 x)]] w fun e w' => e = .returned (.agg #[.int .u64 (l0 (modN pN (x * x))), .int .u64 (l1 (modN pN (x * x))), .int .u64 (l2 (modN pN (x * x))), .int .u64 (l3 (modN pN (x * x)))]) ∧ Below w.heap.size w w' := by
  have C : Hid (∀ w, Mds w → Calls Tryz.prog 41 #[.agg #[.int .u64 (l0 x), .int .u64 (l1 x), .int .u64 (l2 x), .int .u64 (l3 x)], .agg #[.int .u64 (l0 x), .int .u64 (l1 x), .int .u64 (l2 x), .int .u64 (l3 x)]] w fun e w' => e = .returned (.agg #[.int .u64 (l0 (modN pN (x * x))), .int .u64 (l1 (modN pN (x * x))), .int .u64 (l2 (modN pN (x * x))), .int .u64 (l3 (modN pN (x * x)))]) ∧ Below w.heap.size w w') := fun w hm => ctimes_any hx hx w hm
  generalize modN pN (x * x) = r at *
  clear hx
  go_enter Tryz.func40, Tryz.ntmps40
  go_wp2_with fail
  refine calls_world (fun W => Below w.heap.size w W ∧ Mds W ∧ Blank W (w.heap.size + 1)) ⟨by repeat (first | with_reducible exact Below.refl _ _ | with_reducible refine Below.alloc ?_ (by first | omega | (simp; done) | (simp; omega)) _), (hm.alloc _).alloc _, Blank.new (by simp)⟩ ?_
  rintro W ⟨B, hD, hR⟩
  have o3 : w.heap.size ≤ w.heap.size + 1 := by omega
  generalize w.heap.size + 1 = br at *
  with_reducible refine (C.out _ hD).mono ?_
  rintro e w1 ⟨rfl, hb⟩
  replace B := B.trans (hb.mono B.size)
  replace hR := hR.keep hb
  clear hb hD W
  have gR := hR.1.all4; have fR := hR.2.all4
  go_wp2
  simp [bodyPost, results, Tryz.results40, go_sem, gR]
  exact below_set4 B o3 _ _ _ _

set_option maxHeartbeats 2000000 in
theorem ctwice_any {x : Int} (hx : Num x) (w : World) (hm : Mds w) :
    Calls Tryz.prog 62 #[.agg #[.int .u64 (l0 x), .int .u64 (l1 x), .int .u64 (l2 x), .int .u64 (l3 x)]] w fun e w' => e = .returned (.agg #[.int .u64 (l0 (modN pN (x + x))), .int .u64 (l1 (modN pN (x + x))), .int .u64 (l2 (modN pN (x + x))), .int .u64 (l3 (modN pN (x + x)))]) ∧ Below w.heap.size w w' := by
  have C : Hid (∀ w, Mds w → Calls Tryz.prog 61 #[.agg #[.int .u64 (l0 x), .int .u64 (l1 x), .int .u64 (l2 x), .int .u64 (l3 x)], .agg #[.int .u64 (l0 x), .int .u64 (l1 x), .int .u64 (l2 x), .int .u64 (l3 x)]] w fun e w' => e = .returned (.agg #[.int .u64 (l0 (modN pN (x + x))), .int .u64 (l1 (modN pN (x + x))), .int .u64 (l2 (modN pN (x + x))), .int .u64 (l3 (modN pN (x + x)))]) ∧ Below w.heap.size w w') := fun w hm => cplus_any hx hx w hm
  generalize modN pN (x + x) = r at *
  clear hx
  go_enter Tryz.func62, Tryz.ntmps62
  go_wp2_with fail
  refine calls_world (fun W => Below w.heap.size w W ∧ Mds W ∧ Blank W (w.heap.size + 1)) ⟨by repeat (first | with_reducible exact Below.refl _ _ | with_reducible refine Below.alloc ?_ (by first | omega | (simp; done) | (simp; omega)) _), (hm.alloc _).alloc _, Blank.new (by simp)⟩ ?_
  rintro W ⟨B, hD, hR⟩
  have o3 : w.heap.size ≤ w.heap.size + 1 := by omega
  generalize w.heap.size + 1 = br at *
  with_reducible refine (C.out _ hD).mono ?_
  rintro e w1 ⟨rfl, hb⟩
  replace B := B.trans (hb.mono B.size)
  replace hR := hR.keep hb
  clear hb hD W
  have gR := hR.1.all4; have fR := hR.2.all4
  go_wp2
  simp [bodyPost, results, Tryz.results62, go_sem, gR]
  exact below_set4 B o3 _ _ _ _

set_option maxHeartbeats 2000000 in
theorem cbelow_any {x : Int} (hx : Num x) (w : World) (hm : Mds w) :
    Calls Tryz.prog 86 #[.agg #[.int .u64 (l0 x), .int .u64 (l1 x), .int .u64 (l2 x), .int .u64 (l3 x)]] w fun e w' => e = .returned (.bool (decide (x < pN))) ∧ Below w.heap.size w w' := by
  have C := fun w => cmp_any hx fit_p.num w
  have hv : decide (cmpN x pN < 0) = decide (x < pN) := by
    unfold cmpN
    by_cases h' : x = pN
    · rw [h']; simp
    · by_cases h : x < pN <;> simp [h, h']
  have O : Hid (∀ w, Mds w → Calls Tryz.prog 85 #[.int .i64 0] w fun e w' => e = .returned (.tuple #[.agg #[.int .u64 (l0 pN), .int .u64 (l1 pN), .int .u64 (l2 pN), .int .u64 (l3 pN)], .int .i64 0]) ∧ Below w.heap.size w w') := fun w hm => Modulus_good kind_p w hm
  generalize decide (x < pN) = r at *
  generalize cmpN x pN = q at *
  generalize pN = p at *
  clear hx
  go_enter Tryz.func86, Tryz.ntmps86
  go_wp2_with fail
  refine calls_world (fun W => Below w.heap.size w W ∧ Mds W ∧ Hold W w.heap.size x) ⟨by repeat (first | with_reducible exact Below.refl _ _ | with_reducible refine Below.alloc ?_ (by first | omega | (simp; done) | (simp; omega)) _), hm.alloc _, Hold.fresh (by simp)⟩ ?_
  rintro W ⟨B, hD, hX⟩
  with_reducible refine (O.out _ hD).mono ?_
  rintro e w1 ⟨rfl, hb⟩
  replace B := B.trans (hb.mono B.size)
  replace hX := hX.keep hb
  clear hb hD W
  have gX := hX.allocs
  go_wp2_with fail
  refine calls_world (fun W => Below w.heap.size w W) (B.alloc B.size _) ?_
  clear B hX gX
  rintro W B
  with_reducible refine (C _).mono ?_
  rintro e w2 ⟨rfl, hb⟩
  replace B := B.trans (hb.mono B.size)
  clear hb W
  go_wp2
  simp [bodyPost, results, Tryz.results86, go_sem]
  exact B
end Go.Proofs.YtmcodflbngkdcaaGreatDoor

namespace Go.Proofs.YtmcodflbngkdcaaGreatDoor
open Go.RowKit Go.Sort

/-- Block b holds these values, from its first cell on. -/
def Cl (W : World) (b : Nat) (vs : List Value) : Prop := ∀ i, i < vs.length → W.cell? ⟨b, i, none⟩ = some (vs.getD i (.bool false))
theorem Cl.lt {W : World} {b : Nat} {l : List Value} (h : Cl W b l) (hl : 0 < l.length) : b < W.heap.size := World.block_lt_of_cell? W ⟨b, 0, none⟩ (h 0 hl)
theorem Cl.keep {W w1 : World} {b : Nat} {l : List Value} (h : Cl W b l) (hb : Below W.heap.size W w1) : Cl w1 b l := fun i hi => cell_keep hb (h i hi)
theorem Cl.alloc {W : World} {b : Nat} {l : List Value} (h : Cl W b l) (o : Obj) : Cl (W.alloc o) b l := h.keep ((Below.refl _ _).alloc (Nat.le_refl _) o)
theorem Cl.drew {W : World} {b : Nat} {l : List Value} (h : Cl W b l) : Cl W.drew b l := h
theorem Cl.set {W : World} {b b' i : Nat} {l : List Value} (h : Cl W b l) (ne : b' ≠ b) (v : Value) : Cl (W.setCell ⟨b', i, none⟩ v) b l := fun j hj => by
  rw [World.cell?_setCell_far _ _ _ _ (by exact ne)]; exact h j hj
theorem Cl.new {W : World} {b : Nat} {a : Array Value} {t : TypeId} (l : List Value) (e : b = W.heap.size) (ha : a = l.toArray) : Cl (W.alloc (.cells a t)) b l := by
  subst e; subst ha
  intro i hi
  rw [World.cell?_alloc_mark]
  simp [List.getD, List.getElem?_eq_getElem hi]

theorem cell_far {w : World} {b i b' i' : Nat} {u v : Value} (h : w.cell? ⟨b, i, none⟩ = some v) (ne : b' ≠ b) : (w.setCell ⟨b', i', none⟩ u).cell? ⟨b, i, none⟩ = some v := by
  rw [World.cell?_setCell_far _ _ _ _ ne]; exact h

/-- A point in a block. -/
def Pnt (W : World) (b : Nat) (x y : Int) (i : Bool) : Prop := Cl W b [.int .u64 (l0 x), .int .u64 (l1 x), .int .u64 (l2 x), .int .u64 (l3 x), .int .u64 (l0 y), .int .u64 (l1 y), .int .u64 (l2 y), .int .u64 (l3 y), .bool i]
theorem Pnt.lt {W : World} {b : Nat} {x y : Int} {i : Bool} (h : Pnt W b x y i) : b < W.heap.size := Cl.lt h (by simp)
theorem Pnt.keep {W w1 : World} {b : Nat} {x y : Int} {i : Bool} (h : Pnt W b x y i) (hb : Below W.heap.size W w1) : Pnt w1 b x y i := Cl.keep h hb
theorem Pnt.alloc {W : World} {b : Nat} {x y : Int} {i : Bool} (h : Pnt W b x y i) (o : Obj) : Pnt (W.alloc o) b x y i := Cl.alloc h o
theorem Pnt.drew {W : World} {b : Nat} {x y : Int} {i : Bool} (h : Pnt W b x y i) : Pnt W.drew b x y i := h
theorem Pnt.cells {W : World} {b : Nat} {x y : Int} {i : Bool} (h : Pnt W b x y i) :
    W.cell? ⟨b, 0, none⟩ = some (.int .u64 (l0 x)) ∧ W.cell? ⟨b, 1, none⟩ = some (.int .u64 (l1 x)) ∧ W.cell? ⟨b, 2, none⟩ = some (.int .u64 (l2 x)) ∧ W.cell? ⟨b, 3, none⟩ = some (.int .u64 (l3 x)) ∧ W.cell? ⟨b, 4, none⟩ = some (.int .u64 (l0 y)) ∧ W.cell? ⟨b, 5, none⟩ = some (.int .u64 (l1 y)) ∧ W.cell? ⟨b, 6, none⟩ = some (.int .u64 (l2 y)) ∧ W.cell? ⟨b, 7, none⟩ = some (.int .u64 (l3 y)) ∧ W.cell? ⟨b, 8, none⟩ = some (.bool i) := ⟨h 0 (by simp), h 1 (by simp), h 2 (by simp), h 3 (by simp), h 4 (by simp), h 5 (by simp), h 6 (by simp), h 7 (by simp), h 8 (by simp)⟩
theorem Pnt.new {W : World} {b : Nat} {t : TypeId} {x y : Int} {i : Bool} (e : b = W.heap.size) : Pnt (W.alloc (.cells #[.int .u64 (l0 x), .int .u64 (l1 x), .int .u64 (l2 x), .int .u64 (l3 x), .int .u64 (l0 y), .int .u64 (l1 y), .int .u64 (l2 y), .int .u64 (l3 y), .bool i] t)) b x y i := Cl.new _ e rfl
theorem Pnt.grown {W : World} {b : Nat} {x y : Int} {i : Bool} (h : Pnt W b x y i) : ∀ d os,
    (grow (redrawn W d) os).cell? ⟨b, 0, none⟩ = some (.int .u64 (l0 x)) ∧ (grow (redrawn W d) os).cell? ⟨b, 1, none⟩ = some (.int .u64 (l1 x)) ∧ (grow (redrawn W d) os).cell? ⟨b, 2, none⟩ = some (.int .u64 (l2 x)) ∧ (grow (redrawn W d) os).cell? ⟨b, 3, none⟩ = some (.int .u64 (l3 x)) ∧ (grow (redrawn W d) os).cell? ⟨b, 4, none⟩ = some (.int .u64 (l0 y)) ∧ (grow (redrawn W d) os).cell? ⟨b, 5, none⟩ = some (.int .u64 (l1 y)) ∧ (grow (redrawn W d) os).cell? ⟨b, 6, none⟩ = some (.int .u64 (l2 y)) ∧ (grow (redrawn W d) os).cell? ⟨b, 7, none⟩ = some (.int .u64 (l3 y)) ∧ (grow (redrawn W d) os).cell? ⟨b, 8, none⟩ = some (.bool i) := fun d os => (h.keep (below_regrown W d os)).cells

/-- Three numbers in a block. -/
def Thr (W : World) (b : Nat) (x y z : Int) : Prop := Cl W b [.int .u64 (l0 x), .int .u64 (l1 x), .int .u64 (l2 x), .int .u64 (l3 x), .int .u64 (l0 y), .int .u64 (l1 y), .int .u64 (l2 y), .int .u64 (l3 y), .int .u64 (l0 z), .int .u64 (l1 z), .int .u64 (l2 z), .int .u64 (l3 z)]
theorem Thr.lt {W : World} {b : Nat} {x y z : Int} (h : Thr W b x y z) : b < W.heap.size := Cl.lt h (by simp)
theorem Thr.keep {W w1 : World} {b : Nat} {x y z : Int} (h : Thr W b x y z) (hb : Below W.heap.size W w1) : Thr w1 b x y z := Cl.keep h hb
theorem Thr.alloc {W : World} {b : Nat} {x y z : Int} (h : Thr W b x y z) (o : Obj) : Thr (W.alloc o) b x y z := Cl.alloc h o
theorem Thr.drew {W : World} {b : Nat} {x y z : Int} (h : Thr W b x y z) : Thr W.drew b x y z := h
theorem Thr.cells {W : World} {b : Nat} {x y z : Int} (h : Thr W b x y z) :
    W.cell? ⟨b, 0, none⟩ = some (.int .u64 (l0 x)) ∧ W.cell? ⟨b, 1, none⟩ = some (.int .u64 (l1 x)) ∧ W.cell? ⟨b, 2, none⟩ = some (.int .u64 (l2 x)) ∧ W.cell? ⟨b, 3, none⟩ = some (.int .u64 (l3 x)) ∧ W.cell? ⟨b, 4, none⟩ = some (.int .u64 (l0 y)) ∧ W.cell? ⟨b, 5, none⟩ = some (.int .u64 (l1 y)) ∧ W.cell? ⟨b, 6, none⟩ = some (.int .u64 (l2 y)) ∧ W.cell? ⟨b, 7, none⟩ = some (.int .u64 (l3 y)) ∧ W.cell? ⟨b, 8, none⟩ = some (.int .u64 (l0 z)) ∧ W.cell? ⟨b, 9, none⟩ = some (.int .u64 (l1 z)) ∧ W.cell? ⟨b, 10, none⟩ = some (.int .u64 (l2 z)) ∧ W.cell? ⟨b, 11, none⟩ = some (.int .u64 (l3 z)) := ⟨h 0 (by simp), h 1 (by simp), h 2 (by simp), h 3 (by simp), h 4 (by simp), h 5 (by simp), h 6 (by simp), h 7 (by simp), h 8 (by simp), h 9 (by simp), h 10 (by simp), h 11 (by simp)⟩
theorem Thr.new {W : World} {b : Nat} {t : TypeId} {x y z : Int} (e : b = W.heap.size) : Thr (W.alloc (.cells #[.int .u64 (l0 x), .int .u64 (l1 x), .int .u64 (l2 x), .int .u64 (l3 x), .int .u64 (l0 y), .int .u64 (l1 y), .int .u64 (l2 y), .int .u64 (l3 y), .int .u64 (l0 z), .int .u64 (l1 z), .int .u64 (l2 z), .int .u64 (l3 z)] t)) b x y z := Cl.new _ e rfl
theorem Thr.grown {W : World} {b : Nat} {x y z : Int} (h : Thr W b x y z) : ∀ d os,
    (grow (redrawn W d) os).cell? ⟨b, 0, none⟩ = some (.int .u64 (l0 x)) ∧ (grow (redrawn W d) os).cell? ⟨b, 1, none⟩ = some (.int .u64 (l1 x)) ∧ (grow (redrawn W d) os).cell? ⟨b, 2, none⟩ = some (.int .u64 (l2 x)) ∧ (grow (redrawn W d) os).cell? ⟨b, 3, none⟩ = some (.int .u64 (l3 x)) ∧ (grow (redrawn W d) os).cell? ⟨b, 4, none⟩ = some (.int .u64 (l0 y)) ∧ (grow (redrawn W d) os).cell? ⟨b, 5, none⟩ = some (.int .u64 (l1 y)) ∧ (grow (redrawn W d) os).cell? ⟨b, 6, none⟩ = some (.int .u64 (l2 y)) ∧ (grow (redrawn W d) os).cell? ⟨b, 7, none⟩ = some (.int .u64 (l3 y)) ∧ (grow (redrawn W d) os).cell? ⟨b, 8, none⟩ = some (.int .u64 (l0 z)) ∧ (grow (redrawn W d) os).cell? ⟨b, 9, none⟩ = some (.int .u64 (l1 z)) ∧ (grow (redrawn W d) os).cell? ⟨b, 10, none⟩ = some (.int .u64 (l2 z)) ∧ (grow (redrawn W d) os).cell? ⟨b, 11, none⟩ = some (.int .u64 (l3 z)) := fun d os => (h.keep (below_regrown W d os)).cells
theorem Pnt.set4 {W : World} {b b' : Nat} {x y : Int} {i : Bool} (h : Pnt W b x y i) (ne : b' ≠ b) (v0 v1 v2 v3 : Value) : Pnt ((((W.setCell ⟨b', 0, none⟩ v0).setCell ⟨b', 1, none⟩ v1).setCell ⟨b', 2, none⟩ v2).setCell ⟨b', 3, none⟩ v3) b x y i :=
  Cl.set (Cl.set (Cl.set (Cl.set h ne v0) ne v1) ne v2) ne v3
theorem Thr.set4 {W : World} {b b' : Nat} {x y z : Int} (h : Thr W b x y z) (ne : b' ≠ b) (v0 v1 v2 v3 : Value) : Thr ((((W.setCell ⟨b', 0, none⟩ v0).setCell ⟨b', 1, none⟩ v1).setCell ⟨b', 2, none⟩ v2).setCell ⟨b', 3, none⟩ v3) b x y z :=
  Cl.set (Cl.set (Cl.set (Cl.set h ne v0) ne v1) ne v2) ne v3

/-- A block of 9 cells as it is laid, that may be written. -/
def Bk9 (W : World) (b : Nat) : Prop := Cl W b [.int .u64 0, .int .u64 0, .int .u64 0, .int .u64 0, .int .u64 0, .int .u64 0, .int .u64 0, .int .u64 0, .bool false] ∧ Loose W b 9
theorem Bk9.lt {W : World} {b : Nat} (h : Bk9 W b) : b < W.heap.size := Cl.lt h.1 (by simp)
theorem Bk9.keep {W w1 : World} {b : Nat} (h : Bk9 W b) (hb : Below W.heap.size W w1) : Bk9 w1 b := ⟨h.1.keep hb, h.2.keep hb h.lt⟩
theorem Bk9.alloc {W : World} {b : Nat} (h : Bk9 W b) (o : Obj) : Bk9 (W.alloc o) b := h.keep ((Below.refl _ _).alloc (Nat.le_refl _) o)
theorem Bk9.drew {W : World} {b : Nat} (h : Bk9 W b) : Bk9 W.drew b := h
theorem Bk9.set4 {W : World} {b b' : Nat} (h : Bk9 W b) (ne : b' ≠ b) (v0 v1 v2 v3 : Value) : Bk9 ((((W.setCell ⟨b', 0, none⟩ v0).setCell ⟨b', 1, none⟩ v1).setCell ⟨b', 2, none⟩ v2).setCell ⟨b', 3, none⟩ v3) b :=
  ⟨Cl.set (Cl.set (Cl.set (Cl.set h.1 ne v0) ne v1) ne v2) ne v3, (((h.2.set _ _).set _ _).set _ _).set _ _⟩
theorem Bk9.cells {W : World} {b : Nat} (h : Bk9 W b) : W.cell? ⟨b, 0, none⟩ = some (.int .u64 0) ∧ W.cell? ⟨b, 1, none⟩ = some (.int .u64 0) ∧ W.cell? ⟨b, 2, none⟩ = some (.int .u64 0) ∧ W.cell? ⟨b, 3, none⟩ = some (.int .u64 0) ∧ W.cell? ⟨b, 4, none⟩ = some (.int .u64 0) ∧ W.cell? ⟨b, 5, none⟩ = some (.int .u64 0) ∧ W.cell? ⟨b, 6, none⟩ = some (.int .u64 0) ∧ W.cell? ⟨b, 7, none⟩ = some (.int .u64 0) ∧ W.cell? ⟨b, 8, none⟩ = some (.bool false) := ⟨h.1 0 (by simp), h.1 1 (by simp), h.1 2 (by simp), h.1 3 (by simp), h.1 4 (by simp), h.1 5 (by simp), h.1 6 (by simp), h.1 7 (by simp), h.1 8 (by simp)⟩
theorem Bk9.free {W : World} {b : Nat} (h : Bk9 W b) : W.frozen? ⟨b, 0, none⟩ = false ∧ W.frozen? ⟨b, 1, none⟩ = false ∧ W.frozen? ⟨b, 2, none⟩ = false ∧ W.frozen? ⟨b, 3, none⟩ = false ∧ W.frozen? ⟨b, 4, none⟩ = false ∧ W.frozen? ⟨b, 5, none⟩ = false ∧ W.frozen? ⟨b, 6, none⟩ = false ∧ W.frozen? ⟨b, 7, none⟩ = false ∧ W.frozen? ⟨b, 8, none⟩ = false := ⟨h.2 0 (by decide), h.2 1 (by decide), h.2 2 (by decide), h.2 3 (by decide), h.2 4 (by decide), h.2 5 (by decide), h.2 6 (by decide), h.2 7 (by decide), h.2 8 (by decide)⟩
theorem Bk9.new {W : World} {b : Nat} {t : TypeId} (e : b = W.heap.size) : Bk9 (W.alloc (.cells #[.int .u64 0, .int .u64 0, .int .u64 0, .int .u64 0, .int .u64 0, .int .u64 0, .int .u64 0, .int .u64 0, .bool false] t)) b := ⟨Cl.new _ e rfl, by subst e; exact Loose.new _ _ _ _⟩

/-- A block of 12 cells as it is laid, that may be written. -/
def Bk12 (W : World) (b : Nat) : Prop := Cl W b [.int .u64 0, .int .u64 0, .int .u64 0, .int .u64 0, .int .u64 0, .int .u64 0, .int .u64 0, .int .u64 0, .int .u64 0, .int .u64 0, .int .u64 0, .int .u64 0] ∧ Loose W b 12
theorem Bk12.lt {W : World} {b : Nat} (h : Bk12 W b) : b < W.heap.size := Cl.lt h.1 (by simp)
theorem Bk12.keep {W w1 : World} {b : Nat} (h : Bk12 W b) (hb : Below W.heap.size W w1) : Bk12 w1 b := ⟨h.1.keep hb, h.2.keep hb h.lt⟩
theorem Bk12.alloc {W : World} {b : Nat} (h : Bk12 W b) (o : Obj) : Bk12 (W.alloc o) b := h.keep ((Below.refl _ _).alloc (Nat.le_refl _) o)
theorem Bk12.drew {W : World} {b : Nat} (h : Bk12 W b) : Bk12 W.drew b := h
theorem Bk12.set4 {W : World} {b b' : Nat} (h : Bk12 W b) (ne : b' ≠ b) (v0 v1 v2 v3 : Value) : Bk12 ((((W.setCell ⟨b', 0, none⟩ v0).setCell ⟨b', 1, none⟩ v1).setCell ⟨b', 2, none⟩ v2).setCell ⟨b', 3, none⟩ v3) b :=
  ⟨Cl.set (Cl.set (Cl.set (Cl.set h.1 ne v0) ne v1) ne v2) ne v3, (((h.2.set _ _).set _ _).set _ _).set _ _⟩
theorem Bk12.cells {W : World} {b : Nat} (h : Bk12 W b) : W.cell? ⟨b, 0, none⟩ = some (.int .u64 0) ∧ W.cell? ⟨b, 1, none⟩ = some (.int .u64 0) ∧ W.cell? ⟨b, 2, none⟩ = some (.int .u64 0) ∧ W.cell? ⟨b, 3, none⟩ = some (.int .u64 0) ∧ W.cell? ⟨b, 4, none⟩ = some (.int .u64 0) ∧ W.cell? ⟨b, 5, none⟩ = some (.int .u64 0) ∧ W.cell? ⟨b, 6, none⟩ = some (.int .u64 0) ∧ W.cell? ⟨b, 7, none⟩ = some (.int .u64 0) ∧ W.cell? ⟨b, 8, none⟩ = some (.int .u64 0) ∧ W.cell? ⟨b, 9, none⟩ = some (.int .u64 0) ∧ W.cell? ⟨b, 10, none⟩ = some (.int .u64 0) ∧ W.cell? ⟨b, 11, none⟩ = some (.int .u64 0) := ⟨h.1 0 (by simp), h.1 1 (by simp), h.1 2 (by simp), h.1 3 (by simp), h.1 4 (by simp), h.1 5 (by simp), h.1 6 (by simp), h.1 7 (by simp), h.1 8 (by simp), h.1 9 (by simp), h.1 10 (by simp), h.1 11 (by simp)⟩
theorem Bk12.free {W : World} {b : Nat} (h : Bk12 W b) : W.frozen? ⟨b, 0, none⟩ = false ∧ W.frozen? ⟨b, 1, none⟩ = false ∧ W.frozen? ⟨b, 2, none⟩ = false ∧ W.frozen? ⟨b, 3, none⟩ = false ∧ W.frozen? ⟨b, 4, none⟩ = false ∧ W.frozen? ⟨b, 5, none⟩ = false ∧ W.frozen? ⟨b, 6, none⟩ = false ∧ W.frozen? ⟨b, 7, none⟩ = false ∧ W.frozen? ⟨b, 8, none⟩ = false ∧ W.frozen? ⟨b, 9, none⟩ = false ∧ W.frozen? ⟨b, 10, none⟩ = false ∧ W.frozen? ⟨b, 11, none⟩ = false := ⟨h.2 0 (by decide), h.2 1 (by decide), h.2 2 (by decide), h.2 3 (by decide), h.2 4 (by decide), h.2 5 (by decide), h.2 6 (by decide), h.2 7 (by decide), h.2 8 (by decide), h.2 9 (by decide), h.2 10 (by decide), h.2 11 (by decide)⟩
theorem Bk12.new {W : World} {b : Nat} {t : TypeId} (e : b = W.heap.size) : Bk12 (W.alloc (.cells #[.int .u64 0, .int .u64 0, .int .u64 0, .int .u64 0, .int .u64 0, .int .u64 0, .int .u64 0, .int .u64 0, .int .u64 0, .int .u64 0, .int .u64 0, .int .u64 0] t)) b := ⟨Cl.new _ e rfl, by subst e; exact Loose.new _ _ _ _⟩

end Go.Proofs.YtmcodflbngkdcaaGreatDoor

namespace Go.Proofs.YtmcodflbngkdcaaGreatDoor
open Go.RowKit Go.Sort

set_option maxHeartbeats 2000000 in
theorem cisid_any {x y z : Int} (hz : Num z) (w : World) :
    Calls Tryz.prog 38 #[.agg #[.int .u64 (l0 x), .int .u64 (l1 x), .int .u64 (l2 x), .int .u64 (l3 x), .int .u64 (l0 y), .int .u64 (l1 y), .int .u64 (l2 y), .int .u64 (l3 y), .int .u64 (l0 z), .int .u64 (l1 z), .int .u64 (l2 z), .int .u64 (l3 z)]] w fun e w' => e = .returned (.bool (decide (z = 0))) ∧ Below w.heap.size w w' := by
  have he : ∀ w, (Op.equalIn 10000 24 (.agg #[.int .u64 (l0 z), .int .u64 (l1 z), .int .u64 (l2 z), .int .u64 (l3 z)]) (.agg #[.int .u64 0, .int .u64 0, .int .u64 0, .int .u64 0])).run Tryz.prog w = .ok (decide (z = 0)) w := fun w => by
    have := eq_num hz (m := 0) ⟨by decide, by decide⟩ w
    obtain ⟨z0, z1, z2, z3⟩ := zero_limbs
    rw [z0, z1, z2, z3] at this
    exact this
  have bz := build_zero
  go_enter Tryz.func38, Tryz.ntmps38
  go_wp2
  simp [bodyPost, results, Tryz.results38, go_sem]
  repeat (first | with_reducible exact Below.refl _ _ | with_reducible refine Below.alloc ?_ (by first | omega | (simp; done) | (simp; omega)) _)

set_option maxHeartbeats 2000000 in
theorem cwiden_id {x y : Int} (w : World) :
    Calls Tryz.prog 36 #[.agg #[.int .u64 (l0 x), .int .u64 (l1 x), .int .u64 (l2 x), .int .u64 (l3 x), .int .u64 (l0 y), .int .u64 (l1 y), .int .u64 (l2 y), .int .u64 (l3 y), .bool true]] w fun e w' => e = .returned (.agg #[.int .u64 (l0 0), .int .u64 (l1 0), .int .u64 (l2 0), .int .u64 (l3 0), .int .u64 (l0 0), .int .u64 (l1 0), .int .u64 (l2 0), .int .u64 (l3 0), .int .u64 (l0 0), .int .u64 (l1 0), .int .u64 (l2 0), .int .u64 (l3 0)]) ∧ Below w.heap.size w w' := by
  obtain ⟨z0, z1, z2, z3⟩ := zero_limbs
  rw [z0, z1, z2, z3]
  go_enter Tryz.func36, Tryz.ntmps36
  go_wp2
  simp [bodyPost, results, Tryz.results36, go_sem]
  repeat (first | with_reducible refine Below.setCell ?_ (by omega) _ | (first | with_reducible exact Below.refl _ _ | with_reducible refine Below.alloc ?_ (by first | omega | (simp; done) | (simp; omega)) _))

set_option maxHeartbeats 2000000 in
theorem cwiden_pt {x y : Int} (w : World) :
    Calls Tryz.prog 36 #[.agg #[.int .u64 (l0 x), .int .u64 (l1 x), .int .u64 (l2 x), .int .u64 (l3 x), .int .u64 (l0 y), .int .u64 (l1 y), .int .u64 (l2 y), .int .u64 (l3 y), .bool false]] w fun e w' => e = .returned (.agg #[.int .u64 (l0 x), .int .u64 (l1 x), .int .u64 (l2 x), .int .u64 (l3 x), .int .u64 (l0 y), .int .u64 (l1 y), .int .u64 (l2 y), .int .u64 (l3 y), .int .u64 (l0 1), .int .u64 (l1 1), .int .u64 (l2 1), .int .u64 (l3 1)]) ∧ Below w.heap.size w w' := by
  have C : Hid (∀ w, Calls Tryz.prog 65 #[.int .u64 1] w fun e w' => e = .returned (.agg #[.int .u64 (l0 1), .int .u64 (l1 1), .int .u64 (l2 1), .int .u64 (l3 1)]) ∧ Below w.heap.size w w') := fun w => from_any ⟨by decide, by decide⟩ w
  go_enter Tryz.func36, Tryz.ntmps36
  go_wp2_with fail
  refine wp_world (fun W => Below w.heap.size w W ∧ Pnt W w.heap.size x y false ∧ Bk12 W (w.heap.size + 1)) ⟨by repeat (first | with_reducible exact Below.refl _ _ | with_reducible refine Below.alloc ?_ (by first | omega | (simp; done) | (simp; omega)) _), (Pnt.new rfl).alloc _, Bk12.new (by simp)⟩ ?_
  rintro W ⟨B, hP, hR⟩
  have o3 : w.heap.size ≤ w.heap.size + 1 := by omega
  generalize w.heap.size + 1 = br at *
  have ghP := hP.grown
  refine below_tail 6 (by kernel_rfl) (by kernel_rfl) ?_
  simp only [List.take_succ_cons, List.take_zero, List.drop_succ_cons, List.drop_zero]
  repeat
    first
      | go_big_quiet_skip
      | (go_big_quiet_want; go_big_quiet_op; go_big_quiet_on)
      | (go_big_quiet_want
         go_big_quiet_op
         apply Exists.intro
         refine ⟨fun p => ?_, ?_⟩
         · (first | (go_at_call 65; with_reducible exact Calls.regrown_of (C.out _)))
         go_big_quiet_on)
  refine wpQuiet_nil ?_
  rintro w1 ⟨p, rfl⟩
  have hb := below_regrown W p.d p.os
  generalize grow (redrawn W p.d) p.os = w1 at *
  replace B := B.trans (hb.mono B.size)
  replace hP := hP.keep hb; replace hR := hR.keep hb
  clear hb W ghP 
  have gR := hR.cells; have fR := hR.free
  go_wp2
  simp [bodyPost, results, Tryz.results36, go_sem, gR]
  repeat (first | with_reducible exact B | with_reducible refine Below.setCell ?_ o3 _)

set_option maxHeartbeats 2000000 in
theorem cpoint_o {x y : Int} (w : World) :
    Calls Tryz.prog 18 #[.agg #[.int .u64 (l0 x), .int .u64 (l1 x), .int .u64 (l2 x), .int .u64 (l3 x), .int .u64 (l0 y), .int .u64 (l1 y), .int .u64 (l2 y), .int .u64 (l3 y), .int .u64 (l0 0), .int .u64 (l1 0), .int .u64 (l2 0), .int .u64 (l3 0)]] w fun e w' => e = .returned (.agg #[.int .u64 (l0 0), .int .u64 (l1 0), .int .u64 (l2 0), .int .u64 (l3 0), .int .u64 (l0 0), .int .u64 (l1 0), .int .u64 (l2 0), .int .u64 (l3 0), .bool true]) ∧ Below w.heap.size w w' := by
  obtain ⟨z0, z1, z2, z3⟩ := zero_limbs
  have C : Hid (∀ w, Calls Tryz.prog 38 #[.agg #[.int .u64 (l0 x), .int .u64 (l1 x), .int .u64 (l2 x), .int .u64 (l3 x), .int .u64 (l0 y), .int .u64 (l1 y), .int .u64 (l2 y), .int .u64 (l3 y), .int .u64 0, .int .u64 0, .int .u64 0, .int .u64 0]] w fun e w' => e = .returned (.bool true) ∧ Below w.heap.size w w') := fun w => by
    have := cisid_any (x := x) (y := y) (z := 0) ⟨by decide, by decide⟩ w
    rw [z0, z1, z2, z3] at this
    exact this
  rw [z0, z1, z2, z3]
  go_enter Tryz.func18, Tryz.ntmps18
  go_wp2_with fail
  refine calls_world (fun W => Below w.heap.size w W ∧ Bk9 W (w.heap.size + 1)) ⟨by repeat (first | with_reducible exact Below.refl _ _ | with_reducible refine Below.alloc ?_ (by first | omega | (simp; done) | (simp; omega)) _), Bk9.new (by simp)⟩ ?_
  rintro W ⟨B, hR⟩
  have o3 : w.heap.size ≤ w.heap.size + 1 := by omega
  generalize w.heap.size + 1 = br at *
  with_reducible refine (C.out _).mono ?_
  rintro e w1 ⟨rfl, hb⟩
  replace B := B.trans (hb.mono B.size)
  replace hR := hR.keep hb
  clear hb W
  have gR := hR.cells; have fR := hR.free
  go_wp2
  simp [bodyPost, results, Tryz.results18, go_sem, gR]
  repeat (first | with_reducible exact B | with_reducible refine Below.setCell ?_ o3 _)

set_option maxRecDepth 100000 in
set_option maxHeartbeats 4000000 in
theorem cpoint_walk {x y z v s a b r : Int} (C0 : Hid (∀ w, Calls Tryz.prog 38 #[.agg #[.int .u64 (l0 x), .int .u64 (l1 x), .int .u64 (l2 x), .int .u64 (l3 x), .int .u64 (l0 y), .int .u64 (l1 y), .int .u64 (l2 y), .int .u64 (l3 y), .int .u64 (l0 z), .int .u64 (l1 z), .int .u64 (l2 z), .int .u64 (l3 z)]] w fun e w' => e = .returned (.bool false) ∧ Below w.heap.size w w'))
    (C1 : Hid (∀ w, Mds w → Calls Tryz.prog 39 #[.int .i64 0, .agg #[.int .u64 (l0 z), .int .u64 (l1 z), .int .u64 (l2 z), .int .u64 (l3 z)]] w fun e w' => e = .returned (.tuple #[.agg #[.int .u64 (l0 v), .int .u64 (l1 v), .int .u64 (l2 v), .int .u64 (l3 v)], .int .i64 0]) ∧ Below w.heap.size w w')) (C2 : Hid (∀ w, Mds w → Calls Tryz.prog 40 #[.agg #[.int .u64 (l0 v), .int .u64 (l1 v), .int .u64 (l2 v), .int .u64 (l3 v)]] w fun e w' => e = .returned (.agg #[.int .u64 (l0 s), .int .u64 (l1 s), .int .u64 (l2 s), .int .u64 (l3 s)]) ∧ Below w.heap.size w w'))
    (C3 : Hid (∀ w, Mds w → Calls Tryz.prog 41 #[.agg #[.int .u64 (l0 x), .int .u64 (l1 x), .int .u64 (l2 x), .int .u64 (l3 x)], .agg #[.int .u64 (l0 s), .int .u64 (l1 s), .int .u64 (l2 s), .int .u64 (l3 s)]] w fun e w' => e = .returned (.agg #[.int .u64 (l0 a), .int .u64 (l1 a), .int .u64 (l2 a), .int .u64 (l3 a)]) ∧ Below w.heap.size w w')) (C4 : Hid (∀ w, Mds w → Calls Tryz.prog 41 #[.agg #[.int .u64 (l0 s), .int .u64 (l1 s), .int .u64 (l2 s), .int .u64 (l3 s)], .agg #[.int .u64 (l0 v), .int .u64 (l1 v), .int .u64 (l2 v), .int .u64 (l3 v)]] w fun e w' => e = .returned (.agg #[.int .u64 (l0 b), .int .u64 (l1 b), .int .u64 (l2 b), .int .u64 (l3 b)]) ∧ Below w.heap.size w w')) (C5 : Hid (∀ w, Mds w → Calls Tryz.prog 41 #[.agg #[.int .u64 (l0 y), .int .u64 (l1 y), .int .u64 (l2 y), .int .u64 (l3 y)], .agg #[.int .u64 (l0 b), .int .u64 (l1 b), .int .u64 (l2 b), .int .u64 (l3 b)]] w fun e w' => e = .returned (.agg #[.int .u64 (l0 r), .int .u64 (l1 r), .int .u64 (l2 r), .int .u64 (l3 r)]) ∧ Below w.heap.size w w')) (w : World) (hm : Mds w) :
    Calls Tryz.prog 18 #[.agg #[.int .u64 (l0 x), .int .u64 (l1 x), .int .u64 (l2 x), .int .u64 (l3 x), .int .u64 (l0 y), .int .u64 (l1 y), .int .u64 (l2 y), .int .u64 (l3 y), .int .u64 (l0 z), .int .u64 (l1 z), .int .u64 (l2 z), .int .u64 (l3 z)]] w fun e w' => e = .returned (.agg #[.int .u64 (l0 a), .int .u64 (l1 a), .int .u64 (l2 a), .int .u64 (l3 a), .int .u64 (l0 r), .int .u64 (l1 r), .int .u64 (l2 r), .int .u64 (l3 r), .bool false]) ∧ Below w.heap.size w w' := by
  go_enter Tryz.func18, Tryz.ntmps18
  go_wp2_with fail
  refine calls_world (fun W => Below w.heap.size w W ∧ Mds W ∧ Thr W w.heap.size x y z ∧ Bk9 W (w.heap.size + 1)) ⟨by repeat (first | with_reducible exact Below.refl _ _ | with_reducible refine Below.alloc ?_ (by first | omega | (simp; done) | (simp; omega)) _), (hm.alloc _).alloc _, (Thr.new rfl).alloc _, Bk9.new (by simp)⟩ ?_
  rintro W ⟨B, hD, hT, hR⟩
  have o3 : w.heap.size ≤ w.heap.size + 1 := by omega
  generalize w.heap.size + 1 = br at *
  with_reducible refine (C0.out _).mono ?_
  rintro e w1 ⟨rfl, hb⟩
  replace B := B.trans (hb.mono B.size)
  replace hD := hD.keep hb; replace hT := hT.keep hb; replace hR := hR.keep hb
  clear hb W
  have ghT := hT.cells
  go_wp2_with fail
  refine calls_world (fun W => Below w.heap.size w W ∧ Mds W ∧ Thr W w.heap.size x y z ∧ Bk9 W br) ⟨B, hD, hT, hR⟩ ?_
  clear B hD hT hR ghT
  rintro W ⟨B, hD, hT, hR⟩
  with_reducible refine (C1.out _ hD).mono ?_
  rintro e w2 ⟨rfl, hb⟩
  replace B := B.trans (hb.mono B.size)
  replace hD := hD.keep hb; replace hT := hT.keep hb; replace hR := hR.keep hb
  clear hb W
  go_wp2_with fail
  refine calls_world (fun W => Below w.heap.size w W ∧ Mds W ∧ Thr W w.heap.size x y z ∧ Bk9 W br ∧ Hold W w2.heap.size v) ⟨B.alloc B.size _, hD.alloc _, hT.alloc _, hR.alloc _, Hold.new _ _ _⟩ ?_
  clear B hD hT hR 
  rintro W ⟨B, hD, hT, hR, hV⟩
  generalize w2.heap.size = bv at *
  with_reducible refine (C2.out _ hD).mono ?_
  rintro e w3 ⟨rfl, hb⟩
  replace B := B.trans (hb.mono B.size)
  replace hD := hD.keep hb; replace hT := hT.keep hb; replace hR := hR.keep hb; replace hV := hV.keep hb
  clear hb W
  go_wp2_with fail
  refine wp_world (fun W => Below w.heap.size w W ∧ Mds W ∧ Thr W w.heap.size x y z ∧ Bk9 W br ∧ Hold W bv v ∧ Hold W w3.heap.size s) ⟨B.alloc B.size _, hD.alloc _, hT.alloc _, hR.alloc _, hV.alloc _, Hold.new _ _ _⟩ ?_
  clear B hD hT hR hV 
  rintro W ⟨B, hD, hT, hR, hV, hS⟩
  generalize w3.heap.size = bs at *
  have ghT := hT.grown
  have ghV := hV.grown
  have ghS := hS.grown
  have hDg : ∀ d os, Mds (grow (redrawn W d) os) := fun d os => hD.keep (below_regrown W d os)
  refine below_tail 11 (by kernel_rfl) (by kernel_rfl) ?_
  simp only [List.take_succ_cons, List.take_zero, List.drop_succ_cons, List.drop_zero]
  repeat
    first
      | go_big_quiet_skip
      | (go_big_quiet_want; go_big_quiet_op; go_big_quiet_on)
      | (go_big_quiet_want
         go_big_quiet_op
         apply Exists.intro
         refine ⟨fun p => ?_, ?_⟩
         · (first | (go_at_call 41; with_reducible exact Calls.regrown_of (C3.out _ (hDg p.d p.os))) | (go_at_call 41; with_reducible exact Calls.regrown_of (C4.out _ (hDg p.d p.os))) | (go_at_call 41; with_reducible exact Calls.regrown_of (C5.out _ (hDg p.d p.os))))
         go_big_quiet_on)
  refine wpQuiet_nil ?_
  rintro w4 ⟨p, rfl⟩
  have hb := below_regrown W p.d p.os
  generalize grow (redrawn W p.d) p.os = w4 at *
  replace B := B.trans (hb.mono B.size)
  replace hD := hD.keep hb; replace hT := hT.keep hb; replace hR := hR.keep hb; replace hV := hV.keep hb; replace hS := hS.keep hb
  clear hb W ghT ghV ghS hDg
  have gR := hR.cells; have fR := hR.free
  go_wp2
  simp [bodyPost, results, Tryz.results18, go_sem, gR]
  repeat (first | with_reducible exact B | with_reducible refine Below.setCell ?_ o3 _)

set_option maxHeartbeats 2000000 in
theorem csamex_no {x y z k : Int} (hk : Num k) (h0 : k ≠ 0) (w : World) :
    Calls Tryz.prog 64 #[.agg #[.int .u64 (l0 x), .int .u64 (l1 x), .int .u64 (l2 x), .int .u64 (l3 x), .int .u64 (l0 y), .int .u64 (l1 y), .int .u64 (l2 y), .int .u64 (l3 y), .int .u64 (l0 z), .int .u64 (l1 z), .int .u64 (l2 z), .int .u64 (l3 z)], .agg #[.int .u64 (l0 k), .int .u64 (l1 k), .int .u64 (l2 k), .int .u64 (l3 k)]] w fun e w' => e = .returned (.agg #[.int .u64 (l0 0), .int .u64 (l1 0), .int .u64 (l2 0), .int .u64 (l3 0), .int .u64 (l0 0), .int .u64 (l1 0), .int .u64 (l2 0), .int .u64 (l3 0), .int .u64 (l0 0), .int .u64 (l1 0), .int .u64 (l2 0), .int .u64 (l3 0)]) ∧ Below w.heap.size w w' := by
  have he : ∀ w, (Op.equalIn 10000 24 (.agg #[.int .u64 (l0 k), .int .u64 (l1 k), .int .u64 (l2 k), .int .u64 (l3 k)]) (.agg #[.int .u64 0, .int .u64 0, .int .u64 0, .int .u64 0])).run Tryz.prog w = .ok false w := fun w => by
    have := eq_no hk (m := 0) ⟨by decide, by decide⟩ h0 w
    obtain ⟨z0, z1, z2, z3⟩ := zero_limbs
    rw [z0, z1, z2, z3] at this
    exact this
  have bz := build_zero
  obtain ⟨z0, z1, z2, z3⟩ := zero_limbs
  rw [z0, z1, z2, z3]
  go_enter Tryz.func64, Tryz.ntmps64
  go_wp2
  simp [bodyPost, results, Tryz.results64, go_sem]
  repeat (first | with_reducible refine Below.setCell ?_ (by omega) _ | (first | with_reducible exact Below.refl _ _ | with_reducible refine Below.alloc ?_ (by first | omega | (simp; done) | (simp; omega)) _))

set_option maxHeartbeats 2000000 in
theorem csamex_yes {x y z x' y' z' : Int} (C : Hid (∀ w, Mds w → Calls Tryz.prog 33 #[.agg #[.int .u64 (l0 x), .int .u64 (l1 x), .int .u64 (l2 x), .int .u64 (l3 x), .int .u64 (l0 y), .int .u64 (l1 y), .int .u64 (l2 y), .int .u64 (l3 y), .int .u64 (l0 z), .int .u64 (l1 z), .int .u64 (l2 z), .int .u64 (l3 z)]] w fun e w' => e = .returned (.agg #[.int .u64 (l0 x'), .int .u64 (l1 x'), .int .u64 (l2 x'), .int .u64 (l3 x'), .int .u64 (l0 y'), .int .u64 (l1 y'), .int .u64 (l2 y'), .int .u64 (l3 y'), .int .u64 (l0 z'), .int .u64 (l1 z'), .int .u64 (l2 z'), .int .u64 (l3 z')]) ∧ Below w.heap.size w w')) (w : World) (hm : Mds w) :
    Calls Tryz.prog 64 #[.agg #[.int .u64 (l0 x), .int .u64 (l1 x), .int .u64 (l2 x), .int .u64 (l3 x), .int .u64 (l0 y), .int .u64 (l1 y), .int .u64 (l2 y), .int .u64 (l3 y), .int .u64 (l0 z), .int .u64 (l1 z), .int .u64 (l2 z), .int .u64 (l3 z)], .agg #[.int .u64 (l0 0), .int .u64 (l1 0), .int .u64 (l2 0), .int .u64 (l3 0)]] w fun e w' => e = .returned (.agg #[.int .u64 (l0 x'), .int .u64 (l1 x'), .int .u64 (l2 x'), .int .u64 (l3 x'), .int .u64 (l0 y'), .int .u64 (l1 y'), .int .u64 (l2 y'), .int .u64 (l3 y'), .int .u64 (l0 z'), .int .u64 (l1 z'), .int .u64 (l2 z'), .int .u64 (l3 z')]) ∧ Below w.heap.size w w' := by
  have he : ∀ w, (Op.equalIn 10000 24 (.agg #[.int .u64 0, .int .u64 0, .int .u64 0, .int .u64 0]) (.agg #[.int .u64 0, .int .u64 0, .int .u64 0, .int .u64 0])).run Tryz.prog w = .ok true w := fun w => by rw [eq_any]; rfl
  have bz := build_zero
  obtain ⟨z0, z1, z2, z3⟩ := zero_limbs
  rw [z0, z1, z2, z3]
  clear z0 z1 z2 z3
  go_enter Tryz.func64, Tryz.ntmps64
  go_wp2_with fail
  refine calls_world (fun W => Below w.heap.size w W ∧ Mds W ∧ Bk12 W (w.heap.size + 1 + 1)) ⟨by repeat (first | with_reducible exact Below.refl _ _ | with_reducible refine Below.alloc ?_ (by first | omega | (simp; done) | (simp; omega)) _), ((hm.alloc _).alloc _).alloc _, Bk12.new (by simp)⟩ ?_
  rintro W ⟨B, hD, hR⟩
  have o3 : w.heap.size ≤ w.heap.size + 1 + 1 := by omega
  generalize w.heap.size + 1 + 1 = br at *
  with_reducible refine (C.out _ hD).mono ?_
  rintro e w1 ⟨rfl, hb⟩
  replace B := B.trans (hb.mono B.size)
  replace hR := hR.keep hb
  clear hb hD W
  have gR := hR.cells; have fR := hR.free
  go_wp2
  simp [bodyPost, results, Tryz.results64, go_sem, gR]
  repeat (first | with_reducible exact B | with_reducible refine Below.setCell ?_ o3 _)

end Go.Proofs.YtmcodflbngkdcaaGreatDoor

namespace Go.Proofs.YtmcodflbngkdcaaGreatDoor
open Go.RowKit Go.Sort

/-- What is reckoned where the run is not 0. -/
structure LateC (z z2 c ey h r k m q n p s u v1 v2 v3 v o1 o2 : Int) : Prop where
  A11 : Hid (∀ w, Mds w → Calls Tryz.prog 40 #[.agg #[.int .u64 (l0 h), .int .u64 (l1 h), .int .u64 (l2 h), .int .u64 (l3 h)]] w fun e w' => e = .returned (.agg #[.int .u64 (l0 k), .int .u64 (l1 k), .int .u64 (l2 k), .int .u64 (l3 k)]) ∧ Below w.heap.size w w')
  A12 : Hid (∀ w, Mds w → Calls Tryz.prog 41 #[.agg #[.int .u64 (l0 k), .int .u64 (l1 k), .int .u64 (l2 k), .int .u64 (l3 k)], .agg #[.int .u64 (l0 h), .int .u64 (l1 h), .int .u64 (l2 h), .int .u64 (l3 h)]] w fun e w' => e = .returned (.agg #[.int .u64 (l0 m), .int .u64 (l1 m), .int .u64 (l2 m), .int .u64 (l3 m)]) ∧ Below w.heap.size w w')
  A13 : Hid (∀ w, Mds w → Calls Tryz.prog 41 #[.agg #[.int .u64 (l0 c), .int .u64 (l1 c), .int .u64 (l2 c), .int .u64 (l3 c)], .agg #[.int .u64 (l0 k), .int .u64 (l1 k), .int .u64 (l2 k), .int .u64 (l3 k)]] w fun e w' => e = .returned (.agg #[.int .u64 (l0 q), .int .u64 (l1 q), .int .u64 (l2 q), .int .u64 (l3 q)]) ∧ Below w.heap.size w w')
  A14 : Hid (∀ w, Mds w → Calls Tryz.prog 40 #[.agg #[.int .u64 (l0 r), .int .u64 (l1 r), .int .u64 (l2 r), .int .u64 (l3 r)]] w fun e w' => e = .returned (.agg #[.int .u64 (l0 n), .int .u64 (l1 n), .int .u64 (l2 n), .int .u64 (l3 n)]) ∧ Below w.heap.size w w')
  A15 : Hid (∀ w, Mds w → Calls Tryz.prog 63 #[.agg #[.int .u64 (l0 n), .int .u64 (l1 n), .int .u64 (l2 n), .int .u64 (l3 n)], .agg #[.int .u64 (l0 m), .int .u64 (l1 m), .int .u64 (l2 m), .int .u64 (l3 m)]] w fun e w' => e = .returned (.agg #[.int .u64 (l0 p), .int .u64 (l1 p), .int .u64 (l2 p), .int .u64 (l3 p)]) ∧ Below w.heap.size w w')
  A16 : Hid (∀ w, Mds w → Calls Tryz.prog 62 #[.agg #[.int .u64 (l0 q), .int .u64 (l1 q), .int .u64 (l2 q), .int .u64 (l3 q)]] w fun e w' => e = .returned (.agg #[.int .u64 (l0 s), .int .u64 (l1 s), .int .u64 (l2 s), .int .u64 (l3 s)]) ∧ Below w.heap.size w w')
  A17 : Hid (∀ w, Mds w → Calls Tryz.prog 63 #[.agg #[.int .u64 (l0 p), .int .u64 (l1 p), .int .u64 (l2 p), .int .u64 (l3 p)], .agg #[.int .u64 (l0 s), .int .u64 (l1 s), .int .u64 (l2 s), .int .u64 (l3 s)]] w fun e w' => e = .returned (.agg #[.int .u64 (l0 u), .int .u64 (l1 u), .int .u64 (l2 u), .int .u64 (l3 u)]) ∧ Below w.heap.size w w')
  A18 : Hid (∀ w, Mds w → Calls Tryz.prog 63 #[.agg #[.int .u64 (l0 q), .int .u64 (l1 q), .int .u64 (l2 q), .int .u64 (l3 q)], .agg #[.int .u64 (l0 u), .int .u64 (l1 u), .int .u64 (l2 u), .int .u64 (l3 u)]] w fun e w' => e = .returned (.agg #[.int .u64 (l0 v1), .int .u64 (l1 v1), .int .u64 (l2 v1), .int .u64 (l3 v1)]) ∧ Below w.heap.size w w')
  A19 : Hid (∀ w, Mds w → Calls Tryz.prog 41 #[.agg #[.int .u64 (l0 r), .int .u64 (l1 r), .int .u64 (l2 r), .int .u64 (l3 r)], .agg #[.int .u64 (l0 v1), .int .u64 (l1 v1), .int .u64 (l2 v1), .int .u64 (l3 v1)]] w fun e w' => e = .returned (.agg #[.int .u64 (l0 v2), .int .u64 (l1 v2), .int .u64 (l2 v2), .int .u64 (l3 v2)]) ∧ Below w.heap.size w w')
  A20 : Hid (∀ w, Mds w → Calls Tryz.prog 41 #[.agg #[.int .u64 (l0 ey), .int .u64 (l1 ey), .int .u64 (l2 ey), .int .u64 (l3 ey)], .agg #[.int .u64 (l0 m), .int .u64 (l1 m), .int .u64 (l2 m), .int .u64 (l3 m)]] w fun e w' => e = .returned (.agg #[.int .u64 (l0 v3), .int .u64 (l1 v3), .int .u64 (l2 v3), .int .u64 (l3 v3)]) ∧ Below w.heap.size w w')
  A21 : Hid (∀ w, Mds w → Calls Tryz.prog 63 #[.agg #[.int .u64 (l0 v2), .int .u64 (l1 v2), .int .u64 (l2 v2), .int .u64 (l3 v2)], .agg #[.int .u64 (l0 v3), .int .u64 (l1 v3), .int .u64 (l2 v3), .int .u64 (l3 v3)]] w fun e w' => e = .returned (.agg #[.int .u64 (l0 v), .int .u64 (l1 v), .int .u64 (l2 v), .int .u64 (l3 v)]) ∧ Below w.heap.size w w')
  A22 : Hid (∀ w, Mds w → Calls Tryz.prog 41 #[.agg #[.int .u64 (l0 z), .int .u64 (l1 z), .int .u64 (l2 z), .int .u64 (l3 z)], .agg #[.int .u64 (l0 z2), .int .u64 (l1 z2), .int .u64 (l2 z2), .int .u64 (l3 z2)]] w fun e w' => e = .returned (.agg #[.int .u64 (l0 o1), .int .u64 (l1 o1), .int .u64 (l2 o1), .int .u64 (l3 o1)]) ∧ Below w.heap.size w w')
  A23 : Hid (∀ w, Mds w → Calls Tryz.prog 41 #[.agg #[.int .u64 (l0 o1), .int .u64 (l1 o1), .int .u64 (l2 o1), .int .u64 (l3 o1)], .agg #[.int .u64 (l0 h), .int .u64 (l1 h), .int .u64 (l2 h), .int .u64 (l3 h)]] w fun e w' => e = .returned (.agg #[.int .u64 (l0 o2), .int .u64 (l1 o2), .int .u64 (l2 o2), .int .u64 (l3 o2)]) ∧ Below w.heap.size w w')

set_option maxRecDepth 100000 in
set_option maxHeartbeats 32000000 in
theorem cadd_walk {x y z x2 y2 z2 a b c d ey f h g j r X Y Z : Int} (C0 : Hid (∀ w, Calls Tryz.prog 38 #[.agg #[.int .u64 (l0 x), .int .u64 (l1 x), .int .u64 (l2 x), .int .u64 (l3 x), .int .u64 (l0 y), .int .u64 (l1 y), .int .u64 (l2 y), .int .u64 (l3 y), .int .u64 (l0 z), .int .u64 (l1 z), .int .u64 (l2 z), .int .u64 (l3 z)]] w fun e w' => e = .returned (.bool false) ∧ Below w.heap.size w w'))
    (C1 : Hid (∀ w, Calls Tryz.prog 38 #[.agg #[.int .u64 (l0 x2), .int .u64 (l1 x2), .int .u64 (l2 x2), .int .u64 (l3 x2), .int .u64 (l0 y2), .int .u64 (l1 y2), .int .u64 (l2 y2), .int .u64 (l3 y2), .int .u64 (l0 z2), .int .u64 (l1 z2), .int .u64 (l2 z2), .int .u64 (l3 z2)]] w fun e w' => e = .returned (.bool false) ∧ Below w.heap.size w w'))
    (A1 : Hid (∀ w, Mds w → Calls Tryz.prog 40 #[.agg #[.int .u64 (l0 z), .int .u64 (l1 z), .int .u64 (l2 z), .int .u64 (l3 z)]] w fun e w' => e = .returned (.agg #[.int .u64 (l0 a), .int .u64 (l1 a), .int .u64 (l2 a), .int .u64 (l3 a)]) ∧ Below w.heap.size w w'))
    (A2 : Hid (∀ w, Mds w → Calls Tryz.prog 40 #[.agg #[.int .u64 (l0 z2), .int .u64 (l1 z2), .int .u64 (l2 z2), .int .u64 (l3 z2)]] w fun e w' => e = .returned (.agg #[.int .u64 (l0 b), .int .u64 (l1 b), .int .u64 (l2 b), .int .u64 (l3 b)]) ∧ Below w.heap.size w w'))
    (A3 : Hid (∀ w, Mds w → Calls Tryz.prog 41 #[.agg #[.int .u64 (l0 x), .int .u64 (l1 x), .int .u64 (l2 x), .int .u64 (l3 x)], .agg #[.int .u64 (l0 b), .int .u64 (l1 b), .int .u64 (l2 b), .int .u64 (l3 b)]] w fun e w' => e = .returned (.agg #[.int .u64 (l0 c), .int .u64 (l1 c), .int .u64 (l2 c), .int .u64 (l3 c)]) ∧ Below w.heap.size w w'))
    (A4 : Hid (∀ w, Mds w → Calls Tryz.prog 41 #[.agg #[.int .u64 (l0 b), .int .u64 (l1 b), .int .u64 (l2 b), .int .u64 (l3 b)], .agg #[.int .u64 (l0 z2), .int .u64 (l1 z2), .int .u64 (l2 z2), .int .u64 (l3 z2)]] w fun e w' => e = .returned (.agg #[.int .u64 (l0 d), .int .u64 (l1 d), .int .u64 (l2 d), .int .u64 (l3 d)]) ∧ Below w.heap.size w w'))
    (A5 : Hid (∀ w, Mds w → Calls Tryz.prog 41 #[.agg #[.int .u64 (l0 y), .int .u64 (l1 y), .int .u64 (l2 y), .int .u64 (l3 y)], .agg #[.int .u64 (l0 d), .int .u64 (l1 d), .int .u64 (l2 d), .int .u64 (l3 d)]] w fun e w' => e = .returned (.agg #[.int .u64 (l0 ey), .int .u64 (l1 ey), .int .u64 (l2 ey), .int .u64 (l3 ey)]) ∧ Below w.heap.size w w'))
    (A6 : Hid (∀ w, Mds w → Calls Tryz.prog 41 #[.agg #[.int .u64 (l0 x2), .int .u64 (l1 x2), .int .u64 (l2 x2), .int .u64 (l3 x2)], .agg #[.int .u64 (l0 a), .int .u64 (l1 a), .int .u64 (l2 a), .int .u64 (l3 a)]] w fun e w' => e = .returned (.agg #[.int .u64 (l0 f), .int .u64 (l1 f), .int .u64 (l2 f), .int .u64 (l3 f)]) ∧ Below w.heap.size w w'))
    (A7 : Hid (∀ w, Mds w → Calls Tryz.prog 63 #[.agg #[.int .u64 (l0 f), .int .u64 (l1 f), .int .u64 (l2 f), .int .u64 (l3 f)], .agg #[.int .u64 (l0 c), .int .u64 (l1 c), .int .u64 (l2 c), .int .u64 (l3 c)]] w fun e w' => e = .returned (.agg #[.int .u64 (l0 h), .int .u64 (l1 h), .int .u64 (l2 h), .int .u64 (l3 h)]) ∧ Below w.heap.size w w'))
    (A8 : Hid (∀ w, Mds w → Calls Tryz.prog 41 #[.agg #[.int .u64 (l0 a), .int .u64 (l1 a), .int .u64 (l2 a), .int .u64 (l3 a)], .agg #[.int .u64 (l0 z), .int .u64 (l1 z), .int .u64 (l2 z), .int .u64 (l3 z)]] w fun e w' => e = .returned (.agg #[.int .u64 (l0 g), .int .u64 (l1 g), .int .u64 (l2 g), .int .u64 (l3 g)]) ∧ Below w.heap.size w w'))
    (A9 : Hid (∀ w, Mds w → Calls Tryz.prog 41 #[.agg #[.int .u64 (l0 y2), .int .u64 (l1 y2), .int .u64 (l2 y2), .int .u64 (l3 y2)], .agg #[.int .u64 (l0 g), .int .u64 (l1 g), .int .u64 (l2 g), .int .u64 (l3 g)]] w fun e w' => e = .returned (.agg #[.int .u64 (l0 j), .int .u64 (l1 j), .int .u64 (l2 j), .int .u64 (l3 j)]) ∧ Below w.heap.size w w'))
    (A10 : Hid (∀ w, Mds w → Calls Tryz.prog 63 #[.agg #[.int .u64 (l0 j), .int .u64 (l1 j), .int .u64 (l2 j), .int .u64 (l3 j)], .agg #[.int .u64 (l0 ey), .int .u64 (l1 ey), .int .u64 (l2 ey), .int .u64 (l3 ey)]] w fun e w' => e = .returned (.agg #[.int .u64 (l0 r), .int .u64 (l1 r), .int .u64 (l2 r), .int .u64 (l3 r)]) ∧ Below w.heap.size w w'))
    (HB : Hid (((∀ w, (Op.equalIn 10000 24 (.agg #[.int .u64 (l0 h), .int .u64 (l1 h), .int .u64 (l2 h), .int .u64 (l3 h)]) (.agg #[.int .u64 0, .int .u64 0, .int .u64 0, .int .u64 0])).run Tryz.prog w = .ok true w) ∧ Hid (∀ w, Mds w → Calls Tryz.prog 64 #[.agg #[.int .u64 (l0 x), .int .u64 (l1 x), .int .u64 (l2 x), .int .u64 (l3 x), .int .u64 (l0 y), .int .u64 (l1 y), .int .u64 (l2 y), .int .u64 (l3 y), .int .u64 (l0 z), .int .u64 (l1 z), .int .u64 (l2 z), .int .u64 (l3 z)], .agg #[.int .u64 (l0 r), .int .u64 (l1 r), .int .u64 (l2 r), .int .u64 (l3 r)]] w fun e w' => e = .returned (.agg #[.int .u64 (l0 X), .int .u64 (l1 X), .int .u64 (l2 X), .int .u64 (l3 X), .int .u64 (l0 Y), .int .u64 (l1 Y), .int .u64 (l2 Y), .int .u64 (l3 Y), .int .u64 (l0 Z), .int .u64 (l1 Z), .int .u64 (l2 Z), .int .u64 (l3 Z)]) ∧ Below w.heap.size w w')) ∨
      ((∀ w, (Op.equalIn 10000 24 (.agg #[.int .u64 (l0 h), .int .u64 (l1 h), .int .u64 (l2 h), .int .u64 (l3 h)]) (.agg #[.int .u64 0, .int .u64 0, .int .u64 0, .int .u64 0])).run Tryz.prog w = .ok false w) ∧ ∃ k m q n p s v1 v2 v3 o1, LateC z z2 c ey h r k m q n p s X v1 v2 v3 Y o1 Z)))
    (w : World) (hm : Mds w) :
    Calls Tryz.prog 34 #[.agg #[.int .u64 (l0 x), .int .u64 (l1 x), .int .u64 (l2 x), .int .u64 (l3 x), .int .u64 (l0 y), .int .u64 (l1 y), .int .u64 (l2 y), .int .u64 (l3 y), .int .u64 (l0 z), .int .u64 (l1 z), .int .u64 (l2 z), .int .u64 (l3 z)], .agg #[.int .u64 (l0 x2), .int .u64 (l1 x2), .int .u64 (l2 x2), .int .u64 (l3 x2), .int .u64 (l0 y2), .int .u64 (l1 y2), .int .u64 (l2 y2), .int .u64 (l3 y2), .int .u64 (l0 z2), .int .u64 (l1 z2), .int .u64 (l2 z2), .int .u64 (l3 z2)]] w fun e w' => e = .returned (.agg #[.int .u64 (l0 X), .int .u64 (l1 X), .int .u64 (l2 X), .int .u64 (l3 X), .int .u64 (l0 Y), .int .u64 (l1 Y), .int .u64 (l2 Y), .int .u64 (l3 Y), .int .u64 (l0 Z), .int .u64 (l1 Z), .int .u64 (l2 Z), .int .u64 (l3 Z)]) ∧ Below w.heap.size w w' := by
  have bz := build_zero
  go_enter Tryz.func34, Tryz.ntmps34
  go_wp2_with fail
  refine calls_world (fun W => Below w.heap.size w W ∧ Mds W ∧ Thr W w.heap.size x y z ∧ Thr W (w.heap.size + 1) x2 y2 z2 ∧ Bk12 W (w.heap.size + 1 + 1)) ⟨by repeat (first | with_reducible exact Below.refl _ _ | with_reducible refine Below.alloc ?_ (by first | omega | (simp; done) | (simp; omega)) _), ((hm.alloc _).alloc _).alloc _, ((Thr.new rfl).alloc _).alloc _, (Thr.new (by simp)).alloc _, Bk12.new (by simp)⟩ ?_
  rintro W ⟨B, hD, hT, hO, hR⟩
  have o3 : w.heap.size ≤ w.heap.size + 1 + 1 := by omega
  generalize w.heap.size + 1 + 1 = br at *
  generalize w.heap.size + 1 = bo at *
  with_reducible refine (C0.out _).mono ?_
  rintro e w1 ⟨rfl, hb⟩
  replace B := B.trans (hb.mono B.size)
  replace hD := hD.keep hb; replace hT := hT.keep hb; replace hO := hO.keep hb; replace hR := hR.keep hb
  clear hb W
  have ghO := hO.cells
  go_wp2_with fail
  refine calls_world (fun W => Below w.heap.size w W ∧ Mds W ∧ Thr W w.heap.size x y z ∧ Thr W bo x2 y2 z2 ∧ Bk12 W br) ⟨B, hD, hT, hO, hR⟩ ?_
  clear B hD hT hO hR ghO
  rintro W ⟨B, hD, hT, hO, hR⟩
  with_reducible refine (C1.out _).mono ?_
  rintro e w2 ⟨rfl, hb⟩
  replace B := B.trans (hb.mono B.size)
  replace hD := hD.keep hb; replace hT := hT.keep hb; replace hO := hO.keep hb; replace hR := hR.keep hb
  clear hb W
  go_wp2_with fail
  refine wp_world (fun W => Below w.heap.size w W ∧ Mds W ∧ Thr W w.heap.size x y z ∧ Thr W bo x2 y2 z2 ∧ Bk12 W br) ⟨B, hD, hT, hO, hR⟩ ?_
  clear B hD hT hO hR 
  rintro W ⟨B, hD, hT, hO, hR⟩
  refine alloc2_tail (A := ?AA1) 6 (by kernel_rfl) (by kernel_rfl) rfl rfl rfl rfl (alloc_num _ _ _) (alloc_num _ _ _) (fun V hV => ?HH1) (fun V V2 w1 hV hw hV2 hw2 hdd => ?TT1)
  case HH1 =>
    have hDg : ∀ d os, Mds (grow (redrawn V d) os) := fun d os => (hD.keep hV).keep (below_regrown V d os)
    have ghT := (hT.keep hV).grown
    have ghO := (hO.keep hV).grown
    unfold Gr
    simp only [List.take_succ_cons, List.take_zero]
    repeat
      first
        | go_big_quiet_skip
        | (go_big_quiet_want; go_big_quiet_op; go_big_quiet_on)
        | (go_big_quiet_want
           go_big_quiet_op
           apply Exists.intro
           refine ⟨fun p => ?_, ?_⟩
           · (first | (go_at_call 40; with_reducible exact Calls.regrown_of (A1.out _ (hDg p.d p.os))) | (go_at_call 40; with_reducible exact Calls.regrown_of (A2.out _ (hDg p.d p.os))))
           go_big_quiet_on)
    refine wpQuiet_nil ?_
    exact rfl
  case TT1 =>
    have hb := alloc_below hV hw
    have hN := (Blank.new rfl).keep hw
    have hM := (Blank.new rfl).keep hw2
    have nhD : V.heap.size ≠ 1 := Nat.ne_of_gt (Nat.lt_of_lt_of_le (hD.lt) hV.size)
    have nhT : V.heap.size ≠ w.heap.size := Nat.ne_of_gt (Nat.lt_of_lt_of_le (hT.lt) hV.size)
    have nhO : V.heap.size ≠ bo := Nat.ne_of_gt (Nat.lt_of_lt_of_le (hO.lt) hV.size)
    have nhR : V.heap.size ≠ br := Nat.ne_of_gt (Nat.lt_of_lt_of_le (hR.lt) hV.size)
    have khD : V2.heap.size ≠ 1 := Nat.ne_of_gt (Nat.lt_of_lt_of_le (hD.lt) hV2.size)
    have khT : V2.heap.size ≠ w.heap.size := Nat.ne_of_gt (Nat.lt_of_lt_of_le (hT.lt) hV2.size)
    have khO : V2.heap.size ≠ bo := Nat.ne_of_gt (Nat.lt_of_lt_of_le (hO.lt) hV2.size)
    have khR : V2.heap.size ≠ br := Nat.ne_of_gt (Nat.lt_of_lt_of_le (hR.lt) hV2.size)
    have gn : w.heap.size ≤ V.heap.size := Nat.le_trans B.size hV.size
    have gm : w.heap.size ≤ V2.heap.size := Nat.le_trans B.size hV2.size
    have hdd2 := hdd.symm
    replace B := B.trans (hb.mono B.size)
    replace hD := hD.keep hb; replace hT := hT.keep hb; replace hO := hO.keep hb; replace hR := hR.keep hb
    clear hb hw hV hw2 hV2 W
    generalize V.heap.size = ba at *
    generalize V2.heap.size = bb at *
    clear V V2
    have gN := hN.1.all4; have qN := hN.2.all4
    have gM := hM.1.all4; have qM := hM.2.all4
    have mhD := nhD.symm
    have lhD := khD.symm
    have mhT := nhT.symm
    have lhT := khT.symm
    have mhO := nhO.symm
    have lhO := khO.symm
    have mhR := nhR.symm
    have lhR := khR.symm
    simp only [List.drop_succ_cons, List.drop_zero, Act.put, List.setIfInBounds_toArray, List.set_cons_zero, List.set_cons_succ]
    go_wp2_with fail
    refine wp_world (fun W => Below w.heap.size w W ∧ Mds W ∧ Thr W w.heap.size x y z ∧ Thr W bo x2 y2 z2 ∧ Bk12 W br ∧ Hold W ba a ∧ Hold W bb b) ⟨below_set4 (below_set4 B gn _ _ _ _) gm _ _ _ _, (hD.set4 nhD _ _ _ _).set4 khD _ _ _ _, (hT.set4 nhT _ _ _ _).set4 khT _ _ _ _, (hO.set4 nhO _ _ _ _).set4 khO _ _ _ _, (hR.set4 nhR _ _ _ _).set4 khR _ _ _ _, (Hold.sets4 (Blank.has hN)).set4 hdd2 _ _ _ _, Hold.sets4 (Blank.has (hM.set4 hdd _ _ _ _))⟩ ?_
    clear B hN gN qN hM gM qM hdd hdd2 hD hT hO hR nhD mhD khD lhD nhT mhT khT lhT nhO mhO khO lhO nhR mhR khR lhR  gn gm
    rintro W ⟨B, hD, hT, hO, hR, hA, hB⟩
    clear w1
    refine alloc2_tail (A := ?AA2) 11 (by kernel_rfl) (by kernel_rfl) rfl rfl rfl rfl (alloc_num _ _ _) (alloc_num _ _ _) (fun V hV => ?HH2) (fun V V2 w1 hV hw hV2 hw2 hdd => ?TT2)
    case HH2 =>
      have hDg : ∀ d os, Mds (grow (redrawn V d) os) := fun d os => (hD.keep hV).keep (below_regrown V d os)
      have ghT := (hT.keep hV).grown
      have ghO := (hO.keep hV).grown
      have ghB := (hB.keep hV).grown
      unfold Gr
      simp only [List.take_succ_cons, List.take_zero]
      repeat
        first
          | go_big_quiet_skip
          | (go_big_quiet_want; go_big_quiet_op; go_big_quiet_on)
          | (go_big_quiet_want
             go_big_quiet_op
             apply Exists.intro
             refine ⟨fun p => ?_, ?_⟩
             · (first | (go_at_call 41; with_reducible exact Calls.regrown_of (A3.out _ (hDg p.d p.os))) | (go_at_call 41; with_reducible exact Calls.regrown_of (A4.out _ (hDg p.d p.os))) | (go_at_call 41; with_reducible exact Calls.regrown_of (A5.out _ (hDg p.d p.os))))
             go_big_quiet_on)
      refine wpQuiet_nil ?_
      exact rfl
    case TT2 =>
      have hb := alloc_below hV hw
      have hN := (Blank.new rfl).keep hw
      have hM := (Blank.new rfl).keep hw2
      have nhD : V.heap.size ≠ 1 := Nat.ne_of_gt (Nat.lt_of_lt_of_le (hD.lt) hV.size)
      have nhT : V.heap.size ≠ w.heap.size := Nat.ne_of_gt (Nat.lt_of_lt_of_le (hT.lt) hV.size)
      have nhO : V.heap.size ≠ bo := Nat.ne_of_gt (Nat.lt_of_lt_of_le (hO.lt) hV.size)
      have nhR : V.heap.size ≠ br := Nat.ne_of_gt (Nat.lt_of_lt_of_le (hR.lt) hV.size)
      have nhA : V.heap.size ≠ ba := Nat.ne_of_gt (Nat.lt_of_lt_of_le (World.block_lt_of_cell? _ _ hA.1) hV.size)
      have nhB : V.heap.size ≠ bb := Nat.ne_of_gt (Nat.lt_of_lt_of_le (World.block_lt_of_cell? _ _ hB.1) hV.size)
      have khD : V2.heap.size ≠ 1 := Nat.ne_of_gt (Nat.lt_of_lt_of_le (hD.lt) hV2.size)
      have khT : V2.heap.size ≠ w.heap.size := Nat.ne_of_gt (Nat.lt_of_lt_of_le (hT.lt) hV2.size)
      have khO : V2.heap.size ≠ bo := Nat.ne_of_gt (Nat.lt_of_lt_of_le (hO.lt) hV2.size)
      have khR : V2.heap.size ≠ br := Nat.ne_of_gt (Nat.lt_of_lt_of_le (hR.lt) hV2.size)
      have khA : V2.heap.size ≠ ba := Nat.ne_of_gt (Nat.lt_of_lt_of_le (World.block_lt_of_cell? _ _ hA.1) hV2.size)
      have khB : V2.heap.size ≠ bb := Nat.ne_of_gt (Nat.lt_of_lt_of_le (World.block_lt_of_cell? _ _ hB.1) hV2.size)
      have gn : w.heap.size ≤ V.heap.size := Nat.le_trans B.size hV.size
      have gm : w.heap.size ≤ V2.heap.size := Nat.le_trans B.size hV2.size
      have hdd2 := hdd.symm
      replace B := B.trans (hb.mono B.size)
      replace hD := hD.keep hb; replace hT := hT.keep hb; replace hO := hO.keep hb; replace hR := hR.keep hb; replace hA := hA.keep hb; replace hB := hB.keep hb
      clear hb hw hV hw2 hV2 W
      generalize V.heap.size = bc at *
      generalize V2.heap.size = be at *
      clear V V2
      have gN := hN.1.all4; have qN := hN.2.all4
      have gM := hM.1.all4; have qM := hM.2.all4
      have mhD := nhD.symm
      have lhD := khD.symm
      have mhT := nhT.symm
      have lhT := khT.symm
      have mhO := nhO.symm
      have lhO := khO.symm
      have mhR := nhR.symm
      have lhR := khR.symm
      have mhA := nhA.symm
      have lhA := khA.symm
      have mhB := nhB.symm
      have lhB := khB.symm
      simp only [List.drop_succ_cons, List.drop_zero, Act.put, List.setIfInBounds_toArray, List.set_cons_zero, List.set_cons_succ]
      go_wp2_with fail
      refine wp_world (fun W => Below w.heap.size w W ∧ Mds W ∧ Thr W w.heap.size x y z ∧ Thr W bo x2 y2 z2 ∧ Bk12 W br ∧ Hold W ba a ∧ Hold W bb b ∧ Hold W bc c ∧ Hold W be ey) ⟨below_set4 (below_set4 B gn _ _ _ _) gm _ _ _ _, (hD.set4 nhD _ _ _ _).set4 khD _ _ _ _, (hT.set4 nhT _ _ _ _).set4 khT _ _ _ _, (hO.set4 nhO _ _ _ _).set4 khO _ _ _ _, (hR.set4 nhR _ _ _ _).set4 khR _ _ _ _, (hA.set4 nhA _ _ _ _).set4 khA _ _ _ _, (hB.set4 nhB _ _ _ _).set4 khB _ _ _ _, (Hold.sets4 (Blank.has hN)).set4 hdd2 _ _ _ _, Hold.sets4 (Blank.has (hM.set4 hdd _ _ _ _))⟩ ?_
      clear B hN gN qN hM gM qM hdd hdd2 hD hT hO hR hA hB nhD mhD khD lhD nhT mhT khT lhT nhO mhO khO lhO nhR mhR khR lhR nhA mhA khA lhA nhB mhB khB lhB  gn gm
      rintro W ⟨B, hD, hT, hO, hR, hA, hB, hC, hE⟩
      clear w1
      clear hB
      refine alloc_tail (A := ?AA3) 6 (by kernel_rfl) (by kernel_rfl) rfl rfl (alloc_num _ _ _) (fun V hV => ?HH3) (fun V w1 hV hw => ?TT3)
      case HH3 =>
        have hDg : ∀ d os, Mds (grow (redrawn V d) os) := fun d os => (hD.keep hV).keep (below_regrown V d os)
        have ghO := (hO.keep hV).grown
        have ghA := (hA.keep hV).grown
        have ghC := (hC.keep hV).grown
        unfold Gr
        simp only [List.take_succ_cons, List.take_zero]
        repeat
          first
            | go_big_quiet_skip
            | (go_big_quiet_want; go_big_quiet_op; go_big_quiet_on)
            | (go_big_quiet_want
               go_big_quiet_op
               apply Exists.intro
               refine ⟨fun p => ?_, ?_⟩
               · (first | (go_at_call 41; with_reducible exact Calls.regrown_of (A6.out _ (hDg p.d p.os))) | (go_at_call 63; with_reducible exact Calls.regrown_of (A7.out _ (hDg p.d p.os))))
               go_big_quiet_on)
        refine wpQuiet_nil ?_
        exact rfl
      case TT3 =>
        have hb := alloc_below hV hw
        have hN := (Blank.new rfl).keep hw
        have nhD : V.heap.size ≠ 1 := Nat.ne_of_gt (Nat.lt_of_lt_of_le (hD.lt) hV.size)
        have nhT : V.heap.size ≠ w.heap.size := Nat.ne_of_gt (Nat.lt_of_lt_of_le (hT.lt) hV.size)
        have nhO : V.heap.size ≠ bo := Nat.ne_of_gt (Nat.lt_of_lt_of_le (hO.lt) hV.size)
        have nhR : V.heap.size ≠ br := Nat.ne_of_gt (Nat.lt_of_lt_of_le (hR.lt) hV.size)
        have nhA : V.heap.size ≠ ba := Nat.ne_of_gt (Nat.lt_of_lt_of_le (World.block_lt_of_cell? _ _ hA.1) hV.size)
        have nhC : V.heap.size ≠ bc := Nat.ne_of_gt (Nat.lt_of_lt_of_le (World.block_lt_of_cell? _ _ hC.1) hV.size)
        have nhE : V.heap.size ≠ be := Nat.ne_of_gt (Nat.lt_of_lt_of_le (World.block_lt_of_cell? _ _ hE.1) hV.size)
        have gn : w.heap.size ≤ V.heap.size := Nat.le_trans B.size hV.size
        replace B := B.trans (hb.mono B.size)
        replace hD := hD.keep hb; replace hT := hT.keep hb; replace hO := hO.keep hb; replace hR := hR.keep hb; replace hA := hA.keep hb; replace hC := hC.keep hb; replace hE := hE.keep hb
        clear hb hw hV W
        generalize V.heap.size = bh at *
        clear V
        have gN := hN.1.all4; have qN := hN.2.all4
        have mhD := nhD.symm
        have mhT := nhT.symm
        have mhO := nhO.symm
        have mhR := nhR.symm
        have mhA := nhA.symm
        have mhC := nhC.symm
        have mhE := nhE.symm
        simp only [List.drop_succ_cons, List.drop_zero, Act.put, List.setIfInBounds_toArray, List.set_cons_zero, List.set_cons_succ]
        go_wp2_with fail
        refine wp_world (fun W => Below w.heap.size w W ∧ Mds W ∧ Thr W w.heap.size x y z ∧ Thr W bo x2 y2 z2 ∧ Bk12 W br ∧ Hold W ba a ∧ Hold W bc c ∧ Hold W be ey ∧ Hold W bh h) ⟨below_set4 B gn _ _ _ _, hD.set4 nhD _ _ _ _, hT.set4 nhT _ _ _ _, hO.set4 nhO _ _ _ _, hR.set4 nhR _ _ _ _, hA.set4 nhA _ _ _ _, hC.set4 nhC _ _ _ _, hE.set4 nhE _ _ _ _, Hold.sets4 (Blank.has hN)⟩ ?_
        clear B hN gN qN hD hT hO hR hA hC hE nhD mhD nhT mhT nhO mhO nhR mhR nhA mhA nhC mhC nhE mhE  gn
        rintro W ⟨B, hD, hT, hO, hR, hA, hC, hE, hH⟩
        clear w1
        clear C0 C1 A1 A2 A3 A4 A5 A6 A7
        rcases HB.out with ⟨he, CS⟩ | ⟨he, k, m, q, n, p, s, v1, v2, v3, o1, L⟩
        · clear HB
          refine alloc_tail (A := ?AA4) 9 (by kernel_rfl) (by kernel_rfl) rfl rfl (alloc_num _ _ _) (fun V hV => ?HH4) (fun V w1 hV hw => ?TT4)
          case HH4 =>
            have hDg : ∀ d os, Mds (grow (redrawn V d) os) := fun d os => (hD.keep hV).keep (below_regrown V d os)
            have ghT := (hT.keep hV).grown
            have ghO := (hO.keep hV).grown
            have ghA := (hA.keep hV).grown
            have ghE := (hE.keep hV).grown
            unfold Gr
            simp only [List.take_succ_cons, List.take_zero]
            repeat
              first
                | go_big_quiet_skip
                | (go_big_quiet_want; go_big_quiet_op; go_big_quiet_on)
                | (go_big_quiet_want
                   go_big_quiet_op
                   apply Exists.intro
                   refine ⟨fun p => ?_, ?_⟩
                   · (first | (go_at_call 41; with_reducible exact Calls.regrown_of (A8.out _ (hDg p.d p.os))) | (go_at_call 41; with_reducible exact Calls.regrown_of (A9.out _ (hDg p.d p.os))) | (go_at_call 63; with_reducible exact Calls.regrown_of (A10.out _ (hDg p.d p.os))))
                   go_big_quiet_on)
            refine wpQuiet_nil ?_
            exact rfl
          case TT4 =>
            have hb := alloc_below hV hw
            have hN := (Blank.new rfl).keep hw
            have nhD : V.heap.size ≠ 1 := Nat.ne_of_gt (Nat.lt_of_lt_of_le (hD.lt) hV.size)
            have nhT : V.heap.size ≠ w.heap.size := Nat.ne_of_gt (Nat.lt_of_lt_of_le (hT.lt) hV.size)
            have nhO : V.heap.size ≠ bo := Nat.ne_of_gt (Nat.lt_of_lt_of_le (hO.lt) hV.size)
            have nhR : V.heap.size ≠ br := Nat.ne_of_gt (Nat.lt_of_lt_of_le (hR.lt) hV.size)
            have nhA : V.heap.size ≠ ba := Nat.ne_of_gt (Nat.lt_of_lt_of_le (World.block_lt_of_cell? _ _ hA.1) hV.size)
            have nhC : V.heap.size ≠ bc := Nat.ne_of_gt (Nat.lt_of_lt_of_le (World.block_lt_of_cell? _ _ hC.1) hV.size)
            have nhE : V.heap.size ≠ be := Nat.ne_of_gt (Nat.lt_of_lt_of_le (World.block_lt_of_cell? _ _ hE.1) hV.size)
            have nhH : V.heap.size ≠ bh := Nat.ne_of_gt (Nat.lt_of_lt_of_le (World.block_lt_of_cell? _ _ hH.1) hV.size)
            have gn : w.heap.size ≤ V.heap.size := Nat.le_trans B.size hV.size
            replace B := B.trans (hb.mono B.size)
            replace hD := hD.keep hb; replace hT := hT.keep hb; replace hO := hO.keep hb; replace hR := hR.keep hb; replace hA := hA.keep hb; replace hC := hC.keep hb; replace hE := hE.keep hb; replace hH := hH.keep hb
            clear hb hw hV W
            generalize V.heap.size = bg at *
            clear V
            have gN := hN.1.all4; have qN := hN.2.all4
            have ghT := hT.cells
            have ghH := hH.cells
            have mhD := nhD.symm
            have mhT := nhT.symm
            have mhO := nhO.symm
            have mhR := nhR.symm
            have mhA := nhA.symm
            have mhC := nhC.symm
            have mhE := nhE.symm
            have mhH := nhH.symm
            simp only [List.drop_succ_cons, List.drop_zero, Act.put, List.setIfInBounds_toArray, List.set_cons_zero, List.set_cons_succ]
            go_wp2_with fail
            refine calls_world (fun W => Below w.heap.size w W ∧ Mds W ∧ Thr W w.heap.size x y z ∧ Thr W bo x2 y2 z2 ∧ Bk12 W br ∧ Hold W ba a ∧ Hold W bc c ∧ Hold W be ey ∧ Hold W bh h ∧ Hold W bg r) ⟨below_set4 B gn _ _ _ _, hD.set4 nhD _ _ _ _, hT.set4 nhT _ _ _ _, hO.set4 nhO _ _ _ _, hR.set4 nhR _ _ _ _, hA.set4 nhA _ _ _ _, hC.set4 nhC _ _ _ _, hE.set4 nhE _ _ _ _, hH.set4 nhH _ _ _ _, Hold.sets4 (Blank.has hN)⟩ ?_
            clear B hN gN qN hD hT hO hR hA hC hE hH nhD mhD nhT mhT nhO mhO nhR mhR nhA mhA nhC mhC nhE mhE nhH mhH ghT ghH gn
            rintro W ⟨B, hD, hT, hO, hR, hA, hC, hE, hH, hG⟩
            clear w1
            with_reducible refine (CS.out _ hD).mono ?_
            rintro e w9 ⟨rfl, hb⟩
            replace B := B.trans (hb.mono B.size)
            replace hD := hD.keep hb; replace hT := hT.keep hb; replace hO := hO.keep hb; replace hR := hR.keep hb; replace hA := hA.keep hb; replace hC := hC.keep hb; replace hE := hE.keep hb; replace hH := hH.keep hb; replace hG := hG.keep hb
            clear hb W hD hT hO hA hC hE hH hG
            have gR := hR.cells; have fR := hR.free
            go_wp2
            simp [bodyPost, results, Tryz.results34, go_sem, gR]
            repeat (first | with_reducible exact B | with_reducible refine Below.setCell ?_ o3 _)
        · clear HB
          obtain ⟨A11, A12, A13, A14, A15, A16, A17, A18, A19, A20, A21, A22, A23⟩ := L
          refine alloc_tail (A := ?AA5) 9 (by kernel_rfl) (by kernel_rfl) rfl rfl (alloc_num _ _ _) (fun V hV => ?HH5) (fun V w1 hV hw => ?TT5)
          case HH5 =>
            have hDg : ∀ d os, Mds (grow (redrawn V d) os) := fun d os => (hD.keep hV).keep (below_regrown V d os)
            have ghT := (hT.keep hV).grown
            have ghO := (hO.keep hV).grown
            have ghA := (hA.keep hV).grown
            have ghE := (hE.keep hV).grown
            unfold Gr
            simp only [List.take_succ_cons, List.take_zero]
            repeat
              first
                | go_big_quiet_skip
                | (go_big_quiet_want; go_big_quiet_op; go_big_quiet_on)
                | (go_big_quiet_want
                   go_big_quiet_op
                   apply Exists.intro
                   refine ⟨fun p => ?_, ?_⟩
                   · (first | (go_at_call 41; with_reducible exact Calls.regrown_of (A8.out _ (hDg p.d p.os))) | (go_at_call 41; with_reducible exact Calls.regrown_of (A9.out _ (hDg p.d p.os))) | (go_at_call 63; with_reducible exact Calls.regrown_of (A10.out _ (hDg p.d p.os))))
                   go_big_quiet_on)
            refine wpQuiet_nil ?_
            exact rfl
          case TT5 =>
            have hb := alloc_below hV hw
            have hN := (Blank.new rfl).keep hw
            have nhD : V.heap.size ≠ 1 := Nat.ne_of_gt (Nat.lt_of_lt_of_le (hD.lt) hV.size)
            have nhT : V.heap.size ≠ w.heap.size := Nat.ne_of_gt (Nat.lt_of_lt_of_le (hT.lt) hV.size)
            have nhO : V.heap.size ≠ bo := Nat.ne_of_gt (Nat.lt_of_lt_of_le (hO.lt) hV.size)
            have nhR : V.heap.size ≠ br := Nat.ne_of_gt (Nat.lt_of_lt_of_le (hR.lt) hV.size)
            have nhA : V.heap.size ≠ ba := Nat.ne_of_gt (Nat.lt_of_lt_of_le (World.block_lt_of_cell? _ _ hA.1) hV.size)
            have nhC : V.heap.size ≠ bc := Nat.ne_of_gt (Nat.lt_of_lt_of_le (World.block_lt_of_cell? _ _ hC.1) hV.size)
            have nhE : V.heap.size ≠ be := Nat.ne_of_gt (Nat.lt_of_lt_of_le (World.block_lt_of_cell? _ _ hE.1) hV.size)
            have nhH : V.heap.size ≠ bh := Nat.ne_of_gt (Nat.lt_of_lt_of_le (World.block_lt_of_cell? _ _ hH.1) hV.size)
            have gn : w.heap.size ≤ V.heap.size := Nat.le_trans B.size hV.size
            replace B := B.trans (hb.mono B.size)
            replace hD := hD.keep hb; replace hT := hT.keep hb; replace hO := hO.keep hb; replace hR := hR.keep hb; replace hA := hA.keep hb; replace hC := hC.keep hb; replace hE := hE.keep hb; replace hH := hH.keep hb
            clear hb hw hV W
            generalize V.heap.size = bg at *
            clear V
            have gN := hN.1.all4; have qN := hN.2.all4
            have ghH := hH.cells
            have mhD := nhD.symm
            have mhT := nhT.symm
            have mhO := nhO.symm
            have mhR := nhR.symm
            have mhA := nhA.symm
            have mhC := nhC.symm
            have mhE := nhE.symm
            have mhH := nhH.symm
            simp only [List.drop_succ_cons, List.drop_zero, Act.put, List.setIfInBounds_toArray, List.set_cons_zero, List.set_cons_succ]
            go_wp2_with fail
            refine calls_world (fun W => Below w.heap.size w W ∧ Mds W ∧ Thr W w.heap.size x y z ∧ Thr W bo x2 y2 z2 ∧ Bk12 W br ∧ Hold W ba a ∧ Hold W bc c ∧ Hold W be ey ∧ Hold W bh h ∧ Hold W bg r) ⟨below_set4 B gn _ _ _ _, hD.set4 nhD _ _ _ _, hT.set4 nhT _ _ _ _, hO.set4 nhO _ _ _ _, hR.set4 nhR _ _ _ _, hA.set4 nhA _ _ _ _, hC.set4 nhC _ _ _ _, hE.set4 nhE _ _ _ _, hH.set4 nhH _ _ _ _, Hold.sets4 (Blank.has hN)⟩ ?_
            clear B hN gN qN hD hT hO hR hA hC hE hH nhD mhD nhT mhT nhO mhO nhR mhR nhA mhA nhC mhC nhE mhE nhH mhH ghH gn
            rintro W ⟨B, hD, hT, hO, hR, hA, hC, hE, hH, hG⟩
            clear w1
            clear hA
            with_reducible refine (A11.out _ hD).mono ?_
            rintro e w3 ⟨rfl, hb⟩
            replace B := B.trans (hb.mono B.size)
            replace hD := hD.keep hb; replace hT := hT.keep hb; replace hO := hO.keep hb; replace hR := hR.keep hb; replace hC := hC.keep hb; replace hE := hE.keep hb; replace hH := hH.keep hb; replace hG := hG.keep hb
            clear hb W
            have ghH := hH.allocs
            go_wp2_with fail
            refine calls_world (fun W => Below w.heap.size w W ∧ Mds W ∧ Thr W w.heap.size x y z ∧ Thr W bo x2 y2 z2 ∧ Bk12 W br ∧ Hold W bc c ∧ Hold W be ey ∧ Hold W bh h ∧ Hold W bg r ∧ Hold W w3.heap.size k) ⟨B.alloc B.size _, hD.alloc _, hT.alloc _, hO.alloc _, hR.alloc _, hC.alloc _, hE.alloc _, hH.alloc _, hG.alloc _, Hold.new _ _ _⟩ ?_
            clear B hD hT hO hR hC hE hH hG ghH
            rintro W ⟨B, hD, hT, hO, hR, hC, hE, hH, hG, hK⟩
            generalize w3.heap.size = bk at *
            with_reducible refine (A12.out _ hD).mono ?_
            rintro e w4 ⟨rfl, hb⟩
            replace B := B.trans (hb.mono B.size)
            replace hD := hD.keep hb; replace hT := hT.keep hb; replace hO := hO.keep hb; replace hR := hR.keep hb; replace hC := hC.keep hb; replace hE := hE.keep hb; replace hH := hH.keep hb; replace hG := hG.keep hb; replace hK := hK.keep hb
            clear hb W
            have ghC := hC.allocs
            have ghK := hK.allocs
            go_wp2_with fail
            refine calls_world (fun W => Below w.heap.size w W ∧ Mds W ∧ Thr W w.heap.size x y z ∧ Thr W bo x2 y2 z2 ∧ Bk12 W br ∧ Hold W bc c ∧ Hold W be ey ∧ Hold W bh h ∧ Hold W bg r ∧ Hold W bk k ∧ Hold W w4.heap.size m) ⟨B.alloc B.size _, hD.alloc _, hT.alloc _, hO.alloc _, hR.alloc _, hC.alloc _, hE.alloc _, hH.alloc _, hG.alloc _, hK.alloc _, Hold.new _ _ _⟩ ?_
            clear B hD hT hO hR hC hE hH hG hK ghC ghK
            rintro W ⟨B, hD, hT, hO, hR, hC, hE, hH, hG, hK, hM1⟩
            generalize w4.heap.size = bm at *
            with_reducible refine (A13.out _ hD).mono ?_
            rintro e w5 ⟨rfl, hb⟩
            replace B := B.trans (hb.mono B.size)
            replace hD := hD.keep hb; replace hT := hT.keep hb; replace hO := hO.keep hb; replace hR := hR.keep hb; replace hC := hC.keep hb; replace hE := hE.keep hb; replace hH := hH.keep hb; replace hG := hG.keep hb; replace hK := hK.keep hb; replace hM1 := hM1.keep hb
            clear hb W
            go_wp2_with fail
            refine wp_world (fun W => Below w.heap.size w W ∧ Mds W ∧ Thr W w.heap.size x y z ∧ Thr W bo x2 y2 z2 ∧ Bk12 W br ∧ Hold W bc c ∧ Hold W be ey ∧ Hold W bh h ∧ Hold W bg r ∧ Hold W bk k ∧ Hold W bm m ∧ Hold W w5.heap.size q) ⟨B.alloc B.size _, hD.alloc _, hT.alloc _, hO.alloc _, hR.alloc _, hC.alloc _, hE.alloc _, hH.alloc _, hG.alloc _, hK.alloc _, hM1.alloc _, Hold.new _ _ _⟩ ?_
            clear B hD hT hO hR hC hE hH hG hK hM1 
            rintro W ⟨B, hD, hT, hO, hR, hC, hE, hH, hG, hK, hM1, hQ⟩
            generalize w5.heap.size = bq at *
            clear hK hC
            refine alloc_tail (A := ?AA6) 7 (by kernel_rfl) (by kernel_rfl) rfl rfl (alloc_num _ _ _) (fun V hV => ?HH6) (fun V w1 hV hw => ?TT6)
            case HH6 =>
              have hDg : ∀ d os, Mds (grow (redrawn V d) os) := fun d os => (hD.keep hV).keep (below_regrown V d os)
              have ghG := (hG.keep hV).grown
              have ghM1 := (hM1.keep hV).grown
              have ghQ := (hQ.keep hV).grown
              unfold Gr
              simp only [List.take_succ_cons, List.take_zero]
              repeat
                first
                  | go_big_quiet_skip
                  | (go_big_quiet_want; go_big_quiet_op; go_big_quiet_on)
                  | (go_big_quiet_want
                     go_big_quiet_op
                     apply Exists.intro
                     refine ⟨fun p => ?_, ?_⟩
                     · (first | (go_at_call 40; with_reducible exact Calls.regrown_of (A14.out _ (hDg p.d p.os))) | (go_at_call 63; with_reducible exact Calls.regrown_of (A15.out _ (hDg p.d p.os))) | (go_at_call 62; with_reducible exact Calls.regrown_of (A16.out _ (hDg p.d p.os))) | (go_at_call 63; with_reducible exact Calls.regrown_of (A17.out _ (hDg p.d p.os))))
                     go_big_quiet_on)
              refine wpQuiet_nil ?_
              exact rfl
            case TT6 =>
              have hb := alloc_below hV hw
              have hN := (Blank.new rfl).keep hw
              have nhD : V.heap.size ≠ 1 := Nat.ne_of_gt (Nat.lt_of_lt_of_le (hD.lt) hV.size)
              have nhT : V.heap.size ≠ w.heap.size := Nat.ne_of_gt (Nat.lt_of_lt_of_le (hT.lt) hV.size)
              have nhO : V.heap.size ≠ bo := Nat.ne_of_gt (Nat.lt_of_lt_of_le (hO.lt) hV.size)
              have nhR : V.heap.size ≠ br := Nat.ne_of_gt (Nat.lt_of_lt_of_le (hR.lt) hV.size)
              have nhE : V.heap.size ≠ be := Nat.ne_of_gt (Nat.lt_of_lt_of_le (World.block_lt_of_cell? _ _ hE.1) hV.size)
              have nhH : V.heap.size ≠ bh := Nat.ne_of_gt (Nat.lt_of_lt_of_le (World.block_lt_of_cell? _ _ hH.1) hV.size)
              have nhG : V.heap.size ≠ bg := Nat.ne_of_gt (Nat.lt_of_lt_of_le (World.block_lt_of_cell? _ _ hG.1) hV.size)
              have nhM1 : V.heap.size ≠ bm := Nat.ne_of_gt (Nat.lt_of_lt_of_le (World.block_lt_of_cell? _ _ hM1.1) hV.size)
              have nhQ : V.heap.size ≠ bq := Nat.ne_of_gt (Nat.lt_of_lt_of_le (World.block_lt_of_cell? _ _ hQ.1) hV.size)
              have gn : w.heap.size ≤ V.heap.size := Nat.le_trans B.size hV.size
              replace B := B.trans (hb.mono B.size)
              replace hD := hD.keep hb; replace hT := hT.keep hb; replace hO := hO.keep hb; replace hR := hR.keep hb; replace hE := hE.keep hb; replace hH := hH.keep hb; replace hG := hG.keep hb; replace hM1 := hM1.keep hb; replace hQ := hQ.keep hb
              clear hb hw hV W
              generalize V.heap.size = bu at *
              clear V
              have gN := hN.1.all4; have qN := hN.2.all4
              have mhD := nhD.symm
              have mhT := nhT.symm
              have mhO := nhO.symm
              have mhR := nhR.symm
              have mhE := nhE.symm
              have mhH := nhH.symm
              have mhG := nhG.symm
              have mhM1 := nhM1.symm
              have mhQ := nhQ.symm
              simp only [List.drop_succ_cons, List.drop_zero, Act.put, List.setIfInBounds_toArray, List.set_cons_zero, List.set_cons_succ]
              go_wp2_with fail
              refine wp_world (fun W => Below w.heap.size w W ∧ Mds W ∧ Thr W w.heap.size x y z ∧ Thr W bo x2 y2 z2 ∧ Bk12 W br ∧ Hold W be ey ∧ Hold W bh h ∧ Hold W bg r ∧ Hold W bm m ∧ Hold W bq q ∧ Hold W bu X) ⟨below_set4 B gn _ _ _ _, hD.set4 nhD _ _ _ _, hT.set4 nhT _ _ _ _, hO.set4 nhO _ _ _ _, hR.set4 nhR _ _ _ _, hE.set4 nhE _ _ _ _, hH.set4 nhH _ _ _ _, hG.set4 nhG _ _ _ _, hM1.set4 nhM1 _ _ _ _, hQ.set4 nhQ _ _ _ _, Hold.sets4 (Blank.has hN)⟩ ?_
              clear B hN gN qN hD hT hO hR hE hH hG hM1 hQ nhD mhD nhT mhT nhO mhO nhR mhR nhE mhE nhH mhH nhG mhG nhM1 mhM1 nhQ mhQ  gn
              rintro W ⟨B, hD, hT, hO, hR, hE, hH, hG, hM1, hQ, hU⟩
              clear w1
              refine alloc_tail (A := ?AA7) 9 (by kernel_rfl) (by kernel_rfl) rfl rfl (alloc_num _ _ _) (fun V hV => ?HH7) (fun V w1 hV hw => ?TT7)
              case HH7 =>
                have hDg : ∀ d os, Mds (grow (redrawn V d) os) := fun d os => (hD.keep hV).keep (below_regrown V d os)
                have ghE := (hE.keep hV).grown
                have ghG := (hG.keep hV).grown
                have ghM1 := (hM1.keep hV).grown
                have ghQ := (hQ.keep hV).grown
                have ghU := (hU.keep hV).grown
                unfold Gr
                simp only [List.take_succ_cons, List.take_zero]
                repeat
                  first
                    | go_big_quiet_skip
                    | (go_big_quiet_want; go_big_quiet_op; go_big_quiet_on)
                    | (go_big_quiet_want
                       go_big_quiet_op
                       apply Exists.intro
                       refine ⟨fun p => ?_, ?_⟩
                       · (first | (go_at_call 63; with_reducible exact Calls.regrown_of (A18.out _ (hDg p.d p.os))) | (go_at_call 41; with_reducible exact Calls.regrown_of (A19.out _ (hDg p.d p.os))) | (go_at_call 41; with_reducible exact Calls.regrown_of (A20.out _ (hDg p.d p.os))) | (go_at_call 63; with_reducible exact Calls.regrown_of (A21.out _ (hDg p.d p.os))))
                       go_big_quiet_on)
                refine wpQuiet_nil ?_
                exact rfl
              case TT7 =>
                have hb := alloc_below hV hw
                have hN := (Blank.new rfl).keep hw
                have nhD : V.heap.size ≠ 1 := Nat.ne_of_gt (Nat.lt_of_lt_of_le (hD.lt) hV.size)
                have nhT : V.heap.size ≠ w.heap.size := Nat.ne_of_gt (Nat.lt_of_lt_of_le (hT.lt) hV.size)
                have nhO : V.heap.size ≠ bo := Nat.ne_of_gt (Nat.lt_of_lt_of_le (hO.lt) hV.size)
                have nhR : V.heap.size ≠ br := Nat.ne_of_gt (Nat.lt_of_lt_of_le (hR.lt) hV.size)
                have nhE : V.heap.size ≠ be := Nat.ne_of_gt (Nat.lt_of_lt_of_le (World.block_lt_of_cell? _ _ hE.1) hV.size)
                have nhH : V.heap.size ≠ bh := Nat.ne_of_gt (Nat.lt_of_lt_of_le (World.block_lt_of_cell? _ _ hH.1) hV.size)
                have nhG : V.heap.size ≠ bg := Nat.ne_of_gt (Nat.lt_of_lt_of_le (World.block_lt_of_cell? _ _ hG.1) hV.size)
                have nhM1 : V.heap.size ≠ bm := Nat.ne_of_gt (Nat.lt_of_lt_of_le (World.block_lt_of_cell? _ _ hM1.1) hV.size)
                have nhQ : V.heap.size ≠ bq := Nat.ne_of_gt (Nat.lt_of_lt_of_le (World.block_lt_of_cell? _ _ hQ.1) hV.size)
                have nhU : V.heap.size ≠ bu := Nat.ne_of_gt (Nat.lt_of_lt_of_le (World.block_lt_of_cell? _ _ hU.1) hV.size)
                have gn : w.heap.size ≤ V.heap.size := Nat.le_trans B.size hV.size
                replace B := B.trans (hb.mono B.size)
                replace hD := hD.keep hb; replace hT := hT.keep hb; replace hO := hO.keep hb; replace hR := hR.keep hb; replace hE := hE.keep hb; replace hH := hH.keep hb; replace hG := hG.keep hb; replace hM1 := hM1.keep hb; replace hQ := hQ.keep hb; replace hU := hU.keep hb
                clear hb hw hV W
                generalize V.heap.size = bv at *
                clear V
                have gN := hN.1.all4; have qN := hN.2.all4
                have mhD := nhD.symm
                have mhT := nhT.symm
                have mhO := nhO.symm
                have mhR := nhR.symm
                have mhE := nhE.symm
                have mhH := nhH.symm
                have mhG := nhG.symm
                have mhM1 := nhM1.symm
                have mhQ := nhQ.symm
                have mhU := nhU.symm
                simp only [List.drop_succ_cons, List.drop_zero, Act.put, List.setIfInBounds_toArray, List.set_cons_zero, List.set_cons_succ]
                go_wp2_with fail
                refine wp_world (fun W => Below w.heap.size w W ∧ Mds W ∧ Thr W w.heap.size x y z ∧ Thr W bo x2 y2 z2 ∧ Bk12 W br ∧ Hold W be ey ∧ Hold W bh h ∧ Hold W bg r ∧ Hold W bm m ∧ Hold W bq q ∧ Hold W bu X ∧ Hold W bv Y) ⟨below_set4 B gn _ _ _ _, hD.set4 nhD _ _ _ _, hT.set4 nhT _ _ _ _, hO.set4 nhO _ _ _ _, hR.set4 nhR _ _ _ _, hE.set4 nhE _ _ _ _, hH.set4 nhH _ _ _ _, hG.set4 nhG _ _ _ _, hM1.set4 nhM1 _ _ _ _, hQ.set4 nhQ _ _ _ _, hU.set4 nhU _ _ _ _, Hold.sets4 (Blank.has hN)⟩ ?_
                clear B hN gN qN hD hT hO hR hE hH hG hM1 hQ hU nhD mhD nhT mhT nhO mhO nhR mhR nhE mhE nhH mhH nhG mhG nhM1 mhM1 nhQ mhQ nhU mhU  gn
                rintro W ⟨B, hD, hT, hO, hR, hE, hH, hG, hM1, hQ, hU, hV1⟩
                clear w1
                have ghT := hT.grown
                have ghO := hO.grown
                have ghU := hU.grown
                have ghV1 := hV1.grown
                have ghH := hH.grown
                have hDg : ∀ d os, Mds (grow (redrawn W d) os) := fun d os => hD.keep (below_regrown W d os)
                refine below_tail 10 (by kernel_rfl) (by kernel_rfl) ?_
                simp only [List.take_succ_cons, List.take_zero, List.drop_succ_cons, List.drop_zero]
                repeat
                  first
                    | go_big_quiet_skip
                    | (go_big_quiet_want; go_big_quiet_op; go_big_quiet_on)
                    | (go_big_quiet_want
                       go_big_quiet_op
                       apply Exists.intro
                       refine ⟨fun p => ?_, ?_⟩
                       · (first | (go_at_call 41; with_reducible exact Calls.regrown_of (A22.out _ (hDg p.d p.os))) | (go_at_call 41; with_reducible exact Calls.regrown_of (A23.out _ (hDg p.d p.os))))
                       go_big_quiet_on)
                refine wpQuiet_nil ?_
                rintro w6 ⟨p, rfl⟩
                have hb := below_regrown W p.d p.os
                generalize grow (redrawn W p.d) p.os = w6 at *
                replace B := B.trans (hb.mono B.size)
                replace hD := hD.keep hb; replace hT := hT.keep hb; replace hO := hO.keep hb; replace hR := hR.keep hb; replace hE := hE.keep hb; replace hH := hH.keep hb; replace hG := hG.keep hb; replace hM1 := hM1.keep hb; replace hQ := hQ.keep hb; replace hU := hU.keep hb; replace hV1 := hV1.keep hb
                clear hb W ghT ghO ghU ghV1 ghH hDg
                have gR := hR.cells; have fR := hR.free
                go_wp2
                simp [bodyPost, results, Tryz.results34, go_sem, gR]
                repeat (first | with_reducible exact B | with_reducible refine Below.setCell ?_ o3 _)
end Go.Proofs.YtmcodflbngkdcaaGreatDoor

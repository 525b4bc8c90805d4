import Derived.Test.YtncpjgpioajbeaaGreatDoorFBin
import Derived.Test.YtncpjgpioajbeaaGreatDoorFUn
import Derived.Test.YtncpjgpioajbeaaGreatDoorCmp
namespace Go.Proofs.YtncpjgpioajbeaaGreatDoor
open Go.RowKit Go.Sort

set_option maxHeartbeats 2000000 in
theorem cplus_any {x y : Int} (hx : Num x) (hy : Num y) (w : World) (hm : Mds w) :
    Calls Tryz.prog 89 #[.agg #[.int .u64 (l0 x), .int .u64 (l1 x), .int .u64 (l2 x), .int .u64 (l3 x)], .agg #[.int .u64 (l0 y), .int .u64 (l1 y), .int .u64 (l2 y), .int .u64 (l3 y)]] w fun e w' => e = .returned (.agg #[.int .u64 (l0 (modN pN (x + y))), .int .u64 (l1 (modN pN (x + y))), .int .u64 (l2 (modN pN (x + y))), .int .u64 (l3 (modN pN (x + y)))]) ∧ Below w.heap.size w w' := by
  have C : Hid (∀ w, Mds w → Calls Tryz.prog 80 #[.int .i64 0, .agg #[.int .u64 (l0 x), .int .u64 (l1 x), .int .u64 (l2 x), .int .u64 (l3 x)], .agg #[.int .u64 (l0 y), .int .u64 (l1 y), .int .u64 (l2 y), .int .u64 (l3 y)]] w fun e w' => e = .returned (.tuple #[.agg #[.int .u64 (l0 (modN pN (x + y))), .int .u64 (l1 (modN pN (x + y))), .int .u64 (l2 (modN pN (x + y))), .int .u64 (l3 (modN pN (x + y)))], .int .i64 0]) ∧ Below w.heap.size w w') := fun w hm => Add_good kind_p hx hy w hm
  generalize modN pN (x + y) = r at *
  clear hx hy
  go_enter Tryz.func89, Tryz.ntmps89
  go_wp2_with fail
  refine calls_world (fun W => Below w.heap.size w W ∧ Mds W ∧ Blank W (w.heap.size + 1 + 1)) ⟨by repeat (first | with_reducible exact Below.refl _ _ | with_reducible refine Below.alloc ?_ (by first | omega | (simp; done) | (simp; omega)) _), ((hm.alloc _).alloc _).alloc _, Blank.new (by simp)⟩ ?_
  rintro W ⟨B, hD, hR⟩
  have o3 : w.heap.size ≤ w.heap.size + 1 + 1 := by omega
  generalize w.heap.size + 1 + 1 = br at *
  with_reducible refine (C.out _ hD).mono ?_
  rintro e w1 ⟨rfl, hb⟩
  replace B := B.trans (hb.mono B.size)
  replace hR := hR.keep hb
  have lr := hR.1.lt (by simp)
  have nr : w1.heap.size ≠ br := by omega
  have nr' := nr.symm
  clear hb hD W lr
  have gR := fun o => (hR.alloc o).1.all4
  have fR := fun o => (hR.alloc o).2.all4
  have BB : Hid (∀ o, Below w.heap.size w (w1.alloc o)) := fun o => B.alloc B.size o
  clear B hR
  go_wp2
  simp [bodyPost, results, Tryz.results89, go_sem, *]
  repeat (first | with_reducible exact BB.out _ | with_reducible refine Below.drew ?_ | with_reducible refine Below.setCell ?_ (by with_reducible assumption) _)

set_option maxHeartbeats 2000000 in
theorem cminus_any {x y : Int} (hx : Num x) (hy : Num y) (w : World) (hm : Mds w) :
    Calls Tryz.prog 90 #[.agg #[.int .u64 (l0 x), .int .u64 (l1 x), .int .u64 (l2 x), .int .u64 (l3 x)], .agg #[.int .u64 (l0 y), .int .u64 (l1 y), .int .u64 (l2 y), .int .u64 (l3 y)]] w fun e w' => e = .returned (.agg #[.int .u64 (l0 (modN pN (x - y))), .int .u64 (l1 (modN pN (x - y))), .int .u64 (l2 (modN pN (x - y))), .int .u64 (l3 (modN pN (x - y)))]) ∧ Below w.heap.size w w' := by
  have C : Hid (∀ w, Mds w → Calls Tryz.prog 116 #[.int .i64 0, .agg #[.int .u64 (l0 x), .int .u64 (l1 x), .int .u64 (l2 x), .int .u64 (l3 x)], .agg #[.int .u64 (l0 y), .int .u64 (l1 y), .int .u64 (l2 y), .int .u64 (l3 y)]] w fun e w' => e = .returned (.tuple #[.agg #[.int .u64 (l0 (modN pN (x - y))), .int .u64 (l1 (modN pN (x - y))), .int .u64 (l2 (modN pN (x - y))), .int .u64 (l3 (modN pN (x - y)))], .int .i64 0]) ∧ Below w.heap.size w w') := fun w hm => Sub_good kind_p hx hy w hm
  generalize modN pN (x - y) = r at *
  clear hx hy
  go_enter Tryz.func90, Tryz.ntmps90
  go_wp2_with fail
  refine calls_world (fun W => Below w.heap.size w W ∧ Mds W ∧ Blank W (w.heap.size + 1 + 1)) ⟨by repeat (first | with_reducible exact Below.refl _ _ | with_reducible refine Below.alloc ?_ (by first | omega | (simp; done) | (simp; omega)) _), ((hm.alloc _).alloc _).alloc _, Blank.new (by simp)⟩ ?_
  rintro W ⟨B, hD, hR⟩
  have o3 : w.heap.size ≤ w.heap.size + 1 + 1 := by omega
  generalize w.heap.size + 1 + 1 = br at *
  with_reducible refine (C.out _ hD).mono ?_
  rintro e w1 ⟨rfl, hb⟩
  replace B := B.trans (hb.mono B.size)
  replace hR := hR.keep hb
  have lr := hR.1.lt (by simp)
  have nr : w1.heap.size ≠ br := by omega
  have nr' := nr.symm
  clear hb hD W lr
  have gR := fun o => (hR.alloc o).1.all4
  have fR := fun o => (hR.alloc o).2.all4
  have BB : Hid (∀ o, Below w.heap.size w (w1.alloc o)) := fun o => B.alloc B.size o
  clear B hR
  go_wp2
  simp [bodyPost, results, Tryz.results90, go_sem, *]
  repeat (first | with_reducible exact BB.out _ | with_reducible refine Below.drew ?_ | with_reducible refine Below.setCell ?_ (by with_reducible assumption) _)

set_option maxHeartbeats 2000000 in
theorem ctimes_any {x y : Int} (hx : Num x) (hy : Num y) (w : World) (hm : Mds w) :
    Calls Tryz.prog 63 #[.agg #[.int .u64 (l0 x), .int .u64 (l1 x), .int .u64 (l2 x), .int .u64 (l3 x)], .agg #[.int .u64 (l0 y), .int .u64 (l1 y), .int .u64 (l2 y), .int .u64 (l3 y)]] w fun e w' => e = .returned (.agg #[.int .u64 (l0 (modN pN (x * y))), .int .u64 (l1 (modN pN (x * y))), .int .u64 (l2 (modN pN (x * y))), .int .u64 (l3 (modN pN (x * y)))]) ∧ Below w.heap.size w w' := by
  have C : Hid (∀ w, Mds w → Calls Tryz.prog 53 #[.int .i64 0, .agg #[.int .u64 (l0 x), .int .u64 (l1 x), .int .u64 (l2 x), .int .u64 (l3 x)], .agg #[.int .u64 (l0 y), .int .u64 (l1 y), .int .u64 (l2 y), .int .u64 (l3 y)]] w fun e w' => e = .returned (.tuple #[.agg #[.int .u64 (l0 (modN pN (x * y))), .int .u64 (l1 (modN pN (x * y))), .int .u64 (l2 (modN pN (x * y))), .int .u64 (l3 (modN pN (x * y)))], .int .i64 0]) ∧ Below w.heap.size w w') := fun w hm => Mul_good kind_p hx hy w hm
  generalize modN pN (x * y) = r at *
  clear hx hy
  go_enter Tryz.func63, Tryz.ntmps63
  go_wp2_with fail
  refine calls_world (fun W => Below w.heap.size w W ∧ Mds W ∧ Blank W (w.heap.size + 1 + 1)) ⟨by repeat (first | with_reducible exact Below.refl _ _ | with_reducible refine Below.alloc ?_ (by first | omega | (simp; done) | (simp; omega)) _), ((hm.alloc _).alloc _).alloc _, Blank.new (by simp)⟩ ?_
  rintro W ⟨B, hD, hR⟩
  have o3 : w.heap.size ≤ w.heap.size + 1 + 1 := by omega
  generalize w.heap.size + 1 + 1 = br at *
  with_reducible refine (C.out _ hD).mono ?_
  rintro e w1 ⟨rfl, hb⟩
  replace B := B.trans (hb.mono B.size)
  replace hR := hR.keep hb
  have lr := hR.1.lt (by simp)
  have nr : w1.heap.size ≠ br := by omega
  have nr' := nr.symm
  clear hb hD W lr
  have gR := fun o => (hR.alloc o).1.all4
  have fR := fun o => (hR.alloc o).2.all4
  have BB : Hid (∀ o, Below w.heap.size w (w1.alloc o)) := fun o => B.alloc B.size o
  clear B hR
  go_wp2
  simp [bodyPost, results, Tryz.results63, go_sem, *]
  repeat (first | with_reducible exact BB.out _ | with_reducible refine Below.drew ?_ | with_reducible refine Below.setCell ?_ (by with_reducible assumption) _)

set_option maxHeartbeats 2000000 in
theorem csquare_any {x : Int} (hx : Num x) (w : World) (hm : Mds w) :
    Calls Tryz.prog 62 #[.agg #[.int .u64 (l0 x), .int .u64 (l1 x), .int .u64 (l2 x), .int .u64 (l3 x)]] w fun e w' => e = .returned (.agg #[.int .u64 (l0 (modN pN (x * x))), .int .u64 (l1 (modN pN (x * x))), .int .u64 (l2 (modN pN (x * x))), .int .u64 (l3 (modN pN (x * x)))]) ∧ Below w.heap.size w w' := by
  have C : Hid (∀ w, Mds w → Calls Tryz.prog 63 #[.agg #[.int .u64 (l0 x), .int .u64 (l1 x), .int .u64 (l2 x), .int .u64 (l3 x)], .agg #[.int .u64 (l0 x), .int .u64 (l1 x), .int .u64 (l2 x), .int .u64 (l3 x)]] w fun e w' => e = .returned (.agg #[.int .u64 (l0 (modN pN (x * x))), .int .u64 (l1 (modN pN (x * x))), .int .u64 (l2 (modN pN (x * x))), .int .u64 (l3 (modN pN (x * x)))]) ∧ Below w.heap.size w w') := fun w hm => ctimes_any hx hx w hm
  generalize modN pN (x * x) = r at *
  clear hx
  go_enter Tryz.func62, Tryz.ntmps62
  go_wp2_with fail
  refine calls_world (fun W => Below w.heap.size w W ∧ Mds W ∧ Blank W (w.heap.size + 1)) ⟨by repeat (first | with_reducible exact Below.refl _ _ | with_reducible refine Below.alloc ?_ (by first | omega | (simp; done) | (simp; omega)) _), (hm.alloc _).alloc _, Blank.new (by simp)⟩ ?_
  rintro W ⟨B, hD, hR⟩
  have o3 : w.heap.size ≤ w.heap.size + 1 := by omega
  generalize w.heap.size + 1 = br at *
  with_reducible refine (C.out _ hD).mono ?_
  rintro e w1 ⟨rfl, hb⟩
  replace B := B.trans (hb.mono B.size)
  replace hR := hR.keep hb
  clear hb hD W
  have gR := hR.1.all4; have fR := hR.2.all4
  go_wp2
  simp [bodyPost, results, Tryz.results62, go_sem, gR]
  exact below_set4 B o3 _ _ _ _

set_option maxHeartbeats 2000000 in
theorem ctwice_any {x : Int} (hx : Num x) (w : World) (hm : Mds w) :
    Calls Tryz.prog 92 #[.agg #[.int .u64 (l0 x), .int .u64 (l1 x), .int .u64 (l2 x), .int .u64 (l3 x)]] w fun e w' => e = .returned (.agg #[.int .u64 (l0 (modN pN (x + x))), .int .u64 (l1 (modN pN (x + x))), .int .u64 (l2 (modN pN (x + x))), .int .u64 (l3 (modN pN (x + x)))]) ∧ Below w.heap.size w w' := by
  have C : Hid (∀ w, Mds w → Calls Tryz.prog 89 #[.agg #[.int .u64 (l0 x), .int .u64 (l1 x), .int .u64 (l2 x), .int .u64 (l3 x)], .agg #[.int .u64 (l0 x), .int .u64 (l1 x), .int .u64 (l2 x), .int .u64 (l3 x)]] w fun e w' => e = .returned (.agg #[.int .u64 (l0 (modN pN (x + x))), .int .u64 (l1 (modN pN (x + x))), .int .u64 (l2 (modN pN (x + x))), .int .u64 (l3 (modN pN (x + x)))]) ∧ Below w.heap.size w w') := fun w hm => cplus_any hx hx w hm
  generalize modN pN (x + x) = r at *
  clear hx
  go_enter Tryz.func92, Tryz.ntmps92
  go_wp2_with fail
  refine calls_world (fun W => Below w.heap.size w W ∧ Mds W ∧ Blank W (w.heap.size + 1)) ⟨by repeat (first | with_reducible exact Below.refl _ _ | with_reducible refine Below.alloc ?_ (by first | omega | (simp; done) | (simp; omega)) _), (hm.alloc _).alloc _, Blank.new (by simp)⟩ ?_
  rintro W ⟨B, hD, hR⟩
  have o3 : w.heap.size ≤ w.heap.size + 1 := by omega
  generalize w.heap.size + 1 = br at *
  with_reducible refine (C.out _ hD).mono ?_
  rintro e w1 ⟨rfl, hb⟩
  replace B := B.trans (hb.mono B.size)
  replace hR := hR.keep hb
  clear hb hD W
  have gR := hR.1.all4; have fR := hR.2.all4
  go_wp2
  simp [bodyPost, results, Tryz.results92, go_sem, gR]
  exact below_set4 B o3 _ _ _ _

set_option maxHeartbeats 2000000 in
theorem copposite_any {x : Int} (hx : Num x) (w : World) (hm : Mds w) :
    Calls Tryz.prog 50 #[.agg #[.int .u64 (l0 x), .int .u64 (l1 x), .int .u64 (l2 x), .int .u64 (l3 x)]] w fun e w' => e = .returned (.agg #[.int .u64 (l0 (modN pN (0 - x))), .int .u64 (l1 (modN pN (0 - x))), .int .u64 (l2 (modN pN (0 - x))), .int .u64 (l3 (modN pN (0 - x)))]) ∧ Below w.heap.size w w' := by
  have C : Hid (∀ w, Mds w → Calls Tryz.prog 90 #[.agg #[.int .u64 0, .int .u64 0, .int .u64 0, .int .u64 0], .agg #[.int .u64 (l0 x), .int .u64 (l1 x), .int .u64 (l2 x), .int .u64 (l3 x)]] w fun e w' => e = .returned (.agg #[.int .u64 (l0 (modN pN (0 - x))), .int .u64 (l1 (modN pN (0 - x))), .int .u64 (l2 (modN pN (0 - x))), .int .u64 (l3 (modN pN (0 - x)))]) ∧ Below w.heap.size w w') := fun w hm => by
    have := cminus_any (x := 0) ⟨by decide, by decide⟩ hx w hm
    obtain ⟨z0, z1, z2, z3⟩ := zero_limbs
    rw [z0, z1, z2, z3] at this
    exact this
  have bz := build_zero
  generalize modN pN (0 - x) = r at *
  clear hx
  go_enter Tryz.func50, Tryz.ntmps50
  go_wp2_with fail
  refine calls_world (fun W => Below w.heap.size w W ∧ Mds W ∧ Blank W (w.heap.size + 1)) ⟨by repeat (first | with_reducible exact Below.refl _ _ | with_reducible refine Below.alloc ?_ (by first | omega | (simp; done) | (simp; omega)) _), (hm.alloc _).alloc _, Blank.new (by simp)⟩ ?_
  rintro W ⟨B, hD, hR⟩
  have o3 : w.heap.size ≤ w.heap.size + 1 := by omega
  generalize w.heap.size + 1 = br at *
  with_reducible refine (C.out _ hD).mono ?_
  rintro e w1 ⟨rfl, hb⟩
  replace B := B.trans (hb.mono B.size)
  replace hR := hR.keep hb
  clear hb hD W
  have gR := hR.1.all4; have fR := hR.2.all4
  go_wp2
  simp [bodyPost, results, Tryz.results50, go_sem, gR]
  exact below_set4 B o3 _ _ _ _

set_option maxHeartbeats 2000000 in
theorem cbelow_any {x : Int} (hx : Num x) (w : World) (hm : Mds w) :
    Calls Tryz.prog 47 #[.agg #[.int .u64 (l0 x), .int .u64 (l1 x), .int .u64 (l2 x), .int .u64 (l3 x)]] w fun e w' => e = .returned (.bool (decide (x < pN))) ∧ Below w.heap.size w w' := by
  have C := fun w => cmp_any hx fit_p.num w
  have hv : decide (cmpN x pN < 0) = decide (x < pN) := by
    unfold cmpN
    by_cases h' : x = pN
    · rw [h']; simp
    · by_cases h : x < pN <;> simp [h, h']
  have O : Hid (∀ w, Mds w → Calls Tryz.prog 16 #[.int .i64 0] w fun e w' => e = .returned (.tuple #[.agg #[.int .u64 (l0 pN), .int .u64 (l1 pN), .int .u64 (l2 pN), .int .u64 (l3 pN)], .int .i64 0]) ∧ Below w.heap.size w w') := fun w hm => Modulus_good kind_p w hm
  generalize decide (x < pN) = r at *
  generalize cmpN x pN = q at *
  generalize pN = p at *
  clear hx
  go_enter Tryz.func47, Tryz.ntmps47
  go_wp2_with fail
  refine calls_world (fun W => Below w.heap.size w W ∧ Mds W ∧ Hold W w.heap.size x) ⟨by repeat (first | with_reducible exact Below.refl _ _ | with_reducible refine Below.alloc ?_ (by first | omega | (simp; done) | (simp; omega)) _), hm.alloc _, Hold.fresh (by simp)⟩ ?_
  rintro W ⟨B, hD, hX⟩
  with_reducible refine (O.out _ hD).mono ?_
  rintro e w1 ⟨rfl, hb⟩
  replace B := B.trans (hb.mono B.size)
  replace hX := hX.keep hb
  clear hb hD W
  have gX := hX.allocs
  go_wp2_with fail
  refine calls_world (fun W => Below w.heap.size w W) (B.alloc B.size _) ?_
  clear B hX gX
  rintro W B
  with_reducible refine (C _).mono ?_
  rintro e w2 ⟨rfl, hb⟩
  replace B := B.trans (hb.mono B.size)
  clear hb W
  go_wp2
  simp [bodyPost, results, Tryz.results47, go_sem]
  exact B
end Go.Proofs.YtncpjgpioajbeaaGreatDoor

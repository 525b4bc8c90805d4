import Derived.Test.YtmhcgjkemlcgoaaDoorRefLong
import Derived.Test.YtmhcgjkemlcgoaaDoorRef1
import Derived.Test.YtmhcgjkemlcgoaaDoorOut
import Derived.Test.YtmhcgjkemlcgoaaDoorLen
import Derived.Deep.LoopGhost
import Derived.Deep.RegionHeld3
namespace Go.Proofs.YtmhcgjkemlcgoaaDoor
open Go.RowKit Go.Sort

set_option maxHeartbeats 1000000 in
theorem rdivMod_zero {n : Int} (w : World) :
    Calls Tryd.prog 18 #[.agg #[.int .u64 (l0 n), .int .u64 (l1 n), .int .u64 (l2 n), .int .u64 (l3 n)], .agg #[.int .u64 (l0 0), .int .u64 (l1 0), .int .u64 (l2 0), .int .u64 (l3 0)]] w fun e w' => e = .returned (.tuple #[.agg #[.int .u64 (l0 0), .int .u64 (l1 0), .int .u64 (l2 0), .int .u64 (l3 0)], .agg #[.int .u64 (l0 0), .int .u64 (l1 0), .int .u64 (l2 0), .int .u64 (l3 0)], .int .i64 10]) ∧ Below w.heap.size w w' := by
  have he := eq_zero (m := 0) (show Num 0 from ⟨by decide, by decide⟩)
  obtain ⟨z0, z1, z2, z3⟩ := zero_limbs
  rw [z0, z1, z2, z3] at he ⊢
  clear z0 z1 z2 z3
  have hb := build_zero
  go_enter Tryd.func18, Tryd.ntmps18
  go_wp2
  repeat (go_region; go_wp2)
  simp [bodyPost, results, Tryd.results18, go_sem]
  repeat (first | with_reducible exact Below.refl _ _ | with_reducible refine Below.drew ?_ | with_reducible refine Below.alloc ?_ (by first | omega | (simp; done) | (simp; omega)) _)

set_option maxHeartbeats 4000000 in
theorem rdivMod_any {n m : Int} (hn : Num n) (hm : Num m) (hz : m ≠ 0) (w : World) :
    Calls Tryd.prog 18 #[.agg #[.int .u64 (l0 n), .int .u64 (l1 n), .int .u64 (l2 n), .int .u64 (l3 n)], .agg #[.int .u64 (l0 m), .int .u64 (l1 m), .int .u64 (l2 m), .int .u64 (l3 m)]] w fun e w' => e = .returned (.tuple #[.agg #[.int .u64 (l0 (n / m)), .int .u64 (l1 (n / m)), .int .u64 (l2 (n / m)), .int .u64 (l3 (n / m))], .agg #[.int .u64 (l0 (n % m)), .int .u64 (l1 (n % m)), .int .u64 (l2 (n % m)), .int .u64 (l3 (n % m))], .int .i64 0]) ∧ Below w.heap.size w w' := by
  have he := eq_zero hm
  simp only [decide_eq_false hz] at he
  have hb0 := build_zero
  have nq : n / m % 115792089237316195423570985008687907853269984665640564039457584007913129639936 = n / m := Int.emod_eq_of_lt (Int.ediv_nonneg hn.1 hm.1) (Int.lt_of_le_of_lt (Int.ediv_le_self _ hn.1) hn.2)
  have LG : Hid (∀ w, Calls Tryd.prog 24 #[.agg #[.int .u64 0, .int .u64 0, .int .u64 0, .int .u64 0], .agg #[.int .u64 (l0 n), .int .u64 (l1 n), .int .u64 (l2 n), .int .u64 (l3 n)], .agg #[.int .u64 (l0 m), .int .u64 (l1 m), .int .u64 (l2 m), .int .u64 (l3 m)]] w fun e w' => e = .returned (.tuple #[.agg #[.int .u64 (l0 (n / m / 115792089237316195423570985008687907853269984665640564039457584007913129639936)), .int .u64 (l1 (n / m / 115792089237316195423570985008687907853269984665640564039457584007913129639936)), .int .u64 (l2 (n / m / 115792089237316195423570985008687907853269984665640564039457584007913129639936)), .int .u64 (l3 (n / m / 115792089237316195423570985008687907853269984665640564039457584007913129639936))], .agg #[.int .u64 (l0 (n / m)), .int .u64 (l1 (n / m)), .int .u64 (l2 (n / m)), .int .u64 (l3 (n / m))], .agg #[.int .u64 (l0 (n % m)), .int .u64 (l1 (n % m)), .int .u64 (l2 (n % m)), .int .u64 (l3 (n % m))]]) ∧ Below w.heap.size w w') := fun w => by
    have := long_any (h := 0) ⟨by decide, by decide⟩ hn hm hz w
    obtain ⟨z0, z1, z2, z3⟩ := zero_limbs
    rw [z0, z1, z2, z3, Int.zero_mul, Int.add_zero, nq] at this
    exact this
  clear nq
  generalize n / m / 115792089237316195423570985008687907853269984665640564039457584007913129639936 = q1 at *
  generalize n / m = q at *
  generalize n % m = r at *
  clear hn hm
  go_enter Tryd.func18, Tryd.ntmps18
  go_wp2_with fail
  refine calls_world (fun W => Below w.heap.size w W ∧ Blank W (w.heap.size + 1 + 1) ∧ Blank W (w.heap.size + 1 + 1 + 1)) ⟨?_, ((Blank.new (by simp)).alloc _).alloc _, (Blank.new (by simp)).alloc _⟩ ?_
  · repeat (first | with_reducible exact Below.refl _ _ | with_reducible refine Below.alloc ?_ (by first | omega | (simp; done) | (simp; omega)) _)
  rintro W ⟨B, hR, hS⟩
  have o1 : w.heap.size ≤ w.heap.size + 1 + 1 + 1 := by omega
  have o2 : w.heap.size ≤ w.heap.size + 1 + 1 := by omega
  have c1 : w.heap.size + 1 + 1 ≠ w.heap.size + 1 + 1 + 1 := by omega
  generalize w.heap.size + 1 + 1 + 1 = bs at *
  generalize w.heap.size + 1 + 1 = br at *
  with_reducible refine (LG.out _).mono ?_
  rintro e w1 ⟨rfl, hb⟩
  replace B := B.trans (hb.mono B.size)
  replace hR := hR.keep hb; replace hS := hS.keep hb
  clear hb W LG he hb0
  have c2 : br ≠ w1.heap.size + 1 := by have := hR.1.lt (by simp); omega
  have c3 : bs ≠ w1.heap.size + 1 := by have := hS.1.lt (by simp); omega
  have c4 : br ≠ w1.heap.size + 1 + 1 := by have := hR.1.lt (by simp); omega
  have c5 : bs ≠ w1.heap.size + 1 + 1 := by have := hS.1.lt (by simp); omega
  have bz := B.size
  go_wp2_with fail
  refine wp_world (fun W => Below w.heap.size w W ∧ Blank W br ∧ Blank W bs ∧ Hold W (w1.heap.size + 1) q ∧ Hold W (w1.heap.size + 1 + 1) r) ⟨?_, ((hR.alloc _).alloc _).alloc _, ((hS.alloc _).alloc _).alloc _, (Hold.fresh (by simp)).alloc _, Hold.fresh (by simp)⟩ ?_
  · repeat (first | with_reducible exact B | with_reducible refine Below.alloc ?_ (by first | omega | (simp; done) | (simp; omega)) _)
  clear B hR hS bz
  rintro W ⟨B, hR, hS, hQ, hT⟩
  generalize w1.heap.size + 1 + 1 = bt at *
  generalize w1.heap.size + 1 = bq at *
  have gQ := hQ.cells; have gT := hT.cells; have gR := hR.1.all4; have fR := hR.2.all4; have gS := hS.1.all4; have fS := hS.2.all4
  have BB : Hid (Below w.heap.size w W) := B
  clear B hR hS hQ hT
  have c1' := c1.symm; have c2' := c2.symm; have c3' := c3.symm; have c4' := c4.symm; have c5' := c5.symm
  go_region_held3 (fun w' => w'.cell? ⟨bq, 0, none⟩ = some (.int .u64 (l0 q)) ∧ w'.cell? ⟨bq, 1, none⟩ = some (.int .u64 (l1 q)) ∧ w'.cell? ⟨bq, 2, none⟩ = some (.int .u64 (l2 q)) ∧ w'.cell? ⟨bq, 3, none⟩ = some (.int .u64 (l3 q)) ∧ w'.cell? ⟨bt, 0, none⟩ = some (.int .u64 (l0 r)) ∧ w'.cell? ⟨bt, 1, none⟩ = some (.int .u64 (l1 r)) ∧ w'.cell? ⟨bt, 2, none⟩ = some (.int .u64 (l2 r)) ∧ w'.cell? ⟨bt, 3, none⟩ = some (.int .u64 (l3 r))) (((try dsimp only); (repeat' (apply And.intro)); (all_goals repeat (first | with_reducible assumption | (with_reducible refine cell_set ?_ (by with_reducible assumption)) | (simp [go_sem, *]; done))))) (fail)
  all_goals go_wp2
  all_goals simp [bodyPost, results, Tryd.results18, go_sem, *]
  all_goals repeat (first | with_reducible exact BB.out | with_reducible refine Below.drew ?_ | with_reducible refine Below.setCell ?_ (by with_reducible assumption) _)

end Go.Proofs.YtmhcgjkemlcgoaaDoor

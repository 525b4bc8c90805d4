import Derived.Test.YtmegdnalpaddmaaRefLong
import Derived.Test.YtmegdnalpaddmaaRefMul
namespace Go.Proofs.Ytmegdnalpaddmaa
open Go.RowKit Go.Sort

theorem mul_two (h n : Int) : loN h n + hiN h n * 115792089237316195423570985008687907853269984665640564039457584007913129639936 = h * n := by
  unfold loN hiN
  generalize h * n = p
  omega

set_option maxHeartbeats 4000000 in
theorem rdivMod_any {n m : Int} (hn : Num n) (hm : Num m) (hz : m ≠ 0) (w : World) :
    Calls Try.prog 38 #[.agg #[.int .u64 (l0 n), .int .u64 (l1 n), .int .u64 (l2 n), .int .u64 (l3 n)], .agg #[.int .u64 (l0 m), .int .u64 (l1 m), .int .u64 (l2 m), .int .u64 (l3 m)]] w fun e w' => e = .returned (.tuple #[.agg #[.int .u64 (l0 (n / m)), .int .u64 (l1 (n / m)), .int .u64 (l2 (n / m)), .int .u64 (l3 (n / m))], .agg #[.int .u64 (l0 (n % m)), .int .u64 (l1 (n % m)), .int .u64 (l2 (n % m)), .int .u64 (l3 (n % m))], .int .i64 0]) ∧ Below w.heap.size w w' := by
  have he := eq_zero hm
  simp only [decide_eq_false hz] at he
  have hb0 := build_zero
  have nq : n / m % 115792089237316195423570985008687907853269984665640564039457584007913129639936 = n / m := Int.emod_eq_of_lt (Int.ediv_nonneg hn.1 hm.1) (Int.lt_of_le_of_lt (Int.ediv_le_self _ hn.1) hn.2)
  have LG : Hid (∀ w, Calls Try.prog 46 #[.agg #[.int .u64 0, .int .u64 0, .int .u64 0, .int .u64 0], .agg #[.int .u64 (l0 n), .int .u64 (l1 n), .int .u64 (l2 n), .int .u64 (l3 n)], .agg #[.int .u64 (l0 m), .int .u64 (l1 m), .int .u64 (l2 m), .int .u64 (l3 m)]] w fun e w' => e = .returned (.tuple #[.agg #[.int .u64 (l0 (n / m / 115792089237316195423570985008687907853269984665640564039457584007913129639936)), .int .u64 (l1 (n / m / 115792089237316195423570985008687907853269984665640564039457584007913129639936)), .int .u64 (l2 (n / m / 115792089237316195423570985008687907853269984665640564039457584007913129639936)), .int .u64 (l3 (n / m / 115792089237316195423570985008687907853269984665640564039457584007913129639936))], .agg #[.int .u64 (l0 (n / m)), .int .u64 (l1 (n / m)), .int .u64 (l2 (n / m)), .int .u64 (l3 (n / m))], .agg #[.int .u64 (l0 (n % m)), .int .u64 (l1 (n % m)), .int .u64 (l2 (n % m)), .int .u64 (l3 (n % m))]]) ∧ Below w.heap.size w w') := fun w => by
    have := long_any (h := 0) ⟨by decide, by decide⟩ hn hm hz w
    obtain ⟨z0, z1, z2, z3⟩ := zero_limbs
    rw [z0, z1, z2, z3, Int.zero_mul, Int.add_zero, nq] at this
    exact this
  clear nq
  generalize n / m / 115792089237316195423570985008687907853269984665640564039457584007913129639936 = q1 at *
  generalize n / m = q at *
  generalize n % m = r at *
  clear hn hm
  go_enter Try.func38, Try.ntmps38
  go_wp2_with fail
  refine calls_world (fun W => Below w.heap.size w W ∧ Blank W (w.heap.size + 1 + 1) ∧ Blank W (w.heap.size + 1 + 1 + 1)) ⟨?_, ((Blank.new (by simp)).alloc _).alloc _, (Blank.new (by simp)).alloc _⟩ ?_
  · repeat (first | with_reducible exact Below.refl _ _ | with_reducible refine Below.alloc ?_ (by first | omega | (simp; done) | (simp; omega)) _)
  rintro W ⟨B, hR, hS⟩
  have o1 : w.heap.size ≤ w.heap.size + 1 + 1 + 1 := by omega
  have o2 : w.heap.size ≤ w.heap.size + 1 + 1 := by omega
  have c1 : w.heap.size + 1 + 1 ≠ w.heap.size + 1 + 1 + 1 := by omega
  generalize w.heap.size + 1 + 1 + 1 = bs at *
  generalize w.heap.size + 1 + 1 = br at *
  with_reducible refine (LG.out _).mono ?_
  rintro e w1 ⟨rfl, hb⟩
  replace B := B.trans (hb.mono B.size)
  replace hR := hR.keep hb; replace hS := hS.keep hb
  clear hb W LG he hb0
  have c2 : br ≠ w1.heap.size + 1 := by have := hR.1.lt (by simp); omega
  have c3 : bs ≠ w1.heap.size + 1 := by have := hS.1.lt (by simp); omega
  have c4 : br ≠ w1.heap.size + 1 + 1 := by have := hR.1.lt (by simp); omega
  have c5 : bs ≠ w1.heap.size + 1 + 1 := by have := hS.1.lt (by simp); omega
  have bz := B.size
  go_wp2_with fail
  refine wp_world (fun W => Below w.heap.size w W ∧ Blank W br ∧ Blank W bs ∧ Hold W (w1.heap.size + 1) q ∧ Hold W (w1.heap.size + 1 + 1) r) ⟨?_, ((hR.alloc _).alloc _).alloc _, ((hS.alloc _).alloc _).alloc _, (Hold.fresh (by simp)).alloc _, Hold.fresh (by simp)⟩ ?_
  · repeat (first | with_reducible exact B | with_reducible refine Below.alloc ?_ (by first | omega | (simp; done) | (simp; omega)) _)
  clear B hR hS bz
  rintro W ⟨B, hR, hS, hQ, hT⟩
  generalize w1.heap.size + 1 + 1 = bt at *
  generalize w1.heap.size + 1 = bq at *
  have gQ := hQ.cells; have gT := hT.cells; have gR := hR.1.all4; have fR := hR.2.all4; have gS := hS.1.all4; have fS := hS.2.all4
  have BB : Hid (Below w.heap.size w W) := B
  clear B hR hS hQ hT
  have c1' := c1.symm; have c2' := c2.symm; have c3' := c3.symm; have c4' := c4.symm; have c5' := c5.symm
  go_region_held3 (fun w' => w'.cell? ⟨bq, 0, none⟩ = some (.int .u64 (l0 q)) ∧ w'.cell? ⟨bq, 1, none⟩ = some (.int .u64 (l1 q)) ∧ w'.cell? ⟨bq, 2, none⟩ = some (.int .u64 (l2 q)) ∧ w'.cell? ⟨bq, 3, none⟩ = some (.int .u64 (l3 q)) ∧ w'.cell? ⟨bt, 0, none⟩ = some (.int .u64 (l0 r)) ∧ w'.cell? ⟨bt, 1, none⟩ = some (.int .u64 (l1 r)) ∧ w'.cell? ⟨bt, 2, none⟩ = some (.int .u64 (l2 r)) ∧ w'.cell? ⟨bt, 3, none⟩ = some (.int .u64 (l3 r))) (((try dsimp only); (repeat' (apply And.intro)); (all_goals repeat (first | with_reducible assumption | (with_reducible refine cell_set ?_ (by with_reducible assumption)) | (simp [go_sem, *]; done))))) (fail)
  all_goals go_wp2
  all_goals simp [bodyPost, results, Try.results38, go_sem, *]
  all_goals repeat (first | with_reducible exact BB.out | with_reducible refine Below.drew ?_ | with_reducible refine Below.setCell ?_ (by with_reducible assumption) _)

set_option maxHeartbeats 4000000 in
theorem rmulDiv_any {h n m : Int} (hh : Num h) (hn : Num n) (hm : Num m) (hz : m ≠ 0) (w : World) :
    Calls Try.prog 32 #[.agg #[.int .u64 (l0 h), .int .u64 (l1 h), .int .u64 (l2 h), .int .u64 (l3 h)], .agg #[.int .u64 (l0 n), .int .u64 (l1 n), .int .u64 (l2 n), .int .u64 (l3 n)], .agg #[.int .u64 (l0 m), .int .u64 (l1 m), .int .u64 (l2 m), .int .u64 (l3 m)]] w fun e w' => e = .returned (if h * n / m < 115792089237316195423570985008687907853269984665640564039457584007913129639936 then .tuple #[.agg #[.int .u64 (l0 (h * n / m)), .int .u64 (l1 (h * n / m)), .int .u64 (l2 (h * n / m)), .int .u64 (l3 (h * n / m))], .int .i64 0] else .tuple #[.agg #[.int .u64 (l0 0), .int .u64 (l1 0), .int .u64 (l2 0), .int .u64 (l3 0)], .int .i64 11]) ∧ Below w.heap.size w w' := by
  have he := eq_zero hm
  simp only [decide_eq_false hz] at he
  have hb0 := build_zero
  have m0 : 0 < m := by have := hm.1; omega
  have p0 : 0 ≤ h * n / m := Int.ediv_nonneg (Int.mul_nonneg hh.1 hn.1) (by omega)
  have p1 : h * n / m < 115792089237316195423570985008687907853269984665640564039457584007913129639936 * 115792089237316195423570985008687907853269984665640564039457584007913129639936 := by
    have h1 := Int.ediv_le_self m (Int.mul_nonneg hh.1 hn.1)
    have h2 : h * n ≤ 115792089237316195423570985008687907853269984665640564039457584007913129639935 * 115792089237316195423570985008687907853269984665640564039457584007913129639935 := Int.mul_le_mul (by have := hh.2; omega) (by have := hn.2; omega) hn.1 (by decide)
    omega
  have LG : Hid (∀ w, Calls Try.prog 46 #[.agg #[.int .u64 (l0 (hiN h n)), .int .u64 (l1 (hiN h n)), .int .u64 (l2 (hiN h n)), .int .u64 (l3 (hiN h n))], .agg #[.int .u64 (l0 (loN h n)), .int .u64 (l1 (loN h n)), .int .u64 (l2 (loN h n)), .int .u64 (l3 (loN h n))], .agg #[.int .u64 (l0 m), .int .u64 (l1 m), .int .u64 (l2 m), .int .u64 (l3 m)]] w fun e w' => e = .returned (.tuple #[.agg #[.int .u64 (l0 (h * n / m / 115792089237316195423570985008687907853269984665640564039457584007913129639936)), .int .u64 (l1 (h * n / m / 115792089237316195423570985008687907853269984665640564039457584007913129639936)), .int .u64 (l2 (h * n / m / 115792089237316195423570985008687907853269984665640564039457584007913129639936)), .int .u64 (l3 (h * n / m / 115792089237316195423570985008687907853269984665640564039457584007913129639936))], .agg #[.int .u64 (l0 (h * n / m % 115792089237316195423570985008687907853269984665640564039457584007913129639936)), .int .u64 (l1 (h * n / m % 115792089237316195423570985008687907853269984665640564039457584007913129639936)), .int .u64 (l2 (h * n / m % 115792089237316195423570985008687907853269984665640564039457584007913129639936)), .int .u64 (l3 (h * n / m % 115792089237316195423570985008687907853269984665640564039457584007913129639936))], .agg #[.int .u64 (l0 (h * n % m)), .int .u64 (l1 (h * n % m)), .int .u64 (l2 (h * n % m)), .int .u64 (l3 (h * n % m))]]) ∧ Below w.heap.size w w') := fun w => by
    have := long_any (hiN_Num hh hn) (loN_Num h n) hm hz w
    rw [mul_two] at this
    exact this
  have MU : Hid _ := fun w => rmul_any hh hn w
  have NQ : Num (h * n / m / 115792089237316195423570985008687907853269984665640564039457584007913129639936) := ⟨by omega, by omega⟩
  have C : Hid ((h * n / m < 115792089237316195423570985008687907853269984665640564039457584007913129639936 ∧ h * n / m / 115792089237316195423570985008687907853269984665640564039457584007913129639936 = 0 ∧ h * n / m % 115792089237316195423570985008687907853269984665640564039457584007913129639936 = h * n / m) ∨ (¬ h * n / m < 115792089237316195423570985008687907853269984665640564039457584007913129639936 ∧ ¬ h * n / m / 115792089237316195423570985008687907853269984665640564039457584007913129639936 = 0)) := by
    by_cases c : h * n / m < 115792089237316195423570985008687907853269984665640564039457584007913129639936
    · exact .inl ⟨c, by omega, by omega⟩
    · exact .inr ⟨c, by omega⟩
  have eq := eq_zero NQ
  obtain ⟨z0, z1, z2, z3⟩ := zero_limbs
  rw [z0, z1, z2, z3]
  clear m0 p0 p1 NQ z0 z1 z2 z3
  generalize h * n % m = r at *
  generalize h * n / m / 115792089237316195423570985008687907853269984665640564039457584007913129639936 = q1 at *
  generalize h * n / m % 115792089237316195423570985008687907853269984665640564039457584007913129639936 = q0 at *
  generalize h * n / m = q at *
  rcases C.out with ⟨c, e1, e2⟩ | ⟨c, e1⟩
  · rw [decide_eq_true e1] at eq
    rw [if_pos c]
    subst e2
    clear C e1 c
    go_enter Try.func32, Try.ntmps32
    go_wp2_with fail
    refine calls_world (fun W => Below w.heap.size w W ∧ Hold W (w.heap.size + 1 + 1) m ∧ Blank W (w.heap.size + 1 + 1 + 1) ∧ Blank W (w.heap.size + 1 + 1 + 1 + 1)) ⟨?_, ((Hold.fresh (by simp)).alloc _).alloc _, (Blank.new (by simp)).alloc _, Blank.new (by simp)⟩ ?_
    · repeat (first | with_reducible exact Below.refl _ _ | with_reducible refine Below.alloc ?_ (by first | omega | (simp; done) | (simp; omega)) _)
    rintro W ⟨B, hM, hR, hZ⟩
    have o1 : w.heap.size ≤ w.heap.size + 1 + 1 + 1 := by omega
    generalize w.heap.size + 1 + 1 + 1 + 1 = bz at *
    generalize w.heap.size + 1 + 1 + 1 = br at *
    generalize w.heap.size + 1 + 1 = bm at *
    with_reducible refine (MU.out _).mono ?_
    rintro e w1 ⟨rfl, hb⟩
    replace B := B.trans (hb.mono B.size)
    replace hR := hR.keep hb; replace hM := hM.keep hb; replace hZ := hZ.keep hb
    clear hb W MU
    have gM := hM.allocs2
    go_wp2_with fail
    refine calls_world (fun W => Below w.heap.size w W ∧ Blank W br ∧ Blank W bz) ⟨(B.alloc B.size _).alloc (by have := B.size; simp; omega) _, (hR.alloc _).alloc _, (hZ.alloc _).alloc _⟩ ?_
    clear B hR hZ hM gM
    rintro W ⟨B, hR, hZ⟩
    with_reducible refine (LG.out _).mono ?_
    rintro e w2 ⟨rfl, hb⟩
    replace B := B.trans (hb.mono B.size)
    replace hR := hR.keep hb; replace hZ := hZ.keep hb
    clear hb W LG
    have bs := B.size
    have gR := fun o1 o2 o3 => (((hR.alloc o1).alloc o2).alloc o3).1.all4
    have fR := fun o1 o2 o3 => (((hR.alloc o1).alloc o2).alloc o3).2.all4
    have gZ := fun o1 o2 o3 => (((hZ.alloc o1).alloc o2).alloc o3).1.all4
    go_wp2
    repeat (go_region; go_wp2)
    simp [bodyPost, results, Try.results32, go_sem, gR]
    repeat (first | with_reducible exact B | with_reducible refine Below.drew ?_ | with_reducible refine Below.setCell ?_ o1 _ | with_reducible refine Below.alloc ?_ (by first | omega | (simp; omega)) _)
  · rw [decide_eq_false e1] at eq
    rw [if_neg c]
    clear C e1 c
    go_enter Try.func32, Try.ntmps32
    go_wp2_with fail
    refine calls_world (fun W => Below w.heap.size w W ∧ Hold W (w.heap.size + 1 + 1) m ∧ Blank W (w.heap.size + 1 + 1 + 1) ∧ Blank W (w.heap.size + 1 + 1 + 1 + 1)) ⟨?_, ((Hold.fresh (by simp)).alloc _).alloc _, (Blank.new (by simp)).alloc _, Blank.new (by simp)⟩ ?_
    · repeat (first | with_reducible exact Below.refl _ _ | with_reducible refine Below.alloc ?_ (by first | omega | (simp; done) | (simp; omega)) _)
    rintro W ⟨B, hM, hR, hZ⟩
    have o1 : w.heap.size ≤ w.heap.size + 1 + 1 + 1 := by omega
    generalize w.heap.size + 1 + 1 + 1 + 1 = bz at *
    generalize w.heap.size + 1 + 1 + 1 = br at *
    generalize w.heap.size + 1 + 1 = bm at *
    with_reducible refine (MU.out _).mono ?_
    rintro e w1 ⟨rfl, hb⟩
    replace B := B.trans (hb.mono B.size)
    replace hR := hR.keep hb; replace hM := hM.keep hb; replace hZ := hZ.keep hb
    clear hb W MU
    have gM := hM.allocs2
    go_wp2_with fail
    refine calls_world (fun W => Below w.heap.size w W ∧ Blank W br ∧ Blank W bz) ⟨(B.alloc B.size _).alloc (by have := B.size; simp; omega) _, (hR.alloc _).alloc _, (hZ.alloc _).alloc _⟩ ?_
    clear B hR hZ hM gM
    rintro W ⟨B, hR, hZ⟩
    with_reducible refine (LG.out _).mono ?_
    rintro e w2 ⟨rfl, hb⟩
    replace B := B.trans (hb.mono B.size)
    replace hR := hR.keep hb; replace hZ := hZ.keep hb
    clear hb W LG
    have bs := B.size
    have gR := fun o1 o2 o3 => (((hR.alloc o1).alloc o2).alloc o3).1.all4
    have fR := fun o1 o2 o3 => (((hR.alloc o1).alloc o2).alloc o3).2.all4
    have gZ := fun o1 o2 o3 => (((hZ.alloc o1).alloc o2).alloc o3).1.all4
    go_wp2
    repeat (go_region; go_wp2)
    simp [bodyPost, results, Try.results32, go_sem, gR]
    repeat (first | with_reducible exact B | with_reducible refine Below.drew ?_ | with_reducible refine Below.setCell ?_ o1 _ | with_reducible refine Below.alloc ?_ (by first | omega | (simp; omega)) _)

end Go.Proofs.Ytmegdnalpaddmaa

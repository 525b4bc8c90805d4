import Derived.Test.YtjjimkhppoppbabRefExp
import Derived.Test.YtjjimkhppoppbabRefWith
import Derived.Test.YtjjimkhppoppbabRootNum
import Derived.Test.YtjjimkhppoppbabReduce
namespace Go.Proofs.Ytjjimkhppoppbab
open Go.RowKit

theorem root_bits {n s : Int} {i : Nat} (hn : Num n) (hs : IsRoot n s) (hi : i < 128) (r t : Int) (hr : r = s / 2 ^ (i + 1) * 2 ^ (i + 1)) (ht : t = r + 2 ^ i) :
    Num r ∧ r % (2 * 2 ^ i) = 0 ∧ Num t ∧ hiN t t = 0 ∧ ((cmpN (loN t t) n = 1 ∧ s / 2 ^ i * 2 ^ i = r) ∨ ((cmpN (loN t t) n = 0 ∨ cmpN (loN t t) n = -1) ∧ s / 2 ^ i * 2 ^ i = t)) := by
  obtain ⟨n0, n1⟩ := hn; obtain ⟨s0, h1, h2⟩ := hs
  have s1 : s < 340282366920938463463374607431768211456 := by
    by_cases c : s < 340282366920938463463374607431768211456
    · exact c
    · have := Int.mul_le_mul (show 340282366920938463463374607431768211456 ≤ s by omega) (show 340282366920938463463374607431768211456 ≤ s by omega) (by decide) s0
      omega
  have p0 : (0 : Int) < 2 ^ i := Int.pow_pos (by decide)
  have e2 : (2 : Int) ^ (i + 1) = 2 * 2 ^ i := by rw [Int.pow_succ, Int.mul_comm]
  have hd := half_bit s i
  have lo := Int.mul_ediv_self_le (x := s) (k := 2 ^ i) (by omega)
  have hi' := Int.lt_mul_ediv_self_add (x := s) (k := 2 ^ i) p0
  -- 2^128 is a multiple of 2^(i+1)
  obtain ⟨D, eD⟩ : ∃ D : Int, 2 ^ (i + 1) * D = 340282366920938463463374607431768211456 := ⟨2 ^ (127 - i), by rw [← Int.pow_add, show i + 1 + (127 - i) = 128 by omega]; decide⟩
  have a0 : 0 ≤ s / 2 ^ (i + 1) := Int.ediv_nonneg s0 (by omega)
  have aD : s / 2 ^ (i + 1) < D := by
    refine (Int.ediv_lt_iff_lt_mul (by omega)).2 ?_
    rw [Int.mul_comm, eD]; exact s1
  rw [e2] at hr eD
  rw [e2] at a0 aD hd
  generalize hA : s / (2 * 2 ^ i) = A at *
  have tm : t = (2 * A + 1) * 2 ^ i := by rw [ht, hr, Int.add_mul, Int.one_mul, ← Int.mul_assoc, Int.mul_comm A 2]
  have rm : r = 2 * A * 2 ^ i := by rw [hr, ← Int.mul_assoc, Int.mul_comm A 2]
  have tD : t < 340282366920938463463374607431768211456 := by
    have h3 : (2 * A + 1) * 2 ^ i < (2 * D) * 2 ^ i := Int.mul_lt_mul_of_pos_right (by omega) p0
    rw [show 2 * D * 2 ^ i = 2 * 2 ^ i * D by rw [Int.mul_right_comm], eD] at h3
    omega
  have r0 : 0 ≤ r := by rw [rm]; exact Int.mul_nonneg (by omega) (by omega)
  have t0 : 0 ≤ t := by omega
  have tt1 : t * t ≤ 340282366920938463463374607431768211455 * 340282366920938463463374607431768211455 := Int.mul_le_mul (by omega) (by omega) t0 (by decide)
  have tt0 := Int.mul_nonneg t0 t0
  refine ⟨⟨r0, by omega⟩, by rw [hr, Int.mul_emod_left], ⟨t0, by omega⟩, ?_, ?_⟩
  · unfold hiN
    generalize t * t = q at *
    omega
  · have el : loN t t = t * t := by
      unfold loN
      generalize t * t = q at *
      omega
    rw [el]
    by_cases c : t ≤ s
    · right
      have q1 := Int.mul_le_mul c c t0 s0
      refine ⟨?_, ?_⟩
      · unfold cmpN
        by_cases c2 : t * t = n
        · left; rw [if_pos c2]
        · right; rw [if_neg c2, if_pos (by omega)]
      · have : 2 * A + 1 ≤ s / 2 ^ i := (Int.le_ediv_iff_mul_le p0).2 (by rw [← tm]; exact c)
        have e : s / 2 ^ i = 2 * A + 1 := by omega
        rw [e, tm]
    · left
      have q1 := Int.mul_le_mul (show s + 1 ≤ t by omega) (show s + 1 ≤ t by omega) (by omega) t0
      refine ⟨?_, ?_⟩
      · unfold cmpN
        rw [if_neg (by omega), if_neg (by omega)]
      · have : s / 2 ^ i < 2 * A + 1 := (Int.ediv_lt_iff_lt_mul p0).2 (by rw [← tm]; omega)
        have e : s / 2 ^ i = 2 * A := by omega
        rw [e, rm]

set_option maxRecDepth 100000 in
set_option maxHeartbeats 4000000 in
theorem rroot_any {n s : Int} (hn : Num n) (hs : IsRoot n s) (w : World) :
    Calls Try.prog 9 #[.agg #[.int .u64 (l0 n), .int .u64 (l1 n), .int .u64 (l2 n), .int .u64 (l3 n)]] w fun e w' => e = .returned (.agg #[.int .u64 (l0 s), .int .u64 (l1 s), .int .u64 (l2 s), .int .u64 (l3 s)]) ∧ Below w.heap.size w w' := by
  have hb0 := build_zero
  obtain ⟨z0, z1, z2, z3⟩ := zero_limbs
  have ey : ∀ w, (Op.equalIn 10000 24 (.agg #[.int .u64 0, .int .u64 0, .int .u64 0, .int .u64 0]) (.agg #[.int .u64 0, .int .u64 0, .int .u64 0, .int .u64 0])).run Try.prog w = .ok true w := fun w => by
    have := eq_yes (n := 0) w
    rw [z0, z1, z2, z3] at this
    exact this
  go_enter Try.func9, Try.ntmps9
  go_wp2_with fail
  refine wp_world (fun W => Below w.heap.size w W ∧ Hold W w.heap.size n ∧ Blank W (w.heap.size + 1) ∧ Blank W (w.heap.size + 1 + 1)) ⟨?_, ?_, ?_, ?_⟩ ?_
  · repeat (first | with_reducible exact Below.refl _ _ | with_reducible refine Below.alloc ?_ (by first | omega | (simp; done) | (simp; omega)) _)
  · exact ((Hold.new w n _).alloc _).alloc _
  · exact (Blank.new (by simp)).alloc _
  · exact Blank.new (by simp)
  rintro W ⟨B, hX, hR, hP⟩
  have c1 : w.heap.size + 1 + 1 ≠ w.heap.size := by omega
  have c3 : w.heap.size + 1 + 1 ≠ w.heap.size + 1 := by omega
  have o1 : w.heap.size ≤ w.heap.size + 1 := by omega
  have o2 : w.heap.size ≤ w.heap.size + 1 + 1 := by omega
  generalize w.heap.size + 1 + 1 = bp at *
  generalize w.heap.size + 1 = br at *
  have e128 : s / 2 ^ 128 * 2 ^ 128 = 0 := by
    obtain ⟨a, b, c⟩ := hs
    have s1 : s < 340282366920938463463374607431768211456 := by
      by_cases d : s < 340282366920938463463374607431768211456
      · exact d
      · have := Int.mul_le_mul (show 340282366920938463463374607431768211456 ≤ s by omega) (show 340282366920938463463374607431768211456 ≤ s by omega) (by decide) a
        have := hn.2
        omega
    rw [Int.ediv_eq_zero_of_lt a (by rw [show (2 : Int) ^ 128 = 340282366920938463463374607431768211456 by decide]; exact s1), Int.zero_mul]
  have hP0 : Var W bp (s / 2 ^ 128 * 2 ^ 128) := by
    rw [e128]
    refine ⟨Row.hold ?_, hP.2⟩
    rw [z0, z1, z2, z3]
    exact hP.1
  have ZZ : Hid (l0 0 = 0 ∧ l1 0 = 0 ∧ l2 0 = 0 ∧ l3 0 = 0) := ⟨z0, z1, z2, z3⟩
  clear hP e128 z0 z1 z2 z3
  have NN : Hid (Num n ∧ IsRoot n s) := ⟨hn, hs⟩
  clear hs
  go_loopw [4] (fun a wr => ∃ j : Nat, j ≤ 128 ∧ a = .int .i64 ((j : Int) - 1) ∧ Below w.heap.size w wr ∧ Hold wr w.heap.size n ∧ Blank wr br ∧ Var wr bp (s / 2 ^ j * 2 ^ j)) (fun a _ => (intOf a + 1).toNat)
  case atStart => exact ⟨128, by decide, by go_num, B, hX, hR, hP0⟩
  case round =>
    clear B hX hR hP0
    obtain ⟨j, hj, rfl, B, hX, hR, hP⟩ := hrel
    by_cases hz : j = 0
    · subst hz
      rw [show s / 2 ^ 0 * 2 ^ 0 = s by simp] at hP
      have gP := hP.1.cells; have gR := hR.1.all4; have fR := hR.2.all4
      go_wp2
      simp [bodyPost, results, Try.results9, go_sem, gR]
      exact below_set4 B o1 _ _ _ _
    · obtain ⟨i, rfl⟩ : ∃ i, j = i + 1 := ⟨j - 1, by omega⟩
      have e1 : ((i + 1 : Nat) : Int) - 1 = i := by omega
      obtain ⟨nr, mr, nt, ht, hc⟩ := root_bits NN.out.1 NN.out.2 (show i < 128 by omega) _ _ rfl rfl
      have WT : Hid (∀ w, Calls Try.prog 38 #[.agg #[.int .u64 (l0 (s / 2 ^ (i + 1) * 2 ^ (i + 1))), .int .u64 (l1 (s / 2 ^ (i + 1) * 2 ^ (i + 1))), .int .u64 (l2 (s / 2 ^ (i + 1) * 2 ^ (i + 1))), .int .u64 (l3 (s / 2 ^ (i + 1) * 2 ^ (i + 1)))], .int .i64 i] w fun e w' => e = .returned (.agg #[.int .u64 (l0 (s / 2 ^ (i + 1) * 2 ^ (i + 1) + 2 ^ i)), .int .u64 (l1 (s / 2 ^ (i + 1) * 2 ^ (i + 1) + 2 ^ i)), .int .u64 (l2 (s / 2 ^ (i + 1) * 2 ^ (i + 1) + 2 ^ i)), .int .u64 (l3 (s / 2 ^ (i + 1) * 2 ^ (i + 1) + 2 ^ i))]) ∧ Below w.heap.size w w') := fun w => with_high (k := (i : Int)) nr (by omega) (by omega) mr w
      have MT : Hid (∀ w, Calls Try.prog 17 #[.agg #[.int .u64 (l0 (s / 2 ^ (i + 1) * 2 ^ (i + 1) + 2 ^ i)), .int .u64 (l1 (s / 2 ^ (i + 1) * 2 ^ (i + 1) + 2 ^ i)), .int .u64 (l2 (s / 2 ^ (i + 1) * 2 ^ (i + 1) + 2 ^ i)), .int .u64 (l3 (s / 2 ^ (i + 1) * 2 ^ (i + 1) + 2 ^ i))], .agg #[.int .u64 (l0 (s / 2 ^ (i + 1) * 2 ^ (i + 1) + 2 ^ i)), .int .u64 (l1 (s / 2 ^ (i + 1) * 2 ^ (i + 1) + 2 ^ i)), .int .u64 (l2 (s / 2 ^ (i + 1) * 2 ^ (i + 1) + 2 ^ i)), .int .u64 (l3 (s / 2 ^ (i + 1) * 2 ^ (i + 1) + 2 ^ i))]] w fun e w' => e = .returned (.tuple #[.agg #[.int .u64 0, .int .u64 0, .int .u64 0, .int .u64 0], .agg #[.int .u64 (l0 (loN (s / 2 ^ (i + 1) * 2 ^ (i + 1) + 2 ^ i) (s / 2 ^ (i + 1) * 2 ^ (i + 1) + 2 ^ i))), .int .u64 (l1 (loN (s / 2 ^ (i + 1) * 2 ^ (i + 1) + 2 ^ i) (s / 2 ^ (i + 1) * 2 ^ (i + 1) + 2 ^ i))), .int .u64 (l2 (loN (s / 2 ^ (i + 1) * 2 ^ (i + 1) + 2 ^ i) (s / 2 ^ (i + 1) * 2 ^ (i + 1) + 2 ^ i))), .int .u64 (l3 (loN (s / 2 ^ (i + 1) * 2 ^ (i + 1) + 2 ^ i) (s / 2 ^ (i + 1) * 2 ^ (i + 1) + 2 ^ i)))]]) ∧ Below w.heap.size w w') := fun w => by
        have := rmul_any nt nt w
        rw [ht, ZZ.out.1, ZZ.out.2.1, ZZ.out.2.2.1, ZZ.out.2.2.2] at this
        exact this
      have CT : Hid (∀ w, Calls Try.prog 15 #[.agg #[.int .u64 (l0 (loN (s / 2 ^ (i + 1) * 2 ^ (i + 1) + 2 ^ i) (s / 2 ^ (i + 1) * 2 ^ (i + 1) + 2 ^ i))), .int .u64 (l1 (loN (s / 2 ^ (i + 1) * 2 ^ (i + 1) + 2 ^ i) (s / 2 ^ (i + 1) * 2 ^ (i + 1) + 2 ^ i))), .int .u64 (l2 (loN (s / 2 ^ (i + 1) * 2 ^ (i + 1) + 2 ^ i) (s / 2 ^ (i + 1) * 2 ^ (i + 1) + 2 ^ i))), .int .u64 (l3 (loN (s / 2 ^ (i + 1) * 2 ^ (i + 1) + 2 ^ i) (s / 2 ^ (i + 1) * 2 ^ (i + 1) + 2 ^ i)))], .agg #[.int .u64 (l0 n), .int .u64 (l1 n), .int .u64 (l2 n), .int .u64 (l3 n)]] w fun e w' => e = .returned (.int .i64 (cmpN (loN (s / 2 ^ (i + 1) * 2 ^ (i + 1) + 2 ^ i) (s / 2 ^ (i + 1) * 2 ^ (i + 1) + 2 ^ i)) n)) ∧ Below w.heap.size w w') := fun w => rcmp_any (loN_Num _ _) NN.out.1 w
      have HC : Hid ((cmpN (loN (s / 2 ^ (i + 1) * 2 ^ (i + 1) + 2 ^ i) (s / 2 ^ (i + 1) * 2 ^ (i + 1) + 2 ^ i)) n = 1 ∧ s / 2 ^ i * 2 ^ i = s / 2 ^ (i + 1) * 2 ^ (i + 1)) ∨ ((cmpN (loN (s / 2 ^ (i + 1) * 2 ^ (i + 1) + 2 ^ i) (s / 2 ^ (i + 1) * 2 ^ (i + 1) + 2 ^ i)) n = 0 ∨ cmpN (loN (s / 2 ^ (i + 1) * 2 ^ (i + 1) + 2 ^ i) (s / 2 ^ (i + 1) * 2 ^ (i + 1) + 2 ^ i)) n = -1) ∧ s / 2 ^ i * 2 ^ i = s / 2 ^ (i + 1) * 2 ^ (i + 1) + 2 ^ i)) := hc
      clear nr mr nt ht hc
      have ea : Hid (((i + 1 : Nat) : Int) - 1 = i) := e1
      rw [e1]
      clear e1
      generalize s / 2 ^ (i + 1) * 2 ^ (i + 1) + 2 ^ i = t at *
      generalize s / 2 ^ (i + 1) * 2 ^ (i + 1) = r at *
      generalize cmpN (loN t t) n = c at *
      generalize loN t t = tt at *
      have gP := hP.1.cells
      go_wp2_with fail
      with_reducible refine (WT.out _).mono ?_
      rintro e w1 ⟨rfl, hb⟩
      replace B := B.trans (hb.mono B.size)
      replace hX := hX.keep hb; replace hR := hR.keep hb; replace hP := hP.keep hb
      clear hb gP
      go_wp2_with fail
      refine calls_world (fun W => Below w.heap.size w W ∧ Hold W w.heap.size n ∧ Blank W br ∧ Var W bp r ∧ Hold W w1.heap.size t) ⟨B.alloc B.size _, hX.alloc _, hR.alloc _, hP.alloc _, Hold.new _ _ _⟩ ?_
      clear B hX hR hP
      rintro W ⟨B, hX, hR, hP, hT⟩
      generalize w1.heap.size = bt at *
      with_reducible refine (MT.out _).mono ?_
      rintro e w2 ⟨rfl, hb⟩
      replace B := B.trans (hb.mono B.size)
      replace hX := hX.keep hb; replace hR := hR.keep hb; replace hP := hP.keep hb; replace hT := hT.keep hb
      clear hb W
      have gX := hX.allocs2
      go_wp2_with fail
      refine calls_world (fun W => Below w.heap.size w W ∧ Hold W w.heap.size n ∧ Blank W br ∧ Var W bp r ∧ Hold W bt t) ⟨(B.alloc B.size _).alloc (by have := B.size; simp; omega) _, (hX.alloc _).alloc _, (hR.alloc _).alloc _, (hP.alloc _).alloc _, (hT.alloc _).alloc _⟩ ?_
      clear B hX hR hP hT gX
      rintro W ⟨B, hX, hR, hP, hT⟩
      with_reducible refine (CT.out _).mono ?_
      rintro e w3 ⟨rfl, hb⟩
      replace B := B.trans (hb.mono B.size)
      replace hX := hX.keep hb; replace hR := hR.keep hb; replace hP := hP.keep hb; replace hT := hT.keep hb
      clear hb W
      rcases HC.out with ⟨hc, er⟩ | ⟨hc, er⟩
      · subst hc
        have HE : Hid (s / 2 ^ i * 2 ^ i = r) := er
        clear er HC
        go_wp2
        go_roundw
        case rel => exact ⟨i, by omega, by go_num, B, hX, hR, by rw [HE.out]; exact hP⟩
        case measure => first | (simp [intOf]; done) | (simp [intOf]; omega)
      · have HE : Hid (s / 2 ^ i * 2 ^ i = t) := er
        have gT := hT.cells; have gP := hP.1.cells; have fP := hP.2.all4
        clear er HC
        rcases hc with hc | hc
        all_goals
          subst hc
          go_wp2
          go_roundw
          case rel => exact ⟨i, by omega, by go_num, below_set4 B o2 _ _ _ _, hX.set4 c1 _ _ _ _, hR.set4 c3 _ _ _ _, by rw [HE.out]; exact hP.sets _⟩
          case measure => first | (simp [intOf]; done) | (simp [intOf]; omega)

end Go.Proofs.Ytjjimkhppoppbab

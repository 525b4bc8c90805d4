import Derived.Test.YtnokgnhcnhfkpaaDoorUtN
import Derived.Test.YtnokgnhcnhfkpaaDoorLeaf
import Derived.Test.YtnokgnhcnhfkpaaDoorTail
import Derived.Test.YtnokgnhcnhfkpaaDoorQTail
import Derived.Test.YtnokgnhcnhfkpaaDoorVars
import Derived.Test.YtnokgnhcnhfkpaaDoorDiv64
import Derived.Test.YtnokgnhcnhfkpaaDoorQLate
namespace Go.Proofs.YtnokgnhcnhfkpaaDoor
open Go.RowKit Go.Sort

theorem wrap_up {i n : Nat} (h : i < n) (hn : n ≤ 9223372036854775807) : IntKind.i64.wrap ((i : Int) + 1) = (i : Int) + 1 := by
  rw [IntKind.wrap_i64]; omega
theorem get_bt {s : ByteArray} {i : Nat} (h : i < s.size) : ((s[i]'h).toNat : Int) = bt s i := bt_get s i h
set_option maxRecDepth 100000 in
theorem isDigits_any {s : ByteArray} (hs : s.size ≤ 9223372036854775807) (w : World) : Calls Tryd.prog 13 #[.string s] w fun e w' => ((DgA s ∧ s.size ≠ 0 ∧ e = .returned (.bool true)) ∨ (¬ (DgA s ∧ s.size ≠ 0) ∧ e = .returned (.bool false))) ∧ w' = w := by
  have HS : Hid (s.size ≤ 9223372036854775807) := hs
  clear hs
  go_enter Tryd.func13, Tryd.ntmps13
  go_wp2_with fail
  go_loopg [6] s.size (fun k iv wr => ∃ i : Nat, k = s.size - i ∧ i ≤ s.size ∧ iv = .int .i64 (i : Int) ∧ (∀ j, j < i → 48 ≤ bt s j ∧ bt s j ≤ 57) ∧ w = wr)
  case atStart => exact ⟨0, rfl, Nat.zero_le _, rfl, fun j hj => absurd hj (Nat.not_lt_zero _), rfl⟩
  case round =>
    obtain ⟨i, hk, hi, rfl, hall, rfl⟩ := hrel
    have HK : Hid (gk = s.size - i ∧ i ≤ s.size ∧ (∀ j, j < i → 48 ≤ bt s j ∧ bt s j ≤ 57)) := ⟨hk, hi, hall⟩
    clear hk hall hi
    by_cases h8 : i < s.size
    · have hx := get_bt h8
      have hw := wrap_up h8 HS.out
      by_cases c1 : bt s i < 48
      · have q1 : ((s[i]'h8).toNat : Int) < 48 := by rw [hx]; exact c1
        have HN : Hid (¬ DgA s) := fun h => by have := h i h8; omega
        clear hx c1
        go_wp2
        simp [bodyPost, results, Tryd.results13, go_sem]
        exact fun h => absurd h HN.out
      · have q1 : ¬ ((s[i]'h8).toNat : Int) < 48 := by rw [hx]; exact c1
        by_cases c2 : 57 < bt s i
        · have q2 : 57 < ((s[i]'h8).toNat : Int) := by rw [hx]; exact c2
          have HN : Hid (¬ DgA s) := fun h => by have := h i h8; omega
          clear hx c1 c2
          go_wp2
          simp [bodyPost, results, Tryd.results13, go_sem]
          exact fun h => absurd h HN.out
        · have q2 : ¬ 57 < ((s[i]'h8).toNat : Int) := by rw [hx]; exact c2
          have HD : Hid (48 ≤ bt s i ∧ bt s i ≤ 57) := ⟨by omega, by omega⟩
          clear hx c1 c2
          go_wp2
          go_roundg (s.size - (i + 1))
          case measure => have := HK.out.1; omega
          case rel =>
            refine ⟨i + 1, rfl, by omega, by rw [Int.natCast_add]; rfl, fun j hj => ?_, rfl⟩
            by_cases e : j = i
            · subst e; exact HD.out
            · exact HK.out.2.2 j (by omega)
    · have h8' : ¬ ((i : Int) < (s.size : Int)) := by omega
      have HA : Hid (DgA s) := fun j hj => HK.out.2.2 j (by have := HK.out.2.1; omega)
      by_cases hz : s.size = 0
      · have q1 : ¬ (0 < s.size) := by omega
        go_wp2
        simp [bodyPost, results, Tryd.results13, go_sem]
      · have q1 : 0 < s.size := by omega
        go_wp2
        have ha := HA.out
        simp [bodyPost, results, Tryd.results13, go_sem]
        exact ha
/-- x m + a, limb by limb. -/
theorem mul_limb {x m a y0 y1 y2 y3 c0 c1 c2 c3 : Int} (hx : Num x) (w0 : Word y0) (w1 : Word y1) (w2 : Word y2) (w3 : Word y3)
    (e0 : y0 + 18446744073709551616 * c0 = l0 x * m + a + 0) (e1 : y1 + 18446744073709551616 * c1 = l1 x * m + c0 + 0) (e2 : y2 + 18446744073709551616 * c2 = l2 x * m + c1 + 0) (e3 : y3 + 18446744073709551616 * c3 = l3 x * m + c2 + 0) :
    l0 ((x * m + a) % 115792089237316195423570985008687907853269984665640564039457584007913129639936) = y0 ∧ l1 ((x * m + a) % 115792089237316195423570985008687907853269984665640564039457584007913129639936) = y1 ∧ l2 ((x * m + a) % 115792089237316195423570985008687907853269984665640564039457584007913129639936) = y2 ∧ l3 ((x * m + a) % 115792089237316195423570985008687907853269984665640564039457584007913129639936) = y3 ∧ (x * m + a) / 115792089237316195423570985008687907853269984665640564039457584007913129639936 = c3 := by
  have hn := num_l hx
  have e : x * m + a = num y0 y1 y2 y3 + 115792089237316195423570985008687907853269984665640564039457584007913129639936 * c3 := by
    rw [← hn]
    unfold num
    rw [Int.add_mul, Int.add_mul, Int.add_mul, Int.mul_assoc, Int.mul_assoc, Int.mul_assoc]
    omega
  have k := num_Num w0 w1 w2 w3
  obtain ⟨k0, k1⟩ := k
  have r : (x * m + a) % 115792089237316195423570985008687907853269984665640564039457584007913129639936 = num y0 y1 y2 y3 := by rw [e]; omega
  obtain ⟨r0, r1, r2, r3⟩ := limbs_of w0 w1 w2 w3 r
  exact ⟨r0, r1, r2, r3, by rw [e]; omega⟩
set_option maxHeartbeats 4000000 in
theorem mulAddLimb_any {x m a : Int} (hx : Num x) (hm : Word m) (ha : Word a) (w : World) : Calls Tryd.prog 14 #[.agg #[.int .u64 (l0 x), .int .u64 (l1 x), .int .u64 (l2 x), .int .u64 (l3 x)], .int .u64 m, .int .u64 a] w fun e w' => e = .returned (.tuple #[.agg #[.int .u64 (l0 ((x * m + a) % 115792089237316195423570985008687907853269984665640564039457584007913129639936)), .int .u64 (l1 ((x * m + a) % 115792089237316195423570985008687907853269984665640564039457584007913129639936)), .int .u64 (l2 ((x * m + a) % 115792089237316195423570985008687907853269984665640564039457584007913129639936)), .int .u64 (l3 ((x * m + a) % 115792089237316195423570985008687907853269984665640564039457584007913129639936))], .int .u64 ((x * m + a) / 115792089237316195423570985008687907853269984665640564039457584007913129639936)]) ∧ Below w.heap.size w w' := by
  have z : Word 0 := ⟨by decide, by decide⟩
  have hx0 := l0_word x; have hx1 := l1_word x; have hx2 := l2_word x; have hx3 := l3_word x
  have H0 : Hid (∀ w, Calls Tryd.prog 18 #[.int .u64 (l0 x), .int .u64 m, .int .u64 a, .int .u64 0] w fun e w' => e = .returned (.tuple #[.int .u64 (maH (l0 x) m a 0), .int .u64 (maL (l0 x) m a 0)]) ∧ w' = w) := mulAdd_any hx0 hm ha z
  have e0 := ma_eq (l0 x) m a 0
  have z0 := maL_word (l0 x) m a 0
  have k0 := maH_word hx0 hm ha z
  generalize maL (l0 x) m a 0 = y0 at *
  generalize maH (l0 x) m a 0 = c0 at *
  have H1 : Hid (∀ w, Calls Tryd.prog 18 #[.int .u64 (l1 x), .int .u64 m, .int .u64 c0, .int .u64 0] w fun e w' => e = .returned (.tuple #[.int .u64 (maH (l1 x) m c0 0), .int .u64 (maL (l1 x) m c0 0)]) ∧ w' = w) := mulAdd_any hx1 hm k0 z
  have e1 := ma_eq (l1 x) m c0 0
  have z1 := maL_word (l1 x) m c0 0
  have k1 := maH_word hx1 hm k0 z
  generalize maL (l1 x) m c0 0 = y1 at *
  generalize maH (l1 x) m c0 0 = c1 at *
  have H2 : Hid (∀ w, Calls Tryd.prog 18 #[.int .u64 (l2 x), .int .u64 m, .int .u64 c1, .int .u64 0] w fun e w' => e = .returned (.tuple #[.int .u64 (maH (l2 x) m c1 0), .int .u64 (maL (l2 x) m c1 0)]) ∧ w' = w) := mulAdd_any hx2 hm k1 z
  have e2 := ma_eq (l2 x) m c1 0
  have z2 := maL_word (l2 x) m c1 0
  have k2 := maH_word hx2 hm k1 z
  generalize maL (l2 x) m c1 0 = y2 at *
  generalize maH (l2 x) m c1 0 = c2 at *
  have H3 : Hid (∀ w, Calls Tryd.prog 18 #[.int .u64 (l3 x), .int .u64 m, .int .u64 c2, .int .u64 0] w fun e w' => e = .returned (.tuple #[.int .u64 (maH (l3 x) m c2 0), .int .u64 (maL (l3 x) m c2 0)]) ∧ w' = w) := mulAdd_any hx3 hm k2 z
  have e3 := ma_eq (l3 x) m c2 0
  have z3 := maL_word (l3 x) m c2 0
  have k3 := maH_word hx3 hm k2 z
  generalize maL (l3 x) m c2 0 = y3 at *
  generalize maH (l3 x) m c2 0 = c3 at *
  obtain ⟨r0, r1, r2, r3, r4⟩ := mul_limb hx z0 z1 z2 z3 e0 e1 e2 e3
  rw [r0, r1, r2, r3, r4]
  clear r0 r1 r2 r3 r4 e0 e1 e2 e3 z0 z1 z2 z3 k0 k1 k2 k3 hx hm ha z hx0 hx1 hx2 hx3
  generalize l0 x = x0 at *; generalize l1 x = x1 at *; generalize l2 x = x2 at *; generalize l3 x = x3 at *
  go_enter Tryd.func14, Tryd.ntmps14
  go_wp2
  refine wp_loop_rounds 5 ?_
  rw [rounds_succ]; go_wp2_with ((with_reducible refine (H0.out _).mono ?_); rintro e w' ⟨rfl, rfl⟩)
  clear H0
  rw [rounds_succ]; go_wp2_with ((with_reducible refine (H1.out _).mono ?_); rintro e w' ⟨rfl, rfl⟩)
  clear H1
  rw [rounds_succ]; go_wp2_with ((with_reducible refine (H2.out _).mono ?_); rintro e w' ⟨rfl, rfl⟩)
  clear H2
  rw [rounds_succ]; go_wp2_with ((with_reducible refine (H3.out _).mono ?_); rintro e w' ⟨rfl, rfl⟩)
  clear H3
  rw [rounds_succ]; go_wp2
  simp [bodyPost, results, Tryd.results14, go_sem]
  repeat (first | with_reducible exact Below.refl _ _ | with_reducible refine Below.drew ?_ | with_reducible refine Below.alloc ?_ (by first | omega | (simp; done) | (simp; omega)) _ | with_reducible refine Below.setCell ?_ (by first | omega | (simp; done)) _)
theorem div_limb {x d r0 r1 r2 r3 q0 q1 q2 q3 : Int} (hx : Num x) (hd : 0 < d) (k0 : Word q0) (k1 : Word q1) (k2 : Word q2) (k3 : Word q3) (h0 : 0 ≤ r0) (h1 : r0 < d)
    (e3 : l3 x = d * q3 + r3) (e2 : r3 * 18446744073709551616 + l2 x = d * q2 + r2) (e1 : r2 * 18446744073709551616 + l1 x = d * q1 + r1) (e0 : r1 * 18446744073709551616 + l0 x = d * q0 + r0) :
    l0 (x / d) = q0 ∧ l1 (x / d) = q1 ∧ l2 (x / d) = q2 ∧ l3 (x / d) = q3 ∧ x % d = r0 := by
  have hn := num_l hx
  have e : x = r0 + d * num q0 q1 q2 q3 := by
    rw [← hn]
    unfold num
    rw [Int.mul_add, Int.mul_add, Int.mul_add, Int.mul_left_comm, Int.mul_left_comm d, Int.mul_left_comm d]
    omega
  have r : x / d = num q0 q1 q2 q3 := by rw [e, Int.add_mul_ediv_left _ _ (by omega), Int.ediv_eq_zero_of_lt h0 h1, Int.zero_add]
  have r' : x % d = r0 := by rw [e, Int.add_mul_emod_self_left, Int.emod_eq_of_lt h0 h1]
  obtain ⟨a0, a1, a2, a3⟩ := limbs_of k0 k1 k2 k3 r
  exact ⟨a0, a1, a2, a3, r'⟩
/-- One step of the division. -/
theorem div_step {hi lo d : Int} (hh : 0 ≤ hi) (hl : Word lo) (hd : Word d) (h : hi < d) (hn : 9223372036854775808 ≤ d) : ∃ q r : Int, Word q ∧ 0 ≤ r ∧ r < d ∧ hi * 18446744073709551616 + lo = d * q + r ∧ Hid (∀ w, Calls Tryd.prog 19 #[.int .u64 hi, .int .u64 lo, .int .u64 d] w fun e w' => e = .returned (.tuple #[.int .u64 q, .int .u64 r]) ∧ ∃ n, w' = w.drewN n) := by
  obtain ⟨d0, d1⟩ := hd
  obtain ⟨l0, l1⟩ := hl
  refine ⟨_, _, ⟨Int.ediv_nonneg (by omega) d0, Int.ediv_lt_of_lt_mul (by omega) (by omega)⟩, Int.emod_nonneg _ (by omega), Int.emod_lt_of_pos _ (by omega), (Int.mul_ediv_add_emod _ _).symm, fun w => div64_any ⟨hh, by omega⟩ ⟨l0, l1⟩ ⟨d0, d1⟩ h hn w⟩
set_option maxHeartbeats 4000000 in
theorem divLimb_any {x d : Int} (hx : Num x) (hd : Word d) (hn : 9223372036854775808 ≤ d) (w : World) : Calls Tryd.prog 16 #[.agg #[.int .u64 (l0 x), .int .u64 (l1 x), .int .u64 (l2 x), .int .u64 (l3 x)], .int .u64 d] w fun e w' => e = .returned (.tuple #[.agg #[.int .u64 (l0 (x / d)), .int .u64 (l1 (x / d)), .int .u64 (l2 (x / d)), .int .u64 (l3 (x / d))], .int .u64 (x % d)]) ∧ Below w.heap.size w w' := by
  obtain ⟨q3, r3, k3, a3, b3, e3, H3⟩ := div_step (hi := 0) (Int.le_refl _) (l3_word x) hd (by omega) hn
  obtain ⟨q2, r2, k2, a2, b2, e2, H2⟩ := div_step a3 (l2_word x) hd b3 hn
  obtain ⟨q1, r1, k1, a1, b1, e1, H1⟩ := div_step a2 (l1_word x) hd b2 hn
  obtain ⟨q0, r0, k0, a0, b0, e0, H0⟩ := div_step a1 (l0_word x) hd b1 hn
  rw [Int.zero_mul, Int.zero_add] at e3
  obtain ⟨s0, s1, s2, s3, s4⟩ := div_limb hx (by omega) k0 k1 k2 k3 a0 b0 e3 e2 e1 e0
  rw [s0, s1, s2, s3, s4]
  clear e0 e1 e2 e3 s0 s1 s2 s3 s4 a0 a1 a2 a3 b0 b1 b2 b3 k0 k1 k2 k3 hx hd hn
  generalize l0 x = x0 at *; generalize l1 x = x1 at *; generalize l2 x = x2 at *; generalize l3 x = x3 at *
  have HE : Hid (w.heap.size + 1 ≠ w.heap.size ∧ w.heap.size ≤ w.heap.size + 1) := ⟨by omega, by omega⟩
  go_enter Tryd.func16, Tryd.ntmps16
  go_wp2
  refine wp_loop_rounds 5 ?_
  refine rounds_world (fun W => Dgs W (w.heap.size + 1) [0, 0, 0, 0] ∧ Row W w.heap.size [x0, x1, x2, x3] ∧ Below w.heap.size w W) ⟨?_, ?_, ?_⟩ ?_
  · have h := Dgs.new (w.alloc (.cells #[.int .u64 x0, .int .u64 x1, .int .u64 x2, .int .u64 x3] 24)) [0, 0, 0, 0] 24
    simpa using h
  · exact Row.alloc (Row.new w [x0, x1, x2, x3] _) _
  · exact ((Below.refl _ _).alloc (Nat.le_refl _) _).alloc (by simp) _
  intro W3 hS
  have HS3 : Hid ((fun W => Dgs W (w.heap.size + 1) [0, 0, 0, 0] ∧ Row W w.heap.size [x0, x1, x2, x3] ∧ Below w.heap.size w W) W3) := hS
  obtain ⟨hq, hr, hb⟩ := hS
  have c0 := hr 0 (by simp); have c1 := hr 1 (by simp); have c2 := hr 2 (by simp); have c3 := hr 3 (by simp)
  have d0 := hq.1 0 (by simp); have d1 := hq.1 1 (by simp); have d2 := hq.1 2 (by simp); have d3 := hq.1 3 (by simp)
  have f0 := hq.2 0 (by simp); have f1 := hq.2 1 (by simp); have f2 := hq.2 2 (by simp); have f3 := hq.2 3 (by simp)
  have dn : ∀ (n : Nat) (p : Addr), (W3.drewN n).cell? p = W3.cell? p := fun _ _ => rfl
  have df : ∀ (n : Nat) (p : Addr), (W3.drewN n).frozen? p = W3.frozen? p := fun _ _ => rfl
  simp only [List.getD_cons_zero, List.getD_cons_succ] at c0 c1 c2 c3 d0 d1 d2 d3
  clear hq hr hb
  rw [rounds_succ]; go_wp2_with ((with_reducible refine (H3.out _).mono ?_); rintro e w' ⟨rfl, n3, rfl⟩; (have j0 := (dn n3 _).trans d0); (have j1 := (dn n3 _).trans d1); (have j2 := (dn n3 _).trans d2); (have j3 := (dn n3 _).trans d3); (have i0 := (df n3 _).trans f0); (have i1 := (df n3 _).trans f1); (have i2 := (df n3 _).trans f2); (have i3 := (df n3 _).trans f3))
  clear H3 c0 c1 c2 c3 d0 d1 d2 d3 f0 f1 f2 f3 dn df j0 j1 j2 j3 i0 i1 i2 i3
  refine rounds_world (fun W => Dgs W (w.heap.size + 1) [0, 0, 0, q3] ∧ Row W w.heap.size [x0, x1, x2, x3] ∧ Below w.heap.size w W) ⟨?_, ?_, ?_⟩ ?_
  · exact Dgs.set (l := [0, 0, 0, 0]) ⟨HS3.out.1.1.drewN _, HS3.out.1.2.drewN _⟩ 3 (by simp) _
  · exact Row.setOther (HS3.out.2.1.drewN _) HE.out.1 _
  · exact (below_drewN HS3.out.2.2 _).setCell HE.out.2 _
  clear HS3
  intro W2 hS
  have HS2 : Hid ((fun W => Dgs W (w.heap.size + 1) [0, 0, 0, q3] ∧ Row W w.heap.size [x0, x1, x2, x3] ∧ Below w.heap.size w W) W2) := hS
  obtain ⟨hq, hr, hb⟩ := hS
  have c0 := hr 0 (by simp); have c1 := hr 1 (by simp); have c2 := hr 2 (by simp); have c3 := hr 3 (by simp)
  have d0 := hq.1 0 (by simp); have d1 := hq.1 1 (by simp); have d2 := hq.1 2 (by simp); have d3 := hq.1 3 (by simp)
  have f0 := hq.2 0 (by simp); have f1 := hq.2 1 (by simp); have f2 := hq.2 2 (by simp); have f3 := hq.2 3 (by simp)
  have dn : ∀ (n : Nat) (p : Addr), (W2.drewN n).cell? p = W2.cell? p := fun _ _ => rfl
  have df : ∀ (n : Nat) (p : Addr), (W2.drewN n).frozen? p = W2.frozen? p := fun _ _ => rfl
  simp only [List.getD_cons_zero, List.getD_cons_succ] at c0 c1 c2 c3 d0 d1 d2 d3
  clear hq hr hb
  rw [rounds_succ]; go_wp2_with ((with_reducible refine (H2.out _).mono ?_); rintro e w' ⟨rfl, n2, rfl⟩; (have j0 := (dn n2 _).trans d0); (have j1 := (dn n2 _).trans d1); (have j2 := (dn n2 _).trans d2); (have j3 := (dn n2 _).trans d3); (have i0 := (df n2 _).trans f0); (have i1 := (df n2 _).trans f1); (have i2 := (df n2 _).trans f2); (have i3 := (df n2 _).trans f3))
  clear H2 c0 c1 c2 c3 d0 d1 d2 d3 f0 f1 f2 f3 dn df j0 j1 j2 j3 i0 i1 i2 i3
  refine rounds_world (fun W => Dgs W (w.heap.size + 1) [0, 0, q2, q3] ∧ Row W w.heap.size [x0, x1, x2, x3] ∧ Below w.heap.size w W) ⟨?_, ?_, ?_⟩ ?_
  · exact Dgs.set (l := [0, 0, 0, q3]) ⟨HS2.out.1.1.drewN _, HS2.out.1.2.drewN _⟩ 2 (by simp) _
  · exact Row.setOther (HS2.out.2.1.drewN _) HE.out.1 _
  · exact (below_drewN HS2.out.2.2 _).setCell HE.out.2 _
  clear HS2
  intro W1 hS
  have HS1 : Hid ((fun W => Dgs W (w.heap.size + 1) [0, 0, q2, q3] ∧ Row W w.heap.size [x0, x1, x2, x3] ∧ Below w.heap.size w W) W1) := hS
  obtain ⟨hq, hr, hb⟩ := hS
  have c0 := hr 0 (by simp); have c1 := hr 1 (by simp); have c2 := hr 2 (by simp); have c3 := hr 3 (by simp)
  have d0 := hq.1 0 (by simp); have d1 := hq.1 1 (by simp); have d2 := hq.1 2 (by simp); have d3 := hq.1 3 (by simp)
  have f0 := hq.2 0 (by simp); have f1 := hq.2 1 (by simp); have f2 := hq.2 2 (by simp); have f3 := hq.2 3 (by simp)
  have dn : ∀ (n : Nat) (p : Addr), (W1.drewN n).cell? p = W1.cell? p := fun _ _ => rfl
  have df : ∀ (n : Nat) (p : Addr), (W1.drewN n).frozen? p = W1.frozen? p := fun _ _ => rfl
  simp only [List.getD_cons_zero, List.getD_cons_succ] at c0 c1 c2 c3 d0 d1 d2 d3
  clear hq hr hb
  rw [rounds_succ]; go_wp2_with ((with_reducible refine (H1.out _).mono ?_); rintro e w' ⟨rfl, n1, rfl⟩; (have j0 := (dn n1 _).trans d0); (have j1 := (dn n1 _).trans d1); (have j2 := (dn n1 _).trans d2); (have j3 := (dn n1 _).trans d3); (have i0 := (df n1 _).trans f0); (have i1 := (df n1 _).trans f1); (have i2 := (df n1 _).trans f2); (have i3 := (df n1 _).trans f3))
  clear H1 c0 c1 c2 c3 d0 d1 d2 d3 f0 f1 f2 f3 dn df j0 j1 j2 j3 i0 i1 i2 i3
  refine rounds_world (fun W => Dgs W (w.heap.size + 1) [0, q1, q2, q3] ∧ Row W w.heap.size [x0, x1, x2, x3] ∧ Below w.heap.size w W) ⟨?_, ?_, ?_⟩ ?_
  · exact Dgs.set (l := [0, 0, q2, q3]) ⟨HS1.out.1.1.drewN _, HS1.out.1.2.drewN _⟩ 1 (by simp) _
  · exact Row.setOther (HS1.out.2.1.drewN _) HE.out.1 _
  · exact (below_drewN HS1.out.2.2 _).setCell HE.out.2 _
  clear HS1
  intro W0 hS
  have HS0 : Hid ((fun W => Dgs W (w.heap.size + 1) [0, q1, q2, q3] ∧ Row W w.heap.size [x0, x1, x2, x3] ∧ Below w.heap.size w W) W0) := hS
  obtain ⟨hq, hr, hb⟩ := hS
  have c0 := hr 0 (by simp); have c1 := hr 1 (by simp); have c2 := hr 2 (by simp); have c3 := hr 3 (by simp)
  have d0 := hq.1 0 (by simp); have d1 := hq.1 1 (by simp); have d2 := hq.1 2 (by simp); have d3 := hq.1 3 (by simp)
  have f0 := hq.2 0 (by simp); have f1 := hq.2 1 (by simp); have f2 := hq.2 2 (by simp); have f3 := hq.2 3 (by simp)
  have dn : ∀ (n : Nat) (p : Addr), (W0.drewN n).cell? p = W0.cell? p := fun _ _ => rfl
  have df : ∀ (n : Nat) (p : Addr), (W0.drewN n).frozen? p = W0.frozen? p := fun _ _ => rfl
  simp only [List.getD_cons_zero, List.getD_cons_succ] at c0 c1 c2 c3 d0 d1 d2 d3
  clear hq hr hb
  rw [rounds_succ]; go_wp2_with ((with_reducible refine (H0.out _).mono ?_); rintro e w' ⟨rfl, n0, rfl⟩; (have j0 := (dn n0 _).trans d0); (have j1 := (dn n0 _).trans d1); (have j2 := (dn n0 _).trans d2); (have j3 := (dn n0 _).trans d3); (have i0 := (df n0 _).trans f0); (have i1 := (df n0 _).trans f1); (have i2 := (df n0 _).trans f2); (have i3 := (df n0 _).trans f3))
  clear H0 c0 c1 c2 c3 d0 d1 d2 d3 f0 f1 f2 f3 dn df j0 j1 j2 j3 i0 i1 i2 i3
  refine rounds_world (fun W => Dgs W (w.heap.size + 1) [q0, q1, q2, q3] ∧ Row W w.heap.size [x0, x1, x2, x3] ∧ Below w.heap.size w W) ⟨?_, ?_, ?_⟩ ?_
  · exact Dgs.set (l := [0, q1, q2, q3]) ⟨HS0.out.1.1.drewN _, HS0.out.1.2.drewN _⟩ 0 (by simp) _
  · exact Row.setOther (HS0.out.2.1.drewN _) HE.out.1 _
  · exact (below_drewN HS0.out.2.2 _).setCell HE.out.2 _
  clear HS0
  intro W5 hS
  obtain ⟨hq, hr, hb⟩ := hS
  have d0 := hq.1 0 (by simp); have d1 := hq.1 1 (by simp); have d2 := hq.1 2 (by simp); have d3 := hq.1 3 (by simp)
  have f0 := hq.2 0 (by simp); have f1 := hq.2 1 (by simp); have f2 := hq.2 2 (by simp); have f3 := hq.2 3 (by simp)
  simp only [List.getD_cons_zero, List.getD_cons_succ] at d0 d1 d2 d3
  clear hq hr
  rw [rounds_succ]; go_wp2
  simp [bodyPost, results, Tryd.results16, go_sem, d0, d1, d2, d3]
  repeat (first | with_reducible exact hb | with_reducible refine Below.setCell ?_ HE.out.2 _)
theorem p18 : (10 : Int) ^ 18 = 1000000000000000000 := by decide
theorem pow_le10 {m n : Nat} (h : m ≤ n) : (10 : Int) ^ m ≤ 10 ^ n := by
  obtain ⟨k, rfl⟩ : ∃ k, n = m + k := ⟨n - m, by omega⟩
  rw [Int.pow_add]
  have := pow_pos10 k
  have p := pow_pos10 m
  have h4 : (10 : Int) ^ m * 1 ≤ 10 ^ m * 10 ^ k := Int.mul_le_mul_of_nonneg_left this (by omega)
  omega
set_option maxRecDepth 100000 in
theorem value_any {s : ByteArray} (hs : s.size ≤ 19) (hA : DgA s) (w : World) : Calls Tryd.prog 15 #[.string s] w fun e w' => e = .returned (.int .u64 (dc s 0 s.size)) ∧ w' = w := by
  have HS : Hid (s.size ≤ 19 ∧ DgA s) := ⟨hs, hA⟩
  clear hs hA
  go_enter Tryd.func15, Tryd.ntmps15
  go_wp2_with fail
  go_loopg [3, 7] s.size (fun k vv iv wr => ∃ i : Nat, k = s.size - i ∧ i ≤ s.size ∧ iv = .int .i64 (i : Int) ∧ vv = .int .u64 (dc s 0 i) ∧ w = wr)
  case atStart => exact ⟨0, rfl, Nat.zero_le _, rfl, rfl, rfl⟩
  case round =>
    obtain ⟨i, hk, hi, rfl, rfl, rfl⟩ := hrel
    have HK : Hid (gk = s.size - i ∧ i ≤ s.size) := ⟨hk, hi⟩
    clear hk hi
    by_cases h8 : i < s.size
    · have hx := get_bt h8
      have hw := wrap_up h8 (by have := HS.out.1; omega)
      obtain ⟨b1, b2⟩ := HS.out.2 i h8
      have HD : Hid (dc s 0 (i + 1) = dc s 0 i * 10 + (((s[i]'h8).toNat : Int) - 48)) := by rw [hx, dc, Nat.zero_add]; exact rfl
      obtain ⟨d1, d2⟩ := dc_at HS.out.2 (n := i) (by omega)
      have d3 : dc s 0 i < 1000000000000000000 := by
        have := pow_le10 (show i ≤ 18 by have := HS.out.1; omega)
        rw [p18] at this
        omega
      rw [← hx] at b1 b2
      clear hx d2
      generalize dc s 0 i = v at *
      go_wp2
      go_roundg (s.size - (i + 1))
      case measure => have := HK.out.1; omega
      case rel =>
        refine ⟨i + 1, rfl, by omega, by rw [Int.natCast_add]; rfl, ?_, rfl⟩
        rw [HD.out]
    · have h8' : ¬ ((i : Int) < (s.size : Int)) := by omega
      obtain rfl : i = s.size := by have := HK.out.2; omega
      go_wp2
      simp [bodyPost, results, Tryd.results15, go_sem]
end Go.Proofs.YtnokgnhcnhfkpaaDoor

import Derived.Test.YtiebnlahhmngcaaGreatDoorRefNum
import Derived.Test.YtiebnlahhmngcaaGreatDoorLen
import Derived.Test.YtiebnlahhmngcaaGreatDoorHold
namespace Go.Proofs.YtiebnlahhmngcaaGreatDoor
open Go.RowKit Go.Sort

theorem nib_shift {x : Int} (hx : Word x) (s : Nat) : bits .and .u64 (x / 2 ^ s) 15 = ((x.toNat / 2 ^ s % 16 : Nat) : Int) := by
  obtain ⟨n, rfl⟩ := Int.eq_ofNat_of_zero_le hx.1
  have e : ((n : Int) / 2 ^ s) = ((n / 2 ^ s : Nat) : Int) := by rw [Int.natCast_ediv, Int.natCast_pow]; rfl
  have hl : n / 2 ^ s < 18446744073709551616 := Nat.lt_of_le_of_lt (Nat.div_le_self _ _) (by have := hx.2; omega)
  rw [e]
  refine (bits_and_u64_nat _ 15 hl (by decide)).trans ?_
  rw [show (15 : Nat) = 2 ^ 4 - 1 by decide, Nat.and_two_pow_sub_one_eq_mod]
  rfl

set_option maxRecDepth 100000 in
set_option maxHeartbeats 4000000 in
theorem cdigit_0 {b i : Int} (h0 : 0 ≤ i) (h1 : i < 64) (w : World) :
    Calls Tryz.prog 42 #[.agg #[.int .u64 (l0 b), .int .u64 (l1 b), .int .u64 (l2 b), .int .u64 (l3 b)], .int .i64 i] w fun e w' => e = .returned (.int .u64 (digN b i.toNat)) ∧ Below w.heap.size w w' := by
  have q : i.tdiv 64 = 0 := by rw [Int.tdiv_eq_ediv_of_nonneg (by omega)]; omega
  obtain ⟨s, hs⟩ : ∃ s, s = i - 0 := ⟨_, rfl⟩
  have r : i.tmod 64 = s := by rw [Int.tmod_eq_emod_of_nonneg (by omega)]; omega
  have r0 : 0 ≤ s := by omega
  have r1 : s < 64 := by omega
  have hs' : i.toNat / 64 = 0 ∧ i.toNat % 64 = s.toNat := by omega
  clear hs
  go_enter Tryz.func42, Tryz.ntmps42
  go_wp2
  simp [bodyPost, results, Tryz.results42, go_sem]
  refine ⟨?_, (Below.refl _ _).alloc (Nat.le_refl _) _⟩
  have e := nib_shift (l0_word b) s.toNat
  unfold digN
  rw [hs'.1, hs'.2]
  exact e

set_option maxRecDepth 100000 in
set_option maxHeartbeats 4000000 in
theorem cdigit_1 {b i : Int} (h0 : 64 ≤ i) (h1 : i < 128) (w : World) :
    Calls Tryz.prog 42 #[.agg #[.int .u64 (l0 b), .int .u64 (l1 b), .int .u64 (l2 b), .int .u64 (l3 b)], .int .i64 i] w fun e w' => e = .returned (.int .u64 (digN b i.toNat)) ∧ Below w.heap.size w w' := by
  have q : i.tdiv 64 = 1 := by rw [Int.tdiv_eq_ediv_of_nonneg (by omega)]; omega
  obtain ⟨s, hs⟩ : ∃ s, s = i - 64 := ⟨_, rfl⟩
  have r : i.tmod 64 = s := by rw [Int.tmod_eq_emod_of_nonneg (by omega)]; omega
  have r0 : 0 ≤ s := by omega
  have r1 : s < 64 := by omega
  have hs' : i.toNat / 64 = 1 ∧ i.toNat % 64 = s.toNat := by omega
  clear hs
  go_enter Tryz.func42, Tryz.ntmps42
  go_wp2
  simp [bodyPost, results, Tryz.results42, go_sem]
  refine ⟨?_, (Below.refl _ _).alloc (Nat.le_refl _) _⟩
  have e := nib_shift (l1_word b) s.toNat
  unfold digN
  rw [hs'.1, hs'.2]
  exact e

set_option maxRecDepth 100000 in
set_option maxHeartbeats 4000000 in
theorem cdigit_2 {b i : Int} (h0 : 128 ≤ i) (h1 : i < 192) (w : World) :
    Calls Tryz.prog 42 #[.agg #[.int .u64 (l0 b), .int .u64 (l1 b), .int .u64 (l2 b), .int .u64 (l3 b)], .int .i64 i] w fun e w' => e = .returned (.int .u64 (digN b i.toNat)) ∧ Below w.heap.size w w' := by
  have q : i.tdiv 64 = 2 := by rw [Int.tdiv_eq_ediv_of_nonneg (by omega)]; omega
  obtain ⟨s, hs⟩ : ∃ s, s = i - 128 := ⟨_, rfl⟩
  have r : i.tmod 64 = s := by rw [Int.tmod_eq_emod_of_nonneg (by omega)]; omega
  have r0 : 0 ≤ s := by omega
  have r1 : s < 64 := by omega
  have hs' : i.toNat / 64 = 2 ∧ i.toNat % 64 = s.toNat := by omega
  clear hs
  go_enter Tryz.func42, Tryz.ntmps42
  go_wp2
  simp [bodyPost, results, Tryz.results42, go_sem]
  refine ⟨?_, (Below.refl _ _).alloc (Nat.le_refl _) _⟩
  have e := nib_shift (l2_word b) s.toNat
  unfold digN
  rw [hs'.1, hs'.2]
  exact e

set_option maxRecDepth 100000 in
set_option maxHeartbeats 4000000 in
theorem cdigit_3 {b i : Int} (h0 : 192 ≤ i) (h1 : i < 256) (w : World) :
    Calls Tryz.prog 42 #[.agg #[.int .u64 (l0 b), .int .u64 (l1 b), .int .u64 (l2 b), .int .u64 (l3 b)], .int .i64 i] w fun e w' => e = .returned (.int .u64 (digN b i.toNat)) ∧ Below w.heap.size w w' := by
  have q : i.tdiv 64 = 3 := by rw [Int.tdiv_eq_ediv_of_nonneg (by omega)]; omega
  obtain ⟨s, hs⟩ : ∃ s, s = i - 192 := ⟨_, rfl⟩
  have r : i.tmod 64 = s := by rw [Int.tmod_eq_emod_of_nonneg (by omega)]; omega
  have r0 : 0 ≤ s := by omega
  have r1 : s < 64 := by omega
  have hs' : i.toNat / 64 = 3 ∧ i.toNat % 64 = s.toNat := by omega
  clear hs
  go_enter Tryz.func42, Tryz.ntmps42
  go_wp2
  simp [bodyPost, results, Tryz.results42, go_sem]
  refine ⟨?_, (Below.refl _ _).alloc (Nat.le_refl _) _⟩
  have e := nib_shift (l3_word b) s.toNat
  unfold digN
  rw [hs'.1, hs'.2]
  exact e

theorem cdigit_any (b : Int) {i : Int} (h0 : 0 ≤ i) (h1 : i < 256) (w : World) :
    Calls Tryz.prog 42 #[.agg #[.int .u64 (l0 b), .int .u64 (l1 b), .int .u64 (l2 b), .int .u64 (l3 b)], .int .i64 i] w fun e w' => e = .returned (.int .u64 (digN b i.toNat)) ∧ Below w.heap.size w w' := by
  by_cases k1 : i < 64
  · exact cdigit_0 h0 k1 w
  · by_cases k2 : i < 128
    · exact cdigit_1 (by omega) k2 w
    · by_cases k3 : i < 192
      · exact cdigit_2 (by omega) k3 w
      · exact cdigit_3 (by omega) h1 w

theorem bit_shift' {x : Int} (hx : Word x) (s : Nat) : bits .and .u64 (x / 2 ^ s) 1 = ((x.toNat / 2 ^ s % 2 : Nat) : Int) := by
  have := bit_shift (s := (s : Int)) hx
  simp only [Int.toNat_natCast] at this
  rw [this]
  obtain ⟨n, rfl⟩ := Int.eq_ofNat_of_zero_le hx.1
  simp

set_option maxRecDepth 100000 in
set_option maxHeartbeats 4000000 in
theorem ccolumn_any (a : Int) {i : Int} (h0 : 0 ≤ i) (h1 : i < 64) (w : World) :
    Calls Tryz.prog 44 #[.agg #[.int .u64 (l0 a), .int .u64 (l1 a), .int .u64 (l2 a), .int .u64 (l3 a)], .int .i64 i] w fun e w' => e = .returned (.int .u64 (colN a i.toNat)) ∧ Below w.heap.size w w' := by
  have b0 := bit_shift' (l0_word a) i.toNat; have b1 := bit_shift' (l1_word a) i.toNat; have b2 := bit_shift' (l2_word a) i.toNat; have b3 := bit_shift' (l3_word a) i.toNat
  have HB : Hid (colN a i.toNat = (l0 a).toNat / 2 ^ i.toNat % 2 + 2 * ((l1 a).toNat / 2 ^ i.toNat % 2) + 4 * ((l2 a).toNat / 2 ^ i.toNat % 2) + 8 * ((l3 a).toNat / 2 ^ i.toNat % 2)) := rfl
  have c0 := Nat.mod_two_eq_zero_or_one ((l0 a).toNat / 2 ^ i.toNat)
  have c1 := Nat.mod_two_eq_zero_or_one ((l1 a).toNat / 2 ^ i.toNat)
  have c2 := Nat.mod_two_eq_zero_or_one ((l2 a).toNat / 2 ^ i.toNat)
  have c3 := Nat.mod_two_eq_zero_or_one ((l3 a).toNat / 2 ^ i.toNat)
  generalize (l0 a).toNat / 2 ^ i.toNat % 2 = e0 at *
  generalize (l1 a).toNat / 2 ^ i.toNat % 2 = e1 at *
  generalize (l2 a).toNat / 2 ^ i.toNat % 2 = e2 at *
  generalize (l3 a).toNat / 2 ^ i.toNat % 2 = e3 at *
  go_enter Tryz.func44, Tryz.ntmps44
  obtain ⟨s0, s1, s2, s3⟩ : (∀ w, (Instr.index 24 (.agg #[.int .u64 (l0 a), .int .u64 (l1 a), .int .u64 (l2 a), .int .u64 (l3 a)]) (.int .i64 0)).run Tryz.prog w = .ok (.int .u64 (l0 a)) w) ∧ (∀ w, (Instr.index 24 (.agg #[.int .u64 (l0 a), .int .u64 (l1 a), .int .u64 (l2 a), .int .u64 (l3 a)]) (.int .i64 1)).run Tryz.prog w = .ok (.int .u64 (l1 a)) w) ∧ (∀ w, (Instr.index 24 (.agg #[.int .u64 (l0 a), .int .u64 (l1 a), .int .u64 (l2 a), .int .u64 (l3 a)]) (.int .i64 2)).run Tryz.prog w = .ok (.int .u64 (l2 a)) w) ∧ (∀ w, (Instr.index 24 (.agg #[.int .u64 (l0 a), .int .u64 (l1 a), .int .u64 (l2 a), .int .u64 (l3 a)]) (.int .i64 3)).run Tryz.prog w = .ok (.int .u64 (l3 a)) w) := ⟨fun _ => by kernel_rfl, fun _ => by kernel_rfl, fun _ => by kernel_rfl, fun _ => by kernel_rfl⟩
  rcases c0 with rfl | rfl <;> rcases c1 with rfl | rfl <;> rcases c2 with rfl | rfl <;> rcases c3 with rfl | rfl
  all_goals
    go_wp2
    refine wp_loop_rounds 5 ?_
    rw [rounds_succ]; go_wp2
    rw [rounds_succ]; go_wp2
    rw [rounds_succ]; go_wp2
    rw [rounds_succ]; go_wp2
    rw [rounds_succ]; go_wp2
    simp [bodyPost, results, Tryz.results44, go_sem, HB.out]
    exact ⟨by decide, (Below.refl _ _).alloc (Nat.le_refl _) _⟩
end Go.Proofs.YtiebnlahhmngcaaGreatDoor

import Derived.Test.YtdjjphcfobbipaaUbB
import Derived.Test.YtdjjphcfobbipaaUbC
import Derived.Test.YtdjjphcfobbipaaShelf
import Derived.Deep.OwnRows
import Derived.Laws.CopyOwn
/- Layer 7: the head of a list, as both write it. -/
namespace Go.Proofs.Ytdjjphcfobbipaa
open Go.RowKit Go.Sort

/-- A number's bytes, the highest first (of numbers below 2^24). -/
def beN (n : Nat) : List Int := if n < 256 then [(n : Int)] else if n < 65536 then [(n : Int) / 256, (n : Int) % 256] else [(n : Int) / 65536, (n : Int) / 256 % 256, (n : Int) % 256]
/-- A head. -/
def hdR (f : Int) (n : Nat) : List Int := if n ≤ 55 then [f + n] else (f + 55 + (beN n).length) :: beN n
theorem beN_len (n : Nat) : 1 ≤ (beN n).length ∧ (beN n).length ≤ 3 := by
  unfold beN
  split
  · exact ⟨Nat.le_refl 1, by show 1 ≤ 3; decide⟩
  · split
    · exact ⟨by show 1 ≤ 2; decide, by show 2 ≤ 3; decide⟩
    · exact ⟨by show 1 ≤ 3; decide, Nat.le_refl 3⟩
theorem hdR_len (f : Int) (n : Nat) : (hdR f n).length ≤ 4 := by
  unfold hdR
  have := beN_len n
  split
  · exact (by decide : 1 ≤ 4)
  · rw [List.length_cons]; omega
theorem put_at (n : Nat) {t : Nat} (h : t < 32) : (putL (n : Int)).getD t 0 = (n : Int) / 256 ^ (31 - t) % 256 := putL_getD _ h
theorem put_low {n t w : Nat} (hw : n < 256 ^ w) (h : t + w < 32) : (putL (n : Int)).getD t 0 = 0 := by
  rw [put_at n (by omega)]
  have e : ((n : Int) / 256 ^ (31 - t)) = 0 := by
    apply Int.ediv_eq_zero_of_lt (by omega)
    have h1 : 256 ^ w ≤ 256 ^ (31 - t) := Nat.pow_le_pow_right (by decide) (by omega)
    have h2 : n < 256 ^ (31 - t) := Nat.lt_of_lt_of_le hw h1
    have h3 : ((n : Nat) : Int) < ((256 ^ (31 - t) : Nat) : Int) := Int.ofNat_lt.2 h2
    rw [Int.natCast_pow] at h3
    exact h3
  rw [e]; rfl
theorem drop_ext {l m : List Int} {k : Nat} (hl : l.length = k + m.length) (h : ∀ i, i < m.length → l.getD (k + i) 0 = m.getD i 0) : l.drop k = m := by
  refine List.ext_getElem (by rw [List.length_drop]; omega) fun i h1 h2 => ?_
  have := h i h2
  rw [List.getElem_drop]
  rwa [List.getD, List.getD, List.getElem?_eq_getElem (by omega), List.getElem?_eq_getElem h2] at this
theorem strip_be {n : Nat} (h0 : 0 < n) (h1 : n < 16777216) : stripL (putL (n : Int)) = beN n := by
  have hl := putL_len (n : Int)
  have d31 := put_at n (t := 31) (by decide)
  have d30 := put_at n (t := 30) (by decide)
  have d29 := put_at n (t := 29) (by decide)
  simp only [show 31 - 31 = 0 from rfl, show 31 - 30 = 1 from rfl, show 31 - 29 = 2 from rfl, Int.pow_zero, Int.pow_one, show (256 : Int) ^ 2 = 65536 from rfl, Int.ediv_one] at d31 d30 d29
  unfold beN
  by_cases k1 : n < 256
  · rw [if_pos k1]
    rw [strip_zeros 31 _ (fun t ht => put_low (w := 1) (by simpa using k1) (by omega)) (fun _ => by rw [d31]; omega) (by omega)]
    refine drop_ext (by rw [hl]; rfl) fun i hi => ?_
    obtain rfl : i = 0 := by simpa using hi
    rw [d31]; show _ = (n : Int); omega
  · rw [if_neg k1]
    by_cases k2 : n < 65536
    · rw [if_pos k2]
      rw [strip_zeros 30 _ (fun t ht => put_low (w := 2) (by simpa using k2) (by omega)) (fun _ => by rw [d30]; omega) (by omega)]
      refine drop_ext (by rw [hl]; rfl) fun i hi => ?_
      have hi' : i < 2 := hi
      have : i = 0 ∨ i = 1 := by omega
      rcases this with rfl | rfl
      · rw [d30]; show _ = (n : Int) / 256; omega
      · rw [d31]; rfl
    · rw [if_neg k2]
      rw [strip_zeros 29 _ (fun t ht => put_low (w := 3) (by simpa using h1) (by omega)) (fun _ => by rw [d29]; omega) (by omega)]
      refine drop_ext (by rw [hl]; rfl) fun i hi => ?_
      have hi' : i < 3 := hi
      have : i = 0 ∨ i = 1 ∨ i = 2 := by omega
      rcases this with rfl | rfl | rfl
      · rw [d29]; show _ = (n : Int) / 65536; omega
      · rw [d30]; rfl
      · rw [d31]; rfl
theorem bl_le {n k : Nat} (h : n < 2 ^ k) (hk : k ≤ 64) : Lib.bitLen n ≤ k := Lib.bitLen_le n k hk h
theorem bl_ge {n k : Nat} (h : 2 ^ k ≤ n) (hn : n < 2 ^ 64) : k < Lib.bitLen n := by
  have h0 : n ≠ 0 := by have := Nat.one_le_two_pow (n := k); omega
  have := (Lib.bitLenAux_bounds 64 n hn h0).2.2
  have e : n < 2 ^ Lib.bitLen n := this
  exact (Nat.pow_lt_pow_iff_right (by decide : 1 < 2)).1 (Nat.lt_of_le_of_lt h e)
theorem lsize {n : Nat} (h0 : 0 < n) (h1 : n < 16777216) : (Lib.bitLen n + 7) / 8 = (beN n).length := by
  unfold beN
  have a0 := bl_ge (k := 0) (n := n) (by rw [Nat.pow_zero]; exact h0) (by omega)
  by_cases k1 : n < 256
  · rw [if_pos k1]
    have a1 := bl_le (k := 8) (n := n) (by simpa using k1) (by decide)
    show _ = 1
    omega
  · rw [if_neg k1]
    have a1 := bl_ge (k := 8) (n := n) (by simp; omega) (by omega)
    by_cases k2 : n < 65536
    · rw [if_pos k2]
      have a2 := bl_le (k := 16) (n := n) (by simpa using k2) (by decide)
      show _ = 2
      omega
    · rw [if_neg k2]
      have a2 := bl_ge (k := 16) (n := n) (by simp; omega) (by omega)
      have a3 := bl_le (k := 24) (n := n) (by simpa using h1) (by decide)
      show _ = 3
      omega
theorem lengthSize_any {n : Nat} (h0 : 0 < n) (h1 : n < 16777216) (w : World) :
    Calls Try.prog 75 #[.int .i64 (n : Int)] w fun e w' => e = .returned (.int .i64 ((beN n).length : Int)) ∧ w' = w := by
  have c := Try.bits_Len (n : Int)
  have e := lsize h0 h1
  have hb := bl_le (k := 24) (n := n) (by simpa using h1) (by decide)
  have e2 : ((Lib.bitLen n : Int) + 7).tdiv 8 = ((beN n).length : Int) := by
    rw [Int.tdiv_eq_ediv_of_nonneg (by omega)]; omega
  have e3 : ((Lib.bitLen n : Int) + 7) / 8 = ((beN n).length : Int) := by omega
  have c2 : ∀ w, Calls Try.prog 79 #[.int .u64 (n : Int)] w fun e w' => e = .returned (.int .i64 (Lib.bitLen n : Int)) ∧ w' = w := fun w => by
    have := c w (by omega) (by omega)
    rwa [Int.toNat_natCast] at this
  have hn1 : (n : Int) < 16777216 := by omega
  have hb' : (Lib.bitLen n : Int) ≤ 24 := by omega
  clear e c hb
  generalize Lib.bitLen n = bl at *
  generalize (beN n).length = r at *
  go_enter Try.func75, Try.ntmps75
  go_wp2_with ((with_reducible refine (c2 _).mono ?_); rintro e1 w1 ⟨rfl, hw⟩; (rw [hw]); (clear hw w1))
  simp [bodyPost, results, Try.results75, go_sem]
  all_goals first | exact e3 | exact e2 | omega
theorem headSize_any {n : Nat} (h1 : n < 16777216) (w : World) :
    Calls Try.prog 68 #[.int .i64 (n : Int)] w fun e w' => e = .returned (.int .i64 ((hdR 192 n).length : Int)) ∧ w' = w := by
  by_cases k : n ≤ 55
  · have hk : (n : Int) ≤ 55 := by omega
    have e : (hdR 192 n).length = 1 := by unfold hdR; rw [if_pos k]; rfl
    rw [e]
    go_enter Try.func68, Try.ntmps68
    go_wp2
    simp [bodyPost, results, Try.results68, go_sem]
  · have hk : ¬ ((n : Int) ≤ 55) := by omega
    have c := lengthSize_any (n := n) (by omega) h1
    have e : (hdR 192 n).length = (beN n).length + 1 := by unfold hdR; rw [if_neg k]; rfl
    have hl := (beN_len n).2
    have hl' : ((beN n).length : Int) ≤ 3 := by omega
    rw [e]
    generalize (beN n).length = r at *
    clear e hl
    go_enter Try.func68, Try.ntmps68
    go_wp2_with ((with_reducible refine (c _).mono ?_); rintro e1 w1 ⟨rfl, hw⟩; (rw [hw]); (clear hw w1))
    simp [bodyPost, results, Try.results68, go_sem]
    omega
end Go.Proofs.Ytdjjphcfobbipaa

import Derived.Test.YtnokgnhcnhfkpaaDoorUbE
/- Bytes there and back: plain numbers; Get and Strict of any slice. -/
namespace Go.Proofs.YtnokgnhcnhfkpaaDoor
open Go.RowKit Go.Sort

theorem p256 (k : Nat) : (1 : Int) ≤ 256 ^ k := by
  induction k with
  | zero => decide
  | succ k ih => rw [Int.pow_succ]; omega
theorem suf_putU (n : Int) : ∀ i : Nat, i ≤ 32 → sufN (putL n) i = n % 256 ^ i
  | 0, _ => by rw [sufN]; simp [Int.emod_one]
  | i + 1, h => by
    rw [sufN, suf_putU n i (by omega), putL_len, putL_getD n (by omega), show 31 - (32 - 1 - i) = i by omega, Int.pow_succ]
    have p := p256 i
    have e1 : n / (256 ^ i * 256) = n / 256 ^ i / 256 := (Int.ediv_ediv_of_nonneg (by omega)).symm
    have h1 := Int.mul_ediv_add_emod n (256 ^ i)
    have h2 := Int.mul_ediv_add_emod n (256 ^ i * 256)
    have h3 := Int.mul_ediv_add_emod (n / 256 ^ i) 256
    rw [e1] at h2
    generalize n / 256 ^ i / 256 = q at *
    generalize n / 256 ^ i % 256 = r at *
    have h4 : (256 : Int) ^ i * (256 * q + r) = 256 ^ i * 256 * q + r * 256 ^ i := by rw [Int.mul_add, Int.mul_assoc, Int.mul_comm r]
    rw [h3] at h4
    omega
theorem put_bytsU (n : Int) : Byts (putL n) := fun i => by
  by_cases h : i < 32
  · rw [putL_getD n h]; exact ⟨Int.emod_nonneg _ (by decide), Int.emod_lt_of_pos _ (by decide)⟩
  · rw [List.getD, List.getElem?_eq_none (by rw [putL_len]; omega)]
    exact ⟨by decide, by decide⟩
theorem put_get {n : Int} (h : Num n) : gv (putL n) = n ∧ ge (putL n) = 0 := by
  have e : (256 : Int) ^ 32 = 115792089237316195423570985008687907853269984665640564039457584007913129639936 := by decide +kernel
  have hl := putL_len n
  refine ⟨?_, by rw [ge, if_pos (by omega)]⟩
  rw [gv, if_pos (by omega), hl, suf_putU n 32 (Nat.le_refl _), e]
  exact Int.emod_eq_of_lt h.1 h.2
theorem suf_drop (l : List Int) (k : Nat) : ∀ i : Nat, i ≤ l.length - k → sufN (l.drop k) i = sufN l i
  | 0, _ => rfl
  | i + 1, h => by
    rw [sufN, sufN, suf_drop l k i (by omega), List.length_drop]
    congr 2
    simp only [List.getD, List.getElem?_drop]
    rw [show k + (l.length - k - 1 - i) = l.length - 1 - i by omega]
theorem drop_bytsU {l : List Int} (h : Byts l) (k : Nat) : Byts (l.drop k) := fun i => by
  have := h (k + i)
  simpa [List.getD, List.getElem?_drop] using this
theorem strip_byts {n : Int} (h : Num n) : Byts (stripL (putL n)) ∧ (stripL (putL n)).length ≤ 32 ∧ sv (stripL (putL n)) = n ∧ se (stripL (putL n)) = 0 := by
  by_cases h0 : n = 0
  · rw [h0, strip_zero]
    refine ⟨fun i => by simp, by simp, ?_, ?_⟩
    · rw [sv, if_pos (by simp), if_neg (by simp)]; rfl
    · rw [se, if_pos (by simp), if_neg (by simp)]
  · have hp : 0 < n := by have := h.1; omega
    obtain ⟨s0, s1, _, s3, s4⟩ := siz_facts h hp
    rw [strip_put h hp]
    have hl : ((putL n).drop (32 - sizN n)).length = sizN n := by rw [List.length_drop, putL_len]; omega
    have hz : ((putL n).drop (32 - sizN n)).getD 0 0 ≠ 0 := by
      have e : ((putL n).drop (32 - sizN n)).getD 0 0 = (putL n).getD (32 - sizN n) 0 := by simp [List.getD, List.getElem?_drop]
      rw [e, putL_getD n (by omega), show 31 - (32 - sizN n) = sizN n - 1 by omega]
      have p := p256 (sizN n - 1)
      have hq : n / 256 ^ (sizN n - 1) < 256 := by
        apply Int.ediv_lt_of_lt_mul (by omega)
        have : (256 : Int) ^ sizN n = 256 * 256 ^ (sizN n - 1) := by rw [Int.mul_comm, ← Int.pow_succ]; congr 1; omega
        omega
      have hq2 : 1 ≤ n / 256 ^ (sizN n - 1) := (Int.le_ediv_iff_mul_le (by omega)).2 (by omega)
      omega
    have hne : ¬ ((putL n).drop (32 - sizN n) ≠ [] ∧ ((putL n).drop (32 - sizN n)).getD 0 0 = 0) := fun q => hz q.2
    refine ⟨drop_bytsU (put_bytsU n) _, by omega, ?_, ?_⟩
    · rw [sv, if_pos (by omega), if_neg hne, hl, suf_drop _ _ _ (by rw [putL_len]; omega), suf_putU n _ s1]
      exact Int.emod_eq_of_lt h.1 s4
    · rw [se, if_pos (by omega), if_neg hne]
theorem suf_digit {X : List Int} (hX : Byts X) : ∀ (i j : Nat), i ≤ X.length → j < i → sufN X i / 256 ^ j % 256 = X.getD (X.length - 1 - j) 0
  | i + 1, j, hi, hj => by
    obtain ⟨a, b⟩ := sufN_bound hX i
    obtain ⟨c, d⟩ := hX (X.length - 1 - i)
    have p := p256 j
    rw [sufN]
    by_cases e : j = i
    · subst e
      rw [Int.add_mul_ediv_right _ _ (by omega), Int.ediv_eq_zero_of_lt a b, Int.zero_add]
      exact Int.emod_eq_of_lt c d
    · have e2 : (256 : Int) ^ i = 256 ^ j * (256 * 256 ^ (i - 1 - j)) := by
        rw [Int.mul_comm 256, ← Int.pow_succ, ← Int.pow_add]; congr 1; omega
      rw [e2, ← Int.mul_assoc, Int.mul_comm _ (256 ^ j), Int.mul_assoc, Int.add_mul_ediv_left _ _ (by omega), ← Int.mul_assoc, Int.mul_comm _ 256, Int.mul_assoc, Int.add_mul_emod_self_left]
      exact suf_digit hX i j (by omega) (by omega)
theorem suf_numU {X : List Int} (hX : Byts X) (hl : X.length ≤ 32) : Num (sufN X X.length) := by
  obtain ⟨a, b⟩ := sufN_bound hX X.length
  refine ⟨a, Int.lt_of_lt_of_le b ?_⟩
  have e : (256 : Int) ^ 32 = 115792089237316195423570985008687907853269984665640564039457584007913129639936 := by decide +kernel
  rw [← e]
  obtain ⟨k, hk⟩ : ∃ k, 32 = X.length + k := ⟨32 - X.length, by omega⟩
  rw [hk, Int.pow_add]
  have p := p256 X.length
  have q := p256 k
  have : (256 : Int) ^ X.length * 1 ≤ 256 ^ X.length * 256 ^ k := Int.mul_le_mul_of_nonneg_left q (by omega)
  omega
/-- What Strict takes, Bytes writes. -/
theorem strict_back {X : List Int} (hX : Byts X) (he : se X = 0) : Num (sv X) ∧ stripL (putL (sv X)) = X := by
  by_cases hl : X.length ≤ 32
  · by_cases hz : X ≠ [] ∧ X.getD 0 0 = 0
    · rw [se, if_pos hl, if_pos hz] at he; cases he
    · rw [sv, if_pos hl, if_neg hz]
      refine ⟨suf_numU hX hl, ?_⟩
      have hN := sufN_bound hX X.length
      have key : ∀ t, t < 32 → (putL (sufN X X.length)).getD t 0 = if t < 32 - X.length then 0 else X.getD (t - (32 - X.length)) 0 := fun t ht => by
        rw [putL_getD _ ht]
        by_cases c : t < 32 - X.length
        · rw [if_pos c]
          have : sufN X X.length / 256 ^ (31 - t) = 0 := Int.ediv_eq_zero_of_lt hN.1 (by
            obtain ⟨k, hk⟩ : ∃ k, 31 - t = X.length + k := ⟨31 - t - X.length, by omega⟩
            rw [hk, Int.pow_add]
            have p := p256 X.length
            have q := p256 k
            have : (256 : Int) ^ X.length * 1 ≤ 256 ^ X.length * 256 ^ k := Int.mul_le_mul_of_nonneg_left q (by omega)
            omega)
          rw [this]; rfl
        · rw [if_neg c, suf_digit hX X.length (31 - t) (Nat.le_refl _) (by omega)]
          congr 1; omega
      have hs := strip_zeros (32 - X.length) (putL (sufN X X.length)) (fun t ht => by rw [key t (by omega), if_pos ht]) (fun hlt => by
        rw [putL_len] at hlt
        rw [key _ hlt, if_neg (by omega), Nat.sub_self]
        exact fun e => hz ⟨fun e2 => by rw [e2] at hlt; simp at hlt, e⟩) (by rw [putL_len]; omega)
      rw [hs]
      apply extB
      · rw [List.length_drop, putL_len]; omega
      · intro t ht
        rw [List.length_drop, putL_len] at ht
        have e : ((putL (sufN X X.length)).drop (32 - X.length)).getD t 0 = (putL (sufN X X.length)).getD (32 - X.length + t) 0 := by simp [List.getD, List.getElem?_drop]
        rw [e, key _ (by omega), if_neg (by omega)]
        congr 1; omega
  · rw [se, if_neg hl] at he; cases he
theorem get_nil (w : World) {a : Option Addr} {c : Nat} : Calls Tryd.prog 5 #[.slice a 0 c] w fun e w' => e = .returned (.tuple #[.agg #[.int .u64 (l0 0), .int .u64 (l1 0), .int .u64 (l2 0), .int .u64 (l3 0)], .int .i64 0]) ∧ Below w.heap.size w w' := by
  have hb0 := build_zero
  obtain ⟨z0, z1, z2, z3⟩ := zero_limbs
  rw [z0, z1, z2, z3]
  go_enter Tryd.func5, Tryd.ntmps5
  go_wp2
  refine wp_loop_rounds 1 ?_
  rw [rounds_succ]; go_wp2
  simp [bodyPost, results, Tryd.results5, go_sem]
  repeat (first | with_reducible exact Below.refl _ _ | with_reducible refine Below.drew ?_ | with_reducible refine Below.alloc ?_ (by first | omega | (simp; done) | (simp; omega)) _ | with_reducible refine Below.setCell ?_ (by first | omega | (simp; done)) _)
/-- Strict of any slice. -/
theorem strict_az {a : Option Addr} {b o c : Nat} {X : List Int} (hX : Byts X) (hZ : Az a b o X) (w : World) (hz : Bz w b o X) :
    Calls Tryd.prog 6 #[.slice a X.length c] w fun e w' => e = .returned (.tuple #[.agg #[.int .u64 (l0 (sv X)), .int .u64 (l1 (sv X)), .int .u64 (l2 (sv X)), .int .u64 (l3 (sv X))], .int .i64 (se X)]) ∧ Below w.heap.size w w' := by
  by_cases h : X.length ≤ 32
  · rw [sv, se, if_pos h, if_pos h]
    by_cases h0 : X = []
    · rw [if_neg (by simp [h0]), if_neg (by simp [h0])]
      subst h0
      have GT : Hid (∀ W, Below w.heap.size w W → Calls Tryd.prog 5 #[.slice a 0 c] W fun e w' => e = .returned (.tuple #[.agg #[.int .u64 (l0 0), .int .u64 (l1 0), .int .u64 (l2 0), .int .u64 (l3 0)], .int .i64 0]) ∧ Below W.heap.size W w') := fun W _ => get_nil W
      exact strict_none w rfl GT
    · have hp : 0 < X.length := List.length_pos_iff.2 h0
      obtain rfl := hZ.cons hp
      have GT : Hid (∀ W, Below w.heap.size w W → Calls Tryd.prog 5 #[.slice (some ⟨b, o, none⟩) X.length c] W fun e w' => e = .returned (.tuple #[.agg #[.int .u64 (l0 (sufN X X.length)), .int .u64 (l1 (sufN X X.length)), .int .u64 (l2 (sufN X X.length)), .int .u64 (l3 (sufN X X.length))], .int .i64 0]) ∧ Below W.heap.size W w') := fun W B => get_some hX h W (hz.keep B)
      have hc := hz 0 hp
      rw [Nat.add_zero] at hc
      by_cases h1 : X.getD 0 0 = 0
      · rw [if_pos ⟨h0, h1⟩, if_pos ⟨h0, h1⟩]
        obtain ⟨z0, z1, z2, z3⟩ := zero_limbs
        rw [z0, z1, z2, z3]
        rw [h1] at hc
        exact strict_lead w hp hc GT
      · rw [if_neg (fun q => h1 q.2), if_neg (fun q => h1 q.2)]
        exact strict_some w hp h1 hc GT
  · rw [sv, se, if_neg h, if_neg h]
    exact strict_bad w (by decide) (fun W _ => get_long (by omega) W)
end Go.Proofs.YtnokgnhcnhfkpaaDoor

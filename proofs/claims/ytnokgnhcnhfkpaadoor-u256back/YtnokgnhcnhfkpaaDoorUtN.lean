import Derived.Test.YtnokgnhcnhfkpaaDoorHxA
import Derived.Test.YtnokgnhcnhfkpaaDoorNum
/- Decimal texts: plain numbers. -/
namespace Go.Proofs.YtnokgnhcnhfkpaaDoor

/-- The number of n digits from a place on. -/
def dc (s : ByteArray) (o : Nat) : Nat → Int
  | 0 => 0
  | n + 1 => dc s o n * 10 + (bt s (o + n) - 48)
/-- Digits alone. -/
def DgA (s : ByteArray) : Prop := ∀ i, i < s.size → 48 ≤ bt s i ∧ bt s i ≤ 57
theorem dc_split (s : ByteArray) (o m : Nat) : ∀ n, dc s o (m + n) = dc s o m * 10 ^ n + dc s (o + m) n
  | 0 => by simp [dc]
  | n + 1 => by
    rw [← Nat.add_assoc, dc, dc_split s o m n, dc, Int.pow_succ, Nat.add_assoc]
    generalize bt s (o + (m + n)) = b
    generalize dc s (o + m) n = c
    rw [Int.add_mul, Int.mul_assoc]
    omega
theorem pow_pos10 (n : Nat) : (1 : Int) ≤ 10 ^ n := by
  induction n with
  | zero => decide
  | succ n ih => rw [Int.pow_succ]; omega
theorem dc_low {s : ByteArray} {o : Nat} : ∀ {n : Nat}, (∀ i, i < n → 48 ≤ bt s (o + i) ∧ bt s (o + i) ≤ 57) → 0 ≤ dc s o n ∧ dc s o n < 10 ^ n
  | 0, _ => by simp [dc]
  | n + 1, h => by
    obtain ⟨h1, h2⟩ := dc_low (n := n) fun i hi => h i (by omega)
    obtain ⟨h3, h4⟩ := h n (by omega)
    rw [dc, Int.pow_succ]
    omega
theorem dc_ext {s t : ByteArray} {o p : Nat} : ∀ {n : Nat}, (∀ i, i < n → bt s (o + i) = bt t (p + i)) → dc s o n = dc t p n
  | 0, _ => rfl
  | n + 1, h => by rw [dc, dc, dc_ext (n := n) fun i hi => h i (by omega), h n (by omega)]
theorem dc_at {s : ByteArray} (h : DgA s) {n : Nat} (hn : n ≤ s.size) : 0 ≤ dc s 0 n ∧ dc s 0 n < 10 ^ n := dc_low fun i hi => by rw [Nat.zero_add]; exact h i (by omega)
theorem dc_mono {s : ByteArray} (h : DgA s) {m n : Nat} (hm : m ≤ n) (hn : n ≤ s.size) : dc s 0 m ≤ dc s 0 n := by
  obtain ⟨k, rfl⟩ : ∃ k, n = m + k := ⟨n - m, by omega⟩
  rw [dc_split]
  have h1 := (dc_at h (n := m) (by omega)).1
  have h2 := (dc_low (s := s) (o := 0 + m) (n := k) fun i hi => h _ (by omega)).1
  have h3 := pow_pos10 k
  have h4 : dc s 0 m * 1 ≤ dc s 0 m * 10 ^ k := Int.mul_le_mul_of_nonneg_left h3 h1
  omega
theorem dc_lead {s : ByteArray} (h : DgA s) (h0 : bt s 0 ≠ 48) {n : Nat} (hn : n + 1 ≤ s.size) : (10 : Int) ^ n ≤ dc s 0 (n + 1) := by
  rw [Nat.add_comm n 1, dc_split]
  have h1 := h 0 (by omega)
  have h2 := (dc_low (s := s) (o := 0 + 1) (n := n) fun i hi => h _ (by omega)).1
  have h3 := pow_pos10 n
  have h5 : (1 : Int) ≤ dc s 0 1 := by simp only [dc, Nat.add_zero]; omega
  have h4 : 1 * (10 : Int) ^ n ≤ dc s 0 1 * 10 ^ n := Int.mul_le_mul_of_nonneg_right h5 (by omega)
  omega
/-- What Parse tells. -/
noncomputable def pe (s : ByteArray) : Int := by classical exact if DgA s ∧ s.size ≠ 0 then (if 1 < s.size ∧ bt s 0 = 48 then 13 else if dc s 0 s.size < 115792089237316195423570985008687907853269984665640564039457584007913129639936 then 0 else 11) else 12
noncomputable def pv (s : ByteArray) : Int := by classical exact if pe s = 0 then dc s 0 s.size else 0
theorem pv_of {s : ByteArray} (h : pe s ≠ 0) : pv s = 0 := by rw [pv, if_neg h]
theorem pe_digit {s : ByteArray} (h : ¬ (DgA s ∧ s.size ≠ 0)) : pe s = 12 ∧ pv s = 0 := by
  have e : pe s = 12 := by rw [pe, if_neg h]
  exact ⟨e, pv_of (by rw [e]; decide)⟩
theorem pe_lead {s : ByteArray} (h : DgA s ∧ s.size ≠ 0) (h1 : 1 < s.size ∧ bt s 0 = 48) : pe s = 13 ∧ pv s = 0 := by
  have e : pe s = 13 := by rw [pe, if_pos h, if_pos h1]
  exact ⟨e, pv_of (by rw [e]; decide)⟩
theorem pe_long {s : ByteArray} (h : DgA s ∧ s.size ≠ 0) (h1 : ¬ (1 < s.size ∧ bt s 0 = 48)) (h2 : ¬ dc s 0 s.size < 115792089237316195423570985008687907853269984665640564039457584007913129639936) : pe s = 11 ∧ pv s = 0 := by
  have e : pe s = 11 := by rw [pe, if_pos h, if_neg h1, if_neg h2]
  exact ⟨e, pv_of (by rw [e]; decide)⟩
theorem pe_ok {s : ByteArray} (h : DgA s ∧ s.size ≠ 0) (h1 : ¬ (1 < s.size ∧ bt s 0 = 48)) (h2 : dc s 0 s.size < 115792089237316195423570985008687907853269984665640564039457584007913129639936) : pe s = 0 ∧ pv s = dc s 0 s.size := by
  have e : pe s = 0 := by rw [pe, if_pos h, if_neg h1, if_pos h2]
  exact ⟨e, by rw [pv, if_pos e]⟩
theorem pe_zero {s : ByteArray} (h : pe s = 0) : DgA s ∧ s.size ≠ 0 ∧ ¬ (1 < s.size ∧ bt s 0 = 48) ∧ dc s 0 s.size < 115792089237316195423570985008687907853269984665640564039457584007913129639936 ∧ pv s = dc s 0 s.size := by
  by_cases a : DgA s ∧ s.size ≠ 0
  · by_cases b : 1 < s.size ∧ bt s 0 = 48
    · rw [(pe_lead a b).1] at h; cases h
    · by_cases c : dc s 0 s.size < 115792089237316195423570985008687907853269984665640564039457584007913129639936
      · exact ⟨a.1, a.2, b, c, (pe_ok a b c).2⟩
      · rw [(pe_long a b c).1] at h; cases h
  · rw [(pe_digit a).1] at h; cases h
theorem pv_num (s : ByteArray) : Num (pv s) := by
  by_cases h : pe s = 0
  · obtain ⟨h1, _, _, h4, h5⟩ := pe_zero h
    rw [h5]
    exact ⟨(dc_at h1 (Nat.le_refl _)).1, h4⟩
  · rw [pv_of h]; exact ⟨by decide, by decide⟩
theorem long_78 {s : ByteArray} (h : DgA s) (h0 : bt s 0 ≠ 48) (hn : 78 < s.size) : ¬ dc s 0 s.size < 115792089237316195423570985008687907853269984665640564039457584007913129639936 := by
  have h1 := dc_lead h h0 (n := 78) (by omega)
  have h2 := dc_mono h (m := 78 + 1) (n := s.size) (by omega) (Nat.le_refl _)
  have h3 : (115792089237316195423570985008687907853269984665640564039457584007913129639936 : Int) ≤ 10 ^ 78 := by decide
  omega

/-- A digit as a byte. -/
def db (v : Int) : UInt8 := UInt8.ofNat (48 + v.toNat)
theorem db_nat {v : Int} (h0 : 0 ≤ v) (h1 : v < 10) : ((db v).toNat : Int) = 48 + v := by
  unfold db
  have e : (48 + v.toNat) % 256 = 48 + v.toNat := Nat.mod_eq_of_lt (by omega)
  rw [UInt8.toNat_ofNat', show 2 ^ 8 = 256 from rfl, e]
  omega
theorem dig_low (x : Int) (p : Nat) : 0 ≤ x / 10 ^ p % 10 ∧ x / 10 ^ p % 10 < 10 := by omega
/-- The last k digits. -/
def tx (x : Int) : Nat → List UInt8
  | 0 => []
  | k + 1 => db (x / 10 ^ k % 10) :: tx x k
theorem tx_len (x : Int) : ∀ k, (tx x k).length = k
  | 0 => rfl
  | k + 1 => by rw [tx, List.length_cons, tx_len x k]
theorem tx_get (x : Int) : ∀ {k i : Nat}, i < k → (tx x k).getD i 0 = db (x / 10 ^ (k - 1 - i) % 10)
  | k + 1, 0, _ => by simp [tx]
  | k + 1, i + 1, h => by
    rw [tx, List.getD_cons_succ, tx_get x (by omega)]
    congr 4; omega
/-- So many digits a number has. -/
def IsLen (x : Int) (k : Nat) : Prop := 1 ≤ k ∧ x / 10 ^ k = 0 ∧ (k = 1 ∨ x / 10 ^ (k - 1) ≠ 0)
theorem div_le {x : Int} {m n : Nat} (h : m ≤ n) (hz : x / 10 ^ m = 0) : x / 10 ^ n = 0 := by
  obtain ⟨k, rfl⟩ : ∃ k, n = m + k := ⟨n - m, by omega⟩
  have p := pow_pos10 m
  have q := pow_pos10 k
  rw [Int.pow_add, ← Int.ediv_ediv_of_nonneg (by omega), hz]
  simp
theorem len_le {x : Int} {k n : Nat} (h : IsLen x k) (hn : 1 ≤ n) (hz : x / 10 ^ n = 0) : k ≤ n := by
  obtain ⟨_, _, h3⟩ := h
  rcases h3 with h3 | h3
  · omega
  · by_cases c : k ≤ n
    · exact c
    · exact absurd (div_le (show n ≤ k - 1 by omega) hz) h3
theorem len_some {x : Int} : ∀ n : Nat, x / 10 ^ (n + 1) = 0 → ∃ k, IsLen x k ∧ k ≤ n + 1
  | 0, h => ⟨1, ⟨Nat.le_refl _, h, .inl rfl⟩, Nat.le_refl _⟩
  | n + 1, h => by
    by_cases c : x / 10 ^ (n + 1) = 0
    · obtain ⟨k, h1, h2⟩ := len_some n c
      exact ⟨k, h1, by omega⟩
    · exact ⟨n + 2, ⟨by omega, h, .inr c⟩, Nat.le_refl _⟩
theorem len_num {x : Int} (h : Num x) : ∃ k, IsLen x k ∧ k ≤ 78 := by
  refine len_some 77 (Int.ediv_eq_zero_of_lt h.1 (Int.lt_trans h.2 (by decide)))
/-- The number of a number's digits is the number. -/
theorem dc_tx {x : Int} {k : Nat} (s : ByteArray) (hs : s = ⟨(tx x k).toArray⟩) : ∀ n, n ≤ k → dc s 0 n = x / 10 ^ (k - n) - x / 10 ^ k * 10 ^ n
  | 0, _ => by simp [dc]
  | n + 1, h => by
    have hb : bt s (0 + n) = 48 + x / 10 ^ (k - 1 - n) % 10 := by
      rw [Nat.zero_add, bt, hs]
      show (((tx x k).getD n 0).toNat : Int) = _
      rw [tx_get x (by omega), db_nat (dig_low _ _).1 (dig_low _ _).2]
    rw [dc, dc_tx s hs n (by omega), hb]
    have e1 : k - n = (k - 1 - n) + 1 := by omega
    have e2 : k - (n + 1) = k - 1 - n := by omega
    have p := pow_pos10 (k - 1 - n)
    rw [e1, e2, Int.pow_succ, ← Int.ediv_ediv_of_nonneg (by omega), Int.pow_succ, ← Int.mul_assoc]
    omega
theorem size_tx (x : Int) (k : Nat) : (⟨(tx x k).toArray⟩ : ByteArray).size = k := by
  show (tx x k).toArray.size = k
  rw [List.size_toArray, tx_len]
theorem bt_tx {x : Int} {k i : Nat} (h : i < k) : bt ⟨(tx x k).toArray⟩ i = 48 + x / 10 ^ (k - 1 - i) % 10 := by
  show (((tx x k).getD i 0).toNat : Int) = _
  rw [tx_get x h, db_nat (dig_low _ _).1 (dig_low _ _).2]
theorem tx_parse {x : Int} (h : Num x) {k : Nat} (hk : IsLen x k) : pe ⟨(tx x k).toArray⟩ = 0 ∧ pv ⟨(tx x k).toArray⟩ = x := by
  have hd := dc_tx (x := x) (k := k) _ rfl k (Nat.le_refl _)
  rw [Nat.sub_self, hk.2.1] at hd
  have e : dc ⟨(tx x k).toArray⟩ 0 k = x := by rw [hd]; simp
  have hz := size_tx x k
  have hA : DgA ⟨(tx x k).toArray⟩ := fun i hi => by
    rw [hz] at hi
    rw [bt_tx hi]
    have := dig_low x (k - 1 - i)
    omega
  have r := pe_ok (s := ⟨(tx x k).toArray⟩) ⟨hA, by rw [hz]; have := hk.1; omega⟩ (by
    rw [hz, bt_tx (by have := hk.1; omega)]
    rintro ⟨h1, h2⟩
    rcases hk.2.2 with h3 | h3
    · omega
    · apply h3
      have h4 := hk.2.1
      rw [show k = (k - 1) + 1 by omega, Int.pow_succ, ← Int.ediv_ediv_of_nonneg (by have := pow_pos10 (k - 1); omega)] at h4
      rw [Nat.sub_zero] at h2
      omega) (by rw [hz, e]; exact h.2)
  rw [hz, e] at r
  exact r
theorem dc_div {s : ByteArray} (h : DgA s) {m k : Nat} (hn : m + k ≤ s.size) : dc s 0 (m + k) / 10 ^ k = dc s 0 m := by
  rw [dc_split]
  obtain ⟨h1, h2⟩ := dc_low (s := s) (o := 0 + m) (n := k) fun i hi => h _ (by omega)
  have p := pow_pos10 k
  rw [Int.add_comm, Int.add_mul_ediv_right _ _ (by omega), Int.ediv_eq_zero_of_lt h1 h2, Int.zero_add]
/-- What Parse takes is what Text writes. -/
theorem parse_tx {s : ByteArray} (h : pe s = 0) : IsLen (pv s) s.size ∧ (⟨(tx (pv s) s.size).toArray⟩ : ByteArray) = s := by
  obtain ⟨hA, h0, h1, h2, h3⟩ := pe_zero h
  rw [h3]
  obtain ⟨n, hn⟩ : ∃ n, s.size = n + 1 := ⟨s.size - 1, by omega⟩
  have hz : dc s 0 s.size / 10 ^ s.size = 0 := by
    have := dc_div hA (m := 0) (k := s.size) (by omega)
    rw [Nat.zero_add] at this
    exact this
  refine ⟨⟨by omega, hz, ?_⟩, ?_⟩
  · by_cases c : s.size = 1
    · exact .inl c
    · refine .inr ?_
      have := dc_div hA (m := 1) (k := s.size - 1) (by omega)
      rw [show 1 + (s.size - 1) = s.size by omega] at this
      rw [this]
      have := hA 0 (by omega)
      simp only [dc, Nat.add_zero]
      omega
  · have hl : tx (dc s 0 s.size) s.size = s.data.toList := by
      apply List.ext_getElem
      · rw [tx_len]; exact (Array.length_toList (xs := s.data)).symm
      · intro i hi hj
        rw [tx_len] at hi
        have e := tx_get (dc s 0 s.size) hi
        rw [List.getD, List.getElem?_eq_getElem (by rw [tx_len]; exact hi), Option.getD_some] at e
        rw [e]
        have d := dc_div hA (m := i + 1) (k := s.size - 1 - i) (by omega)
        rw [show i + 1 + (s.size - 1 - i) = s.size by omega] at d
        rw [d, dc, Nat.zero_add]
        have b := hA i hi
        rw [show (dc s 0 i * 10 + (bt s i - 48)) % 10 = bt s i - 48 by omega]
        unfold db
        apply UInt8.toNat_inj.1
        have eb : bt s i = ((s.data.toList[i]'hj).toNat : Int) := by
          unfold bt
          rw [List.getD, List.getElem?_eq_getElem hj, Option.getD_some]
        rw [eb] at b ⊢
        rw [UInt8.toNat_ofNat', show 2 ^ 8 = 256 from rfl, Nat.mod_eq_of_lt (by omega)]
        omega
    rw [hl]
end Go.Proofs.YtnokgnhcnhfkpaaDoor

import Derived.Test.YtncpjgpioajbeaaGreatDoorSSpec
/- Numbers as rows of 16-bit digits, the lowest first. -/
namespace Go.Proofs.YtncpjgpioajbeaaGreatDoor.S
open Go.RowKit Go.Sort

def vh : List Int → Int
  | [] => 0
  | x :: xs => x + 65536 * vh xs
def Lim (x : Int) : Prop := 0 ≤ x ∧ x < 65536
def Lims (l : List Int) : Prop := ∀ x ∈ l, Lim x
theorem vh_bound : ∀ {l : List Int}, Lims l → 0 ≤ vh l ∧ vh l < 65536 ^ l.length
  | [], _ => by simp [vh]
  | x :: xs, h => by
    obtain ⟨_, _⟩ := h x (by simp)
    have := vh_bound (l := xs) (fun y hy => h y (by simp [hy]))
    simp only [vh, List.length_cons, Int.pow_succ]
    generalize (65536 : Int) ^ xs.length = p at *
    omega
theorem vh_set : ∀ (l : List Int) (i : Nat) (v : Int), i < l.length → vh (l.set i v) = vh l + 65536 ^ i * (v - l.getD i 0)
  | [], i, v, h => by simp at h
  | x :: xs, 0, v, _ => by simp [vh]; omega
  | x :: xs, i + 1, v, h => by
    have := vh_set xs i v (by simpa using h)
    simp only [List.set_cons_succ, vh, List.getD_cons_succ, Int.pow_succ]
    rw [this, Int.mul_right_comm, Int.mul_comm _ (65536 : Int)]
    generalize (65536 : Int) ^ i * (v - xs.getD i 0) = p
    omega
theorem vh_take : ∀ (l : List Int) (i : Nat), i < l.length → vh (l.take (i + 1)) = vh (l.take i) + 65536 ^ i * l.getD i 0
  | [], i, h => by simp at h
  | x :: xs, 0, _ => by simp [vh]
  | x :: xs, i + 1, h => by
    have := vh_take xs i (by simpa using h)
    simp only [List.take_succ_cons, vh, List.getD_cons_succ, Int.pow_succ] at this ⊢
    rw [this, Int.mul_right_comm, Int.mul_comm _ (65536 : Int)]
    generalize (65536 : Int) ^ i * xs.getD i 0 = p
    omega
theorem Lims.getD {l : List Int} (h : Lims l) (i : Nat) : Lim (l.getD i 0) := by
  by_cases c : i < l.length
  · have : l.getD i 0 = l[i] := by simp [List.getD, c]
    rw [this]; exact h _ (List.getElem_mem c)
  · have : l.getD i 0 = 0 := by simp [List.getD, List.getElem?_eq_none (Nat.le_of_not_lt c)]
    rw [this]; exact ⟨by decide, by decide⟩
theorem Lims.set {l : List Int} (h : Lims l) (i : Nat) {v : Int} (hv : Lim v) : Lims (l.set i v) := fun x hx => by
  rcases List.mem_or_eq_of_mem_set hx with h' | h'
  · exact h x h'
  · rw [h']; exact hv
theorem h_mul_step {P0 Q V T n x a y c c' v : Int} (hv : v + 65536 * c' = x + a * y + c) (inv : V + P0 * Q * c = n + P0 * (a * T)) : V + P0 * Q * (v - x) + P0 * Q * 65536 * c' = n + P0 * (a * (T + Q * y)) := by
  have e : v - x = a * y + c - 65536 * c' := by omega
  have h1 : P0 * Q * (a * y) = P0 * (a * (Q * y)) := by rw [Int.mul_assoc, Int.mul_left_comm Q a y]
  have h2 : P0 * Q * (65536 * c') = P0 * Q * 65536 * c' := by rw [Int.mul_assoc (P0 * Q)]
  have h3 : P0 * (a * (T + Q * y)) = P0 * (a * T) + P0 * (a * (Q * y)) := by rw [Int.mul_add, Int.mul_add]
  rw [e, Int.mul_sub, Int.mul_add, h1, h2, h3]
  omega
theorem vh_split : ∀ (l : List Int) (k : Nat), k ≤ l.length → vh l = vh (l.take k) + 65536 ^ k * vh (l.drop k)
  | l, 0, _ => by simp [vh]
  | [], k + 1, h => by simp at h
  | x :: xs, k + 1, h => by
    have := vh_split xs k (by simpa using h)
    simp only [List.take_succ_cons, List.drop_succ_cons, vh, Int.pow_succ]
    rw [this, Int.mul_right_comm, Int.mul_comm _ (65536 : Int)]
    generalize (65536 : Int) ^ k * vh (xs.drop k) = p
    omega
theorem h_ext_getD {l l' : List Int} (h : l.length = l'.length) (e : ∀ t, t < l.length → l.getD t 0 = l'.getD t 0) : l = l' := by
  apply List.ext_getElem h
  intro t h1 h2
  have := e t h1
  simpa [List.getD, h1, h2] using this
theorem h_getD_set_ne {l : List Int} {i t : Nat} (h : t ≠ i) (v : Int) : (l.set i v).getD t 0 = l.getD t 0 := by
  simp [List.getD, List.getElem?_set_ne (Ne.symm h)]
theorem Lims.take {l : List Int} (h : Lims l) (k : Nat) : Lims (l.take k) := fun x hx => h x (List.mem_of_mem_take hx)
theorem Lims.drop {l : List Int} (h : Lims l) (k : Nat) : Lims (l.drop k) := fun x hx => h x (List.mem_of_mem_drop hx)
theorem h_mul_out {P V T x m c : Int} (inv : V + P * 65536 ^ 8 * c = T * m + P * (x * m)) : V + P * 65536 ^ 8 * c = (T + P * x) * m := by
  rw [inv, Int.add_mul, Int.mul_assoc]
theorem h_zeros_getD (k t : Nat) : (List.replicate k (0 : Int)).getD t 0 = 0 := by
  simp only [List.getD, List.getElem?_replicate]
  split <;> rfl
theorem h_prod_dig {x y p c : Int} (hx : Lim x) (hy : Lim y) (hp : Lim p) (hc : Lim c) : 0 ≤ x * y ∧ x * y < 4294967296 ∧ 0 ≤ p + x * y + c ∧ p + x * y + c < 4294967296 := by
  obtain ⟨x0, x1⟩ := hx; obtain ⟨y0, y1⟩ := hy; obtain ⟨p0, p1⟩ := hp; obtain ⟨c0, c1⟩ := hc
  have h0 := Int.mul_nonneg x0 y0
  have h1 : x * y ≤ 65535 * 65535 := Int.mul_le_mul (by omega) (by omega) y0 (by decide)
  omega
/-- Rows that differ first (from above) at i: their numbers are as those digits. -/
theorem vh_lt : ∀ {x y : List Int} {i : Nat}, Lims x → Lims y → x.length = y.length → i < x.length → (∀ t, i < t → t < x.length → x.getD t 0 = y.getD t 0) → x.getD i 0 < y.getD i 0 → vh x < vh y
  | [], _, i, _, _, _, h, _, _ => by simp at h
  | a :: x, [], i, _, _, h, _, _, _ => by simp at h
  | a :: x, b :: y, 0, hx, hy, hl, _, he, hlt => by
    have e : x = y := h_ext_getD (by simpa using hl) fun t ht => by
      have := he (t + 1) (by omega) (by simpa using ht)
      simpa using this
    subst e
    have : a < b := by simpa using hlt
    simp only [vh]; omega
  | a :: x, b :: y, i + 1, hx, hy, hl, hi, he, hlt => by
    have ih := vh_lt (x := x) (y := y) (i := i) (fun z hz => hx z (by simp [hz])) (fun z hz => hy z (by simp [hz])) (by simpa using hl) (by simpa using hi) (fun t h1 h2 => by
      have := he (t + 1) (by omega) (by simpa using h2)
      simpa using this) (by simpa using hlt)
    obtain ⟨_, _⟩ := hx a (by simp); obtain ⟨_, _⟩ := hy b (by simp)
    simp only [vh]; omega
/-- r is the k-th root of n, times 2^32, rounded down. -/
def RootOf (k : Nat) (n : Int) (r : Int) : Prop := 0 ≤ r ∧ r ^ k ≤ n * 4294967296 ^ k ∧ n * 4294967296 ^ k < (r + 1) ^ k
theorem pow_lt_pow {k : Nat} {a b : Int} (h0 : 0 ≤ a) (h : a < b) (hk : k = 2 ∨ k = 3) : a ^ k < b ^ k := by
  have h2 : a * a < b * b := by
    have := Int.mul_lt_mul' (Int.le_of_lt h) h h0 (by omega); omega
  rcases hk with rfl | rfl
  · simpa [Int.pow_succ] using h2
  · have h3 : a * a * a < b * b * b := by
      have e1 : a * a * a ≤ a * a * b := Int.mul_le_mul_of_nonneg_left (Int.le_of_lt h) (Int.mul_nonneg h0 h0)
      have e2 : a * a * b < b * b * b := Int.mul_lt_mul_of_pos_right h2 (by omega)
      omega
    simpa [Int.pow_succ] using h3
theorem RootOf.unique {k : Nat} (hk : k = 2 ∨ k = 3) {n r s : Int} (h : RootOf k n r) (g : RootOf k n s) : r = s := by
  obtain ⟨h0, h1, h2⟩ := h; obtain ⟨g0, g1, g2⟩ := g
  rcases Int.lt_trichotomy r s with c | c | c
  · have : (r + 1) ^ k ≤ s ^ k := by
      rcases Int.lt_or_eq_of_le (show r + 1 ≤ s by omega) with e | e
      · exact Int.le_of_lt (pow_lt_pow (by omega) e hk)
      · rw [e]; exact Int.le_refl _
    omega
  · exact c
  · have : (s + 1) ^ k ≤ r ^ k := by
      rcases Int.lt_or_eq_of_le (show s + 1 ≤ r by omega) with e | e
      · exact Int.le_of_lt (pow_lt_pow (by omega) e hk)
      · rw [e]; exact Int.le_refl _
    omega
end Go.Proofs.YtncpjgpioajbeaaGreatDoor.S

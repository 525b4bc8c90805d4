import Derived.Test.YtlpmphldmfefkaaDoorMulNum
/- Numbers as rows of 32-bit digits, the lowest first. -/
namespace Go.Proofs.YtlpmphldmfefkaaDoor

def vd : List Int → Int
  | [] => 0
  | x :: xs => x + 4294967296 * vd xs
def Dig (x : Int) : Prop := 0 ≤ x ∧ x < 4294967296
def Digs (l : List Int) : Prop := ∀ x ∈ l, Dig x

theorem vd_bound : ∀ {l : List Int}, Digs l → 0 ≤ vd l ∧ vd l < 4294967296 ^ l.length
  | [], _ => by simp [vd]
  | x :: xs, h => by
    obtain ⟨_, _⟩ := h x (by simp)
    have := vd_bound (l := xs) (fun y hy => h y (by simp [hy]))
    simp only [vd, List.length_cons, Int.pow_succ]
    generalize (4294967296 : Int) ^ xs.length = p at *
    omega

theorem vd_set : ∀ (l : List Int) (i : Nat) (v : Int), i < l.length → vd (l.set i v) = vd l + 4294967296 ^ i * (v - l.getD i 0)
  | [], i, v, h => by simp at h
  | x :: xs, 0, v, _ => by simp [vd]; omega
  | x :: xs, i + 1, v, h => by
    have := vd_set xs i v (by simpa using h)
    simp only [List.set_cons_succ, vd, List.getD_cons_succ, Int.pow_succ]
    rw [this, Int.mul_right_comm, Int.mul_comm _ (4294967296 : Int)]
    generalize (4294967296 : Int) ^ i * (v - xs.getD i 0) = p
    omega

theorem vd_take : ∀ (l : List Int) (i : Nat), i < l.length → vd (l.take (i + 1)) = vd (l.take i) + 4294967296 ^ i * l.getD i 0
  | [], i, h => by simp at h
  | x :: xs, 0, _ => by simp [vd]
  | x :: xs, i + 1, h => by
    have := vd_take xs i (by simpa using h)
    simp only [List.take_succ_cons, vd, List.getD_cons_succ, Int.pow_succ] at this ⊢
    rw [this, Int.mul_right_comm, Int.mul_comm _ (4294967296 : Int)]
    generalize (4294967296 : Int) ^ i * xs.getD i 0 = p
    omega

theorem Digs.getD {l : List Int} (h : Digs l) (i : Nat) : Dig (l.getD i 0) := by
  by_cases c : i < l.length
  · have : l.getD i 0 = l[i] := by simp [List.getD, c]
    rw [this]; exact h _ (List.getElem_mem c)
  · have : l.getD i 0 = 0 := by simp [List.getD, List.getElem?_eq_none (Nat.le_of_not_lt c)]
    rw [this]; exact ⟨by decide, by decide⟩
theorem Digs.set {l : List Int} (h : Digs l) (i : Nat) {v : Int} (hv : Dig v) : Digs (l.set i v) := fun x hx => by
  rcases List.mem_or_eq_of_mem_set hx with h' | h'
  · exact h x h'
  · rw [h']; exact hv
theorem Digs.of8 {a b c d e f g h : Int} (h0 : Dig a) (h1 : Dig b) (h2 : Dig c) (h3 : Dig d) (h4 : Dig e) (h5 : Dig f) (h6 : Dig g) (h7 : Dig h) : Digs [a, b, c, d, e, f, g, h] := by
  intro x hx
  simp only [List.mem_cons, List.not_mem_nil, or_false] at hx
  rcases hx with rfl | rfl | rfl | rfl | rfl | rfl | rfl | rfl <;> assumption
theorem len8 {l : List Int} (h : l.length = 8) : ∃ a b c d e f g i, l = [a, b, c, d, e, f, g, i] := by
  match l, h with
  | [a, b, c, d, e, f, g, i], _ => exact ⟨a, b, c, d, e, f, g, i, rfl⟩

/-- The digits of a number. -/
def dl (n : Int) : List Int := [l0 n % 4294967296, l0 n / 4294967296, l1 n % 4294967296, l1 n / 4294967296, l2 n % 4294967296, l2 n / 4294967296, l3 n % 4294967296, l3 n / 4294967296]
theorem dig_of {x : Int} (h : Word x) : Dig (x % 4294967296) ∧ Dig (x / 4294967296) := by
  obtain ⟨_, _⟩ := h
  exact ⟨⟨by omega, by omega⟩, ⟨by omega, by omega⟩⟩
theorem dl_digs (n : Int) : Digs (dl n) := Digs.of8 (dig_of (l0_word n)).1 (dig_of (l0_word n)).2 (dig_of (l1_word n)).1 (dig_of (l1_word n)).2 (dig_of (l2_word n)).1 (dig_of (l2_word n)).2 (dig_of (l3_word n)).1 (dig_of (l3_word n)).2
theorem dl_vd {n : Int} (h : Num n) : vd (dl n) = n := by
  have e := num_l h
  unfold num at e
  simp only [dl, vd]
  omega
/-- Eight digits tell the limbs of their number. -/
theorem vd_limbs {d0 d1 d2 d3 d4 d5 d6 d7 n : Int} (h : Digs [d0, d1, d2, d3, d4, d5, d6, d7]) (e : vd [d0, d1, d2, d3, d4, d5, d6, d7] = n) :
    Num n ∧ d0 + 4294967296 * d1 = l0 n ∧ d2 + 4294967296 * d3 = l1 n ∧ d4 + 4294967296 * d5 = l2 n ∧ d6 + 4294967296 * d7 = l3 n := by
  obtain ⟨_, _⟩ := h d0 (by simp); obtain ⟨_, _⟩ := h d1 (by simp); obtain ⟨_, _⟩ := h d2 (by simp); obtain ⟨_, _⟩ := h d3 (by simp)
  obtain ⟨_, _⟩ := h d4 (by simp); obtain ⟨_, _⟩ := h d5 (by simp); obtain ⟨_, _⟩ := h d6 (by simp); obtain ⟨_, _⟩ := h d7 (by simp)
  simp only [vd] at e
  unfold l0 l1 l2 l3 Num
  refine ⟨⟨by omega, by omega⟩, by omega, by omega, by omega, by omega⟩

theorem sub_step {P V T n x y c c' v : Int} (hv : v = x - (y + c) + 4294967296 * c') (inv : V - P * c = n - T) : V + P * (v - x) - P * 4294967296 * c' = n - (T + P * y) := by
  have e : v - x = 4294967296 * c' - y - c := by omega
  rw [e, Int.mul_sub, Int.mul_sub, Int.mul_assoc]
  omega
theorem dif_of {n m v c : Int} (hn : Num n) (hm : Num m) (v0 : 0 ≤ v) (v1 : v < 4294967296 ^ 8) (c0 : 0 ≤ c) (c1 : c ≤ 1) (e : v - 4294967296 ^ 8 * c = n - m) : v = difN n m ∧ c = borN n m := by
  obtain ⟨_, _⟩ := hn; obtain ⟨_, _⟩ := hm
  rw [show (4294967296 : Int) ^ 8 = 115792089237316195423570985008687907853269984665640564039457584007913129639936 by decide] at *
  unfold difN borN
  by_cases h : n < m
  · rw [if_pos h]; exact ⟨by omega, by omega⟩
  · rw [if_neg h]; exact ⟨by omega, by omega⟩
theorem add_step {P V T n x y c c' v : Int} (hv : v + 4294967296 * c' = x + y + c) (inv : V + P * c = n + T) : V + P * (v - x) + P * 4294967296 * c' = n + (T + P * y) := by
  have e : v - x = y + c - 4294967296 * c' := by omega
  rw [e, Int.mul_sub, Int.mul_add, Int.mul_assoc]
  omega
theorem sum_of {n m v c : Int} (v0 : 0 ≤ v) (v1 : v < 4294967296 ^ 8) (e : v + 4294967296 ^ 8 * c = n + m) : v = sumN n m ∧ c = carN n m := by
  rw [show (4294967296 : Int) ^ 8 = 115792089237316195423570985008687907853269984665640564039457584007913129639936 by decide] at *
  unfold sumN carN
  exact ⟨by omega, by omega⟩
theorem mul_step {P0 Q V T n x a y c c' v : Int} (hv : v + 4294967296 * c' = x + a * y + c) (inv : V + P0 * Q * c = n + P0 * (a * T)) : V + P0 * Q * (v - x) + P0 * Q * 4294967296 * c' = n + P0 * (a * (T + Q * y)) := by
  have e : v - x = a * y + c - 4294967296 * c' := by omega
  have h1 : P0 * Q * (a * y) = P0 * (a * (Q * y)) := by rw [Int.mul_assoc, Int.mul_left_comm Q a y]
  have h2 : P0 * Q * (4294967296 * c') = P0 * Q * 4294967296 * c' := by rw [Int.mul_assoc (P0 * Q)]
  have h3 : P0 * (a * (T + Q * y)) = P0 * (a * T) + P0 * (a * (Q * y)) := by rw [Int.mul_add, Int.mul_add]
  rw [e, Int.mul_sub, Int.mul_add, h1, h2, h3]
  omega

theorem vd_split : ∀ (l : List Int) (k : Nat), k ≤ l.length → vd l = vd (l.take k) + 4294967296 ^ k * vd (l.drop k)
  | l, 0, _ => by simp [vd]
  | [], k + 1, h => by simp at h
  | x :: xs, k + 1, h => by
    have := vd_split xs k (by simpa using h)
    simp only [List.take_succ_cons, List.drop_succ_cons, vd, Int.pow_succ]
    rw [this, Int.mul_right_comm, Int.mul_comm _ (4294967296 : Int)]
    generalize (4294967296 : Int) ^ k * vd (xs.drop k) = p
    omega
theorem ext_getD {l l' : List Int} (h : l.length = l'.length) (e : ∀ t, t < l.length → l.getD t 0 = l'.getD t 0) : l = l' := by
  apply List.ext_getElem h
  intro t h1 h2
  have := e t h1
  simpa [List.getD, h1, h2] using this
theorem getD_set_ne {l : List Int} {i t : Nat} (h : t ≠ i) (v : Int) : (l.set i v).getD t 0 = l.getD t 0 := by
  simp [List.getD, List.getElem?_set_ne (Ne.symm h)]
theorem getD_set_eq {l : List Int} {i : Nat} (h : i < l.length) (v : Int) : (l.set i v).getD i 0 = v := by
  simp [List.getD, h]
theorem getD_take {l : List Int} {k t : Nat} (h : t < k) : (l.take k).getD t 0 = l.getD t 0 := by
  simp [List.getD, h]
theorem getD_drop {l : List Int} (k t : Nat) : (l.drop k).getD t 0 = l.getD (t + k) 0 := by
  simp [List.getD, List.getElem?_drop, Nat.add_comm]
theorem Digs.take {l : List Int} (h : Digs l) (k : Nat) : Digs (l.take k) := fun x hx => h x (List.mem_of_mem_take hx)
theorem Digs.drop {l : List Int} (h : Digs l) (k : Nat) : Digs (l.drop k) := fun x hx => h x (List.mem_of_mem_drop hx)
theorem mul_of {n m u v : Int} (u0 : 0 ≤ u) (u1 : u < 4294967296 ^ 8) (e : u + 4294967296 ^ 8 * v = n * m) : u = loN n m ∧ v = hiN n m := by
  rw [show (4294967296 : Int) ^ 8 = 115792089237316195423570985008687907853269984665640564039457584007913129639936 by decide] at *
  unfold loN hiN
  exact ⟨by omega, by omega⟩
theorem mul_out {P V T x m c : Int} (inv : V + P * 4294967296 ^ 8 * c = T * m + P * (x * m)) : V + P * 4294967296 ^ 8 * c = (T + P * x) * m := by
  rw [inv, Int.add_mul, Int.mul_assoc]
theorem zeros_getD (k t : Nat) : (List.replicate k (0 : Int)).getD t 0 = 0 := by
  simp only [List.getD, List.getElem?_replicate]
  split <;> rfl
theorem prod_dig {x y p c : Int} (hx : Dig x) (hy : Dig y) (hp : Dig p) (hc : Dig c) : 0 ≤ x * y ∧ x * y < 18446744073709551616 ∧ 0 ≤ p + x * y + c ∧ p + x * y + c < 18446744073709551616 := by
  obtain ⟨x0, x1⟩ := hx; obtain ⟨y0, y1⟩ := hy; obtain ⟨p0, p1⟩ := hp; obtain ⟨c0, c1⟩ := hc
  have h0 := Int.mul_nonneg x0 y0
  have h1 : x * y ≤ 4294967295 * 4294967295 := Int.mul_le_mul (by omega) (by omega) y0 (by decide)
  omega

end Go.Proofs.YtlpmphldmfefkaaDoor


/- Plain numbers: limbs of a number below 2^256. -/
namespace Go.Proofs.YtmhcgjkemlcgoaaDoor

/-- A limb. -/
def Word (x : Int) : Prop := 0 ≤ x ∧ x < 18446744073709551616

/-! ### The four limbs of a number, the number of four limbs -/
def l0 (n : Int) : Int := n % 18446744073709551616
def l1 (n : Int) : Int := n / 18446744073709551616 % 18446744073709551616
def l2 (n : Int) : Int := n / 340282366920938463463374607431768211456 % 18446744073709551616
def l3 (n : Int) : Int := n / 6277101735386680763835789423207666416102355444464034512896 % 18446744073709551616
/-- A number below 2^256. -/
def Num (n : Int) : Prop := 0 ≤ n ∧ n < 115792089237316195423570985008687907853269984665640564039457584007913129639936
def num (a b c d : Int) : Int := a + 18446744073709551616 * b + 340282366920938463463374607431768211456 * c + 6277101735386680763835789423207666416102355444464034512896 * d

theorem l0_word (n : Int) : Word (l0 n) := ⟨by unfold l0; omega, by unfold l0; omega⟩
theorem l1_word (n : Int) : Word (l1 n) := ⟨by unfold l1; omega, by unfold l1; omega⟩
theorem l2_word (n : Int) : Word (l2 n) := ⟨by unfold l2; omega, by unfold l2; omega⟩
theorem l3_word (n : Int) : Word (l3 n) := ⟨by unfold l3; omega, by unfold l3; omega⟩
theorem num_l {n : Int} (h : Num n) : num (l0 n) (l1 n) (l2 n) (l3 n) = n := by
  obtain ⟨_, _⟩ := h; unfold num l0 l1 l2 l3; omega
theorem l0_num {a b c d : Int} (ha : Word a) : l0 (num a b c d) = a := by
  obtain ⟨_, _⟩ := ha; unfold l0 num; omega
theorem l1_num {a b c d : Int} (ha : Word a) (hb : Word b) : l1 (num a b c d) = b := by
  obtain ⟨_, _⟩ := ha; obtain ⟨_, _⟩ := hb; unfold l1 num; omega
theorem l2_num {a b c d : Int} (ha : Word a) (hb : Word b) (hc : Word c) : l2 (num a b c d) = c := by
  obtain ⟨_, _⟩ := ha; obtain ⟨_, _⟩ := hb; obtain ⟨_, _⟩ := hc; unfold l2 num; omega
theorem l3_num {a b c d : Int} (ha : Word a) (hb : Word b) (hc : Word c) (hd : Word d) : l3 (num a b c d) = d := by
  obtain ⟨_, _⟩ := ha; obtain ⟨_, _⟩ := hb; obtain ⟨_, _⟩ := hc; obtain ⟨_, _⟩ := hd; unfold l3 num; omega
/-- Four limbs are those of their number. -/
theorem limbs_of {n a b c d : Int} (ha : Word a) (hb : Word b) (hc : Word c) (hd : Word d) (h : n = num a b c d) : l0 n = a ∧ l1 n = b ∧ l2 n = c ∧ l3 n = d := by
  subst h; exact ⟨l0_num ha, l1_num ha hb, l2_num ha hb hc, l3_num ha hb hc hd⟩
theorem num_inj {n m : Int} (hn : Num n) (hm : Num m) (h0 : l0 n = l0 m) (h1 : l1 n = l1 m) (h2 : l2 n = l2 m) (h3 : l3 n = l3 m) : n = m := by
  rw [← num_l hn, ← num_l hm, h0, h1, h2, h3]

/-! ### What the calls answer -/
def sumN (n m : Int) : Int := (n + m) % 115792089237316195423570985008687907853269984665640564039457584007913129639936
def carN (n m : Int) : Int := (n + m) / 115792089237316195423570985008687907853269984665640564039457584007913129639936
def difN (n m : Int) : Int := (n - m) % 115792089237316195423570985008687907853269984665640564039457584007913129639936
def borN (n m : Int) : Int := if n < m then 1 else 0
def hiN (n m : Int) : Int := n * m / 115792089237316195423570985008687907853269984665640564039457584007913129639936
def loN (n m : Int) : Int := n * m % 115792089237316195423570985008687907853269984665640564039457584007913129639936
def cmpN (n m : Int) : Int := if n = m then 0 else if n < m then -1 else 1

end Go.Proofs.YtmhcgjkemlcgoaaDoor

/- The school's product of two numbers of four limbs. -/
namespace Go.Proofs.YtmhcgjkemlcgoaaDoor

/-- A number below 2^512, by its halves. -/
theorem halves {n m h l : Int} (hl : Num l) (e : l + 115792089237316195423570985008687907853269984665640564039457584007913129639936 * h = n * m) : hiN n m = h ∧ loN n m = l := by
  obtain ⟨_, _⟩ := hl
  unfold hiN loN
  generalize n * m = p at *
  omega

end Go.Proofs.YtmhcgjkemlcgoaaDoor

/- Long division, limb by limb: the numbers of lists of limbs. -/
namespace Go.Proofs.YtmhcgjkemlcgoaaDoor

def val : List Int → Int
  | [] => 0
  | x :: xs => x + 18446744073709551616 * val xs
end Go.Proofs.YtmhcgjkemlcgoaaDoor

/- Numbers as rows of 32-bit digits, the lowest first. -/
namespace Go.Proofs.YtmhcgjkemlcgoaaDoor

def vd : List Int → Int
  | [] => 0
  | x :: xs => x + 4294967296 * vd xs
def Dig (x : Int) : Prop := 0 ≤ x ∧ x < 4294967296
def Digs (l : List Int) : Prop := ∀ x ∈ l, Dig x

theorem vd_bound : ∀ {l : List Int}, Digs l → 0 ≤ vd l ∧ vd l < 4294967296 ^ l.length
  | [], _ => by simp [vd]
  | x :: xs, h => by
    obtain ⟨_, _⟩ := h x (by simp)
    have := vd_bound (l := xs) (fun y hy => h y (by simp [hy]))
    simp only [vd, List.length_cons, Int.pow_succ]
    generalize (4294967296 : Int) ^ xs.length = p at *
    omega

theorem vd_set : ∀ (l : List Int) (i : Nat) (v : Int), i < l.length → vd (l.set i v) = vd l + 4294967296 ^ i * (v - l.getD i 0)
  | [], i, v, h => by simp at h
  | x :: xs, 0, v, _ => by simp [vd]; omega
  | x :: xs, i + 1, v, h => by
    have := vd_set xs i v (by simpa using h)
    simp only [List.set_cons_succ, vd, List.getD_cons_succ, Int.pow_succ]
    rw [this, Int.mul_right_comm, Int.mul_comm _ (4294967296 : Int)]
    generalize (4294967296 : Int) ^ i * (v - xs.getD i 0) = p
    omega

theorem vd_take : ∀ (l : List Int) (i : Nat), i < l.length → vd (l.take (i + 1)) = vd (l.take i) + 4294967296 ^ i * l.getD i 0
  | [], i, h => by simp at h
  | x :: xs, 0, _ => by simp [vd]
  | x :: xs, i + 1, h => by
    have := vd_take xs i (by simpa using h)
    simp only [List.take_succ_cons, vd, List.getD_cons_succ, Int.pow_succ] at this ⊢
    rw [this, Int.mul_right_comm, Int.mul_comm _ (4294967296 : Int)]
    generalize (4294967296 : Int) ^ i * xs.getD i 0 = p
    omega

theorem Digs.getD {l : List Int} (h : Digs l) (i : Nat) : Dig (l.getD i 0) := by
  by_cases c : i < l.length
  · have : l.getD i 0 = l[i] := by simp [List.getD, c]
    rw [this]; exact h _ (List.getElem_mem c)
  · have : l.getD i 0 = 0 := by simp [List.getD, List.getElem?_eq_none (Nat.le_of_not_lt c)]
    rw [this]; exact ⟨by decide, by decide⟩
theorem Digs.set {l : List Int} (h : Digs l) (i : Nat) {v : Int} (hv : Dig v) : Digs (l.set i v) := fun x hx => by
  rcases List.mem_or_eq_of_mem_set hx with h' | h'
  · exact h x h'
  · rw [h']; exact hv
theorem Digs.of8 {a b c d e f g h : Int} (h0 : Dig a) (h1 : Dig b) (h2 : Dig c) (h3 : Dig d) (h4 : Dig e) (h5 : Dig f) (h6 : Dig g) (h7 : Dig h) : Digs [a, b, c, d, e, f, g, h] := by
  intro x hx
  simp only [List.mem_cons, List.not_mem_nil, or_false] at hx
  rcases hx with rfl | rfl | rfl | rfl | rfl | rfl | rfl | rfl <;> assumption
theorem len8 {l : List Int} (h : l.length = 8) : ∃ a b c d e f g i, l = [a, b, c, d, e, f, g, i] := by
  match l, h with
  | [a, b, c, d, e, f, g, i], _ => exact ⟨a, b, c, d, e, f, g, i, rfl⟩

/-- The digits of a number. -/
def dl (n : Int) : List Int := [l0 n % 4294967296, l0 n / 4294967296, l1 n % 4294967296, l1 n / 4294967296, l2 n % 4294967296, l2 n / 4294967296, l3 n % 4294967296, l3 n / 4294967296]
theorem dig_of {x : Int} (h : Word x) : Dig (x % 4294967296) ∧ Dig (x / 4294967296) := by
  obtain ⟨_, _⟩ := h
  exact ⟨⟨by omega, by omega⟩, ⟨by omega, by omega⟩⟩
theorem dl_digs (n : Int) : Digs (dl n) := Digs.of8 (dig_of (l0_word n)).1 (dig_of (l0_word n)).2 (dig_of (l1_word n)).1 (dig_of (l1_word n)).2 (dig_of (l2_word n)).1 (dig_of (l2_word n)).2 (dig_of (l3_word n)).1 (dig_of (l3_word n)).2
theorem dl_vd {n : Int} (h : Num n) : vd (dl n) = n := by
  have e := num_l h
  unfold num at e
  simp only [dl, vd]
  omega
/-- Eight digits tell the limbs of their number. -/
theorem vd_limbs {d0 d1 d2 d3 d4 d5 d6 d7 n : Int} (h : Digs [d0, d1, d2, d3, d4, d5, d6, d7]) (e : vd [d0, d1, d2, d3, d4, d5, d6, d7] = n) :
    Num n ∧ d0 + 4294967296 * d1 = l0 n ∧ d2 + 4294967296 * d3 = l1 n ∧ d4 + 4294967296 * d5 = l2 n ∧ d6 + 4294967296 * d7 = l3 n := by
  obtain ⟨_, _⟩ := h d0 (by simp); obtain ⟨_, _⟩ := h d1 (by simp); obtain ⟨_, _⟩ := h d2 (by simp); obtain ⟨_, _⟩ := h d3 (by simp)
  obtain ⟨_, _⟩ := h d4 (by simp); obtain ⟨_, _⟩ := h d5 (by simp); obtain ⟨_, _⟩ := h d6 (by simp); obtain ⟨_, _⟩ := h d7 (by simp)
  simp only [vd] at e
  unfold l0 l1 l2 l3 Num
  refine ⟨⟨by omega, by omega⟩, by omega, by omega, by omega, by omega⟩

theorem sub_step {P V T n x y c c' v : Int} (hv : v = x - (y + c) + 4294967296 * c') (inv : V - P * c = n - T) : V + P * (v - x) - P * 4294967296 * c' = n - (T + P * y) := by
  have e : v - x = 4294967296 * c' - y - c := by omega
  rw [e, Int.mul_sub, Int.mul_sub, Int.mul_assoc]
  omega
theorem dif_of {n m v c : Int} (hn : Num n) (hm : Num m) (v0 : 0 ≤ v) (v1 : v < 4294967296 ^ 8) (c0 : 0 ≤ c) (c1 : c ≤ 1) (e : v - 4294967296 ^ 8 * c = n - m) : v = difN n m ∧ c = borN n m := by
  obtain ⟨_, _⟩ := hn; obtain ⟨_, _⟩ := hm
  rw [show (4294967296 : Int) ^ 8 = 115792089237316195423570985008687907853269984665640564039457584007913129639936 by decide] at *
  unfold difN borN
  by_cases h : n < m
  · rw [if_pos h]; exact ⟨by omega, by omega⟩
  · rw [if_neg h]; exact ⟨by omega, by omega⟩
theorem add_step {P V T n x y c c' v : Int} (hv : v + 4294967296 * c' = x + y + c) (inv : V + P * c = n + T) : V + P * (v - x) + P * 4294967296 * c' = n + (T + P * y) := by
  have e : v - x = y + c - 4294967296 * c' := by omega
  rw [e, Int.mul_sub, Int.mul_add, Int.mul_assoc]
  omega
theorem sum_of {n m v c : Int} (v0 : 0 ≤ v) (v1 : v < 4294967296 ^ 8) (e : v + 4294967296 ^ 8 * c = n + m) : v = sumN n m ∧ c = carN n m := by
  rw [show (4294967296 : Int) ^ 8 = 115792089237316195423570985008687907853269984665640564039457584007913129639936 by decide] at *
  unfold sumN carN
  exact ⟨by omega, by omega⟩
end Go.Proofs.YtmhcgjkemlcgoaaDoor

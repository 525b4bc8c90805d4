import Derived.Test.YtjppjieidjodfabDoorNum
/- Long division, limb by limb: the numbers of lists of limbs. -/
namespace Go.Proofs.YtjppjieidjodfabDoor

def val : List Int → Int
  | [] => 0
  | x :: xs => x + 18446744073709551616 * val xs
def Words (l : List Int) : Prop := ∀ x ∈ l, Word x

theorem val_nonneg : ∀ {l : List Int}, Words l → 0 ≤ val l ∧ val l < 18446744073709551616 ^ l.length
  | [], _ => by simp [val]
  | x :: xs, h => by
    have hx := h x (by simp)
    have := val_nonneg (l := xs) (fun y hy => h y (by simp [hy]))
    obtain ⟨_, _⟩ := hx
    simp only [val, List.length_cons, Int.pow_succ]
    generalize (18446744073709551616 : Int) ^ xs.length = p at *
    omega

/-- u less d times q, limb by limb. -/
def takeL : List Int → List Int → Int → Int → Int → List Int × Int
  | u :: us, d :: ds, q, h, b => (subS u (maL d q h 0) b :: (takeL us ds q (maH d q h 0) (subB u (maL d q h 0) b)).1, (takeL us ds q (maH d q h 0) (subB u (maL d q h 0) b)).2)
  | u :: _, [], _, h, b => ([subS u h b], subB u h b)
  | [], _, _, _, _ => ([], 0)

theorem takeL_spec {q : Int} (hq : Word q) : ∀ (ds us : List Int) (h b : Int), us.length = ds.length + 1 → Words us → Words ds → Word h → 0 ≤ b ∧ b ≤ 1 →
    (takeL us ds q h b).1.length = us.length ∧ Words (takeL us ds q h b).1 ∧ (0 ≤ (takeL us ds q h b).2 ∧ (takeL us ds q h b).2 ≤ 1) ∧
    val (takeL us ds q h b).1 - 18446744073709551616 ^ us.length * (takeL us ds q h b).2 = val us - q * val ds - h - b
  | [], us, h, b, hl, hu, _, hh, hb => by
    match us, hl with
    | [u], _ =>
      have hu := hu u (by simp)
      have e := subS_eq hu hh hb
      refine ⟨rfl, fun x hx => ?_, subB_bit _ _ _, ?_⟩
      · simp only [takeL, List.mem_singleton] at hx; rw [hx]; exact subS_word _ _ _
      · simp only [takeL, val, List.length_cons, List.length_nil]
        rw [show (18446744073709551616 : Int) ^ (0 + 1) = 18446744073709551616 by decide]
        omega
  | d :: ds, us, h, b, hl, hu, hd, hh, hb => by
    match us, hl with
    | u :: us, hl =>
      have h1 := hu u (by simp)
      have h2 := hd d (by simp)
      have e := subS_eq h1 (maL_word d q h 0) hb
      have e' := ma_eq d q h 0
      obtain ⟨r1, r2, r3, r4⟩ := takeL_spec hq ds us (maH d q h 0) (subB u (maL d q h 0) b) (by simpa using hl) (fun x hx => hu x (by simp [hx])) (fun x hx => hd x (by simp [hx])) (maH_word h2 hq hh ⟨by decide, by decide⟩) (subB_bit _ _ _)
      refine ⟨by simp only [takeL, List.length_cons, r1], fun x hx => ?_, r3, ?_⟩
      · simp only [takeL, List.mem_cons] at hx
        rcases hx with rfl | hx
        · exact subS_word _ _ _
        · exact r2 x hx
      · simp only [takeL, val, List.length_cons, Int.pow_succ]
        rw [Int.mul_add, Int.mul_left_comm q, Int.mul_comm q d, Int.mul_right_comm]
        generalize (takeL us ds q (maH d q h 0) (subB u (maL d q h 0) b)).2 = c at *
        generalize val (takeL us ds q (maH d q h 0) (subB u (maL d q h 0) b)).1 = v at *
        generalize (18446744073709551616 : Int) ^ us.length * c = p at *
        generalize q * val ds = s at *
        generalize d * q = t at *
        omega

/-- u and d, limb by limb. -/
def giveL : List Int → List Int → Int → List Int × Int
  | u :: us, d :: ds, c => (addS u d c :: (giveL us ds (addC u d c)).1, (giveL us ds (addC u d c)).2)
  | u :: _, [], c => ([addS u 0 c], addC u 0 c)
  | [], _, _ => ([], 0)

theorem giveL_spec : ∀ (ds us : List Int) (c : Int), us.length = ds.length + 1 → Words us → Words ds → 0 ≤ c ∧ c ≤ 1 →
    (giveL us ds c).1.length = us.length ∧ Words (giveL us ds c).1 ∧ (0 ≤ (giveL us ds c).2 ∧ (giveL us ds c).2 ≤ 1) ∧
    val (giveL us ds c).1 + 18446744073709551616 ^ us.length * (giveL us ds c).2 = val us + val ds + c
  | [], us, c, hl, hu, _, hc => by
    match us, hl with
    | [u], _ =>
      have hu := hu u (by simp)
      have e := addS_eq u 0 c
      refine ⟨rfl, fun x hx => ?_, addC_bit hu ⟨by decide, by decide⟩ hc, ?_⟩
      · simp only [giveL, List.mem_singleton] at hx; rw [hx]; exact addS_word _ _ _
      · simp only [giveL, val, List.length_cons, List.length_nil]
        rw [show (18446744073709551616 : Int) ^ (0 + 1) = 18446744073709551616 by decide]
        omega
  | d :: ds, us, c, hl, hu, hd, hc => by
    match us, hl with
    | u :: us, hl =>
      have h1 := hu u (by simp)
      have h2 := hd d (by simp)
      have e := addS_eq u d c
      obtain ⟨r1, r2, r3, r4⟩ := giveL_spec ds us (addC u d c) (by simpa using hl) (fun x hx => hu x (by simp [hx])) (fun x hx => hd x (by simp [hx])) (addC_bit h1 h2 hc)
      refine ⟨by simp only [giveL, List.length_cons, r1], fun x hx => ?_, r3, ?_⟩
      · simp only [giveL, List.mem_cons] at hx
        rcases hx with rfl | hx
        · exact addS_word _ _ _
        · exact r2 x hx
      · simp only [giveL, val, List.length_cons, Int.pow_succ]
        rw [Int.mul_right_comm]
        generalize (giveL us ds (addC u d c)).2 = b at *
        generalize val (giveL us ds (addC u d c)).1 = v at *
        generalize (18446744073709551616 : Int) ^ us.length * b = p at *
        omega

end Go.Proofs.YtjppjieidjodfabDoor

/- The numbers modulo 2^256 are a ring. -/
namespace Go.Proofs.YtjppjieidjodfabDoor

theorem mod_mul (a b c : Int) : a % c * b % c = a * b % c := by rw [Int.mul_emod, Int.emod_emod, ← Int.mul_emod]
theorem mul_mod (a b c : Int) : a * (b % c) % c = a * b % c := by rw [Int.mul_emod, Int.emod_emod, ← Int.mul_emod]
theorem sumN_comm (n m : Int) : sumN n m = sumN m n := by unfold sumN; omega
theorem sumN_assoc (n m k : Int) : sumN (sumN n m) k = sumN n (sumN m k) := by unfold sumN; omega
theorem sumN_zero {n : Int} (h : Num n) : sumN n 0 = n := by obtain ⟨_, _⟩ := h; unfold sumN; omega
theorem loN_comm (n m : Int) : loN n m = loN m n := by unfold loN; rw [Int.mul_comm]
theorem loN_assoc (n m k : Int) : loN (loN n m) k = loN n (loN m k) := by
  unfold loN
  rw [mod_mul, mul_mod, Int.mul_assoc]
theorem loN_sum (n m k : Int) : loN n (sumN m k) = sumN (loN n m) (loN n k) := by
  unfold loN sumN
  rw [mul_mod, Int.mul_add]
  generalize n * m = p; generalize n * k = q
  omega
theorem loN_one {n : Int} (h : Num n) : loN n 1 = n := by obtain ⟨_, _⟩ := h; unfold loN; omega
theorem loN_zero (n : Int) : loN n 0 = 0 := by unfold loN; omega
theorem dif_back {n m : Int} (hn : Num n) (hm : Num m) : sumN (difN n m) m = n ∧ carN (difN n m) m = borN n m := by
  obtain ⟨_, _⟩ := hn; obtain ⟨_, _⟩ := hm
  unfold sumN difN carN borN
  split <;> constructor <;> omega
theorem bor_cmp (n m : Int) : (borN n m = 1 ∧ cmpN n m < 0) ∨ (borN n m = 0 ∧ 0 ≤ cmpN n m) := by
  unfold borN cmpN
  by_cases h : n < m
  · left; rw [if_pos h, if_neg (by omega), if_pos h]; decide
  · right; rw [if_neg h]; refine ⟨rfl, ?_⟩; split <;> decide
theorem Num_zero : Num 0 := by unfold Num; decide
theorem Num_one : Num 1 := by unfold Num; decide
/-- The whole product is 0 just if a factor is. -/
theorem prod_cases {n m : Int} (hn : Num n) (hm : Num m) :
    (n = 0 ∧ hiN n m = 0 ∧ loN n m = 0) ∨ (n ≠ 0 ∧ m = 0 ∧ hiN n m = 0 ∧ loN n m = 0) ∨ (n ≠ 0 ∧ m ≠ 0 ∧ hiN n m = 0 ∧ loN n m ≠ 0) ∨ (n ≠ 0 ∧ m ≠ 0 ∧ hiN n m ≠ 0) := by
  by_cases h : n = 0
  · left; subst h; refine ⟨rfl, ?_, ?_⟩ <;> simp [hiN, loN]
  by_cases h' : m = 0
  · right; left; subst h'; refine ⟨h, rfl, ?_, ?_⟩ <;> simp [hiN, loN]
  right; right
  by_cases h2 : hiN n m = 0
  · left
    refine ⟨h, h', h2, fun h3 => ?_⟩
    have : n * m = 0 := by
      unfold hiN at h2; unfold loN at h3
      generalize n * m = p at *
      omega
    rcases Int.mul_eq_zero.1 this with h4 | h4
    · exact h h4
    · exact h' h4
  · right; exact ⟨h, h', h2⟩

end Go.Proofs.YtjppjieidjodfabDoor

/- Numbers as rows of 32-bit digits, the lowest first. -/
namespace Go.Proofs.YtjppjieidjodfabDoor

def vd : List Int → Int
  | [] => 0
  | x :: xs => x + 4294967296 * vd xs
def Dig (x : Int) : Prop := 0 ≤ x ∧ x < 4294967296
def Digs (l : List Int) : Prop := ∀ x ∈ l, Dig x

theorem vd_bound : ∀ {l : List Int}, Digs l → 0 ≤ vd l ∧ vd l < 4294967296 ^ l.length
  | [], _ => by simp [vd]
  | x :: xs, h => by
    obtain ⟨_, _⟩ := h x (by simp)
    have := vd_bound (l := xs) (fun y hy => h y (by simp [hy]))
    simp only [vd, List.length_cons, Int.pow_succ]
    generalize (4294967296 : Int) ^ xs.length = p at *
    omega

theorem vd_set : ∀ (l : List Int) (i : Nat) (v : Int), i < l.length → vd (l.set i v) = vd l + 4294967296 ^ i * (v - l.getD i 0)
  | [], i, v, h => by simp at h
  | x :: xs, 0, v, _ => by simp [vd]; omega
  | x :: xs, i + 1, v, h => by
    have := vd_set xs i v (by simpa using h)
    simp only [List.set_cons_succ, vd, List.getD_cons_succ, Int.pow_succ]
    rw [this, Int.mul_right_comm, Int.mul_comm _ (4294967296 : Int)]
    generalize (4294967296 : Int) ^ i * (v - xs.getD i 0) = p
    omega

theorem vd_take : ∀ (l : List Int) (i : Nat), i < l.length → vd (l.take (i + 1)) = vd (l.take i) + 4294967296 ^ i * l.getD i 0
  | [], i, h => by simp at h
  | x :: xs, 0, _ => by simp [vd]
  | x :: xs, i + 1, h => by
    have := vd_take xs i (by simpa using h)
    simp only [List.take_succ_cons, vd, List.getD_cons_succ, Int.pow_succ] at this ⊢
    rw [this, Int.mul_right_comm, Int.mul_comm _ (4294967296 : Int)]
    generalize (4294967296 : Int) ^ i * xs.getD i 0 = p
    omega

theorem Digs.getD {l : List Int} (h : Digs l) (i : Nat) : Dig (l.getD i 0) := by
  by_cases c : i < l.length
  · have : l.getD i 0 = l[i] := by simp [List.getD, c]
    rw [this]; exact h _ (List.getElem_mem c)
  · have : l.getD i 0 = 0 := by simp [List.getD, List.getElem?_eq_none (Nat.le_of_not_lt c)]
    rw [this]; exact ⟨by decide, by decide⟩
theorem Digs.set {l : List Int} (h : Digs l) (i : Nat) {v : Int} (hv : Dig v) : Digs (l.set i v) := fun x hx => by
  rcases List.mem_or_eq_of_mem_set hx with h' | h'
  · exact h x h'
  · rw [h']; exact hv
theorem Digs.of8 {a b c d e f g h : Int} (h0 : Dig a) (h1 : Dig b) (h2 : Dig c) (h3 : Dig d) (h4 : Dig e) (h5 : Dig f) (h6 : Dig g) (h7 : Dig h) : Digs [a, b, c, d, e, f, g, h] := by
  intro x hx
  simp only [List.mem_cons, List.not_mem_nil, or_false] at hx
  rcases hx with rfl | rfl | rfl | rfl | rfl | rfl | rfl | rfl <;> assumption
theorem len8 {l : List Int} (h : l.length = 8) : ∃ a b c d e f g i, l = [a, b, c, d, e, f, g, i] := by
  match l, h with
  | [a, b, c, d, e, f, g, i], _ => exact ⟨a, b, c, d, e, f, g, i, rfl⟩

/-- The digits of a number. -/
def dl (n : Int) : List Int := [l0 n % 4294967296, l0 n / 4294967296, l1 n % 4294967296, l1 n / 4294967296, l2 n % 4294967296, l2 n / 4294967296, l3 n % 4294967296, l3 n / 4294967296]
theorem dig_of {x : Int} (h : Word x) : Dig (x % 4294967296) ∧ Dig (x / 4294967296) := by
  obtain ⟨_, _⟩ := h
  exact ⟨⟨by omega, by omega⟩, ⟨by omega, by omega⟩⟩
theorem dl_digs (n : Int) : Digs (dl n) := Digs.of8 (dig_of (l0_word n)).1 (dig_of (l0_word n)).2 (dig_of (l1_word n)).1 (dig_of (l1_word n)).2 (dig_of (l2_word n)).1 (dig_of (l2_word n)).2 (dig_of (l3_word n)).1 (dig_of (l3_word n)).2
theorem dl_vd {n : Int} (h : Num n) : vd (dl n) = n := by
  have e := num_l h
  unfold num at e
  simp only [dl, vd]
  omega
/-- Eight digits tell the limbs of their number. -/
theorem vd_limbs {d0 d1 d2 d3 d4 d5 d6 d7 n : Int} (h : Digs [d0, d1, d2, d3, d4, d5, d6, d7]) (e : vd [d0, d1, d2, d3, d4, d5, d6, d7] = n) :
    Num n ∧ d0 + 4294967296 * d1 = l0 n ∧ d2 + 4294967296 * d3 = l1 n ∧ d4 + 4294967296 * d5 = l2 n ∧ d6 + 4294967296 * d7 = l3 n := by
  obtain ⟨_, _⟩ := h d0 (by simp); obtain ⟨_, _⟩ := h d1 (by simp); obtain ⟨_, _⟩ := h d2 (by simp); obtain ⟨_, _⟩ := h d3 (by simp)
  obtain ⟨_, _⟩ := h d4 (by simp); obtain ⟨_, _⟩ := h d5 (by simp); obtain ⟨_, _⟩ := h d6 (by simp); obtain ⟨_, _⟩ := h d7 (by simp)
  simp only [vd] at e
  unfold l0 l1 l2 l3 Num
  refine ⟨⟨by omega, by omega⟩, by omega, by omega, by omega, by omega⟩

theorem sub_step {P V T n x y c c' v : Int} (hv : v = x - (y + c) + 4294967296 * c') (inv : V - P * c = n - T) : V + P * (v - x) - P * 4294967296 * c' = n - (T + P * y) := by
  have e : v - x = 4294967296 * c' - y - c := by omega
  rw [e, Int.mul_sub, Int.mul_sub, Int.mul_assoc]
  omega
theorem dif_of {n m v c : Int} (hn : Num n) (hm : Num m) (v0 : 0 ≤ v) (v1 : v < 4294967296 ^ 8) (c0 : 0 ≤ c) (c1 : c ≤ 1) (e : v - 4294967296 ^ 8 * c = n - m) : v = difN n m ∧ c = borN n m := by
  obtain ⟨_, _⟩ := hn; obtain ⟨_, _⟩ := hm
  rw [show (4294967296 : Int) ^ 8 = 115792089237316195423570985008687907853269984665640564039457584007913129639936 by decide] at *
  unfold difN borN
  by_cases h : n < m
  · rw [if_pos h]; exact ⟨by omega, by omega⟩
  · rw [if_neg h]; exact ⟨by omega, by omega⟩
theorem add_step {P V T n x y c c' v : Int} (hv : v + 4294967296 * c' = x + y + c) (inv : V + P * c = n + T) : V + P * (v - x) + P * 4294967296 * c' = n + (T + P * y) := by
  have e : v - x = y + c - 4294967296 * c' := by omega
  rw [e, Int.mul_sub, Int.mul_add, Int.mul_assoc]
  omega
theorem sum_of {n m v c : Int} (v0 : 0 ≤ v) (v1 : v < 4294967296 ^ 8) (e : v + 4294967296 ^ 8 * c = n + m) : v = sumN n m ∧ c = carN n m := by
  rw [show (4294967296 : Int) ^ 8 = 115792089237316195423570985008687907853269984665640564039457584007913129639936 by decide] at *
  unfold sumN carN
  exact ⟨by omega, by omega⟩
theorem mul_step {P0 Q V T n x a y c c' v : Int} (hv : v + 4294967296 * c' = x + a * y + c) (inv : V + P0 * Q * c = n + P0 * (a * T)) : V + P0 * Q * (v - x) + P0 * Q * 4294967296 * c' = n + P0 * (a * (T + Q * y)) := by
  have e : v - x = a * y + c - 4294967296 * c' := by omega
  have h1 : P0 * Q * (a * y) = P0 * (a * (Q * y)) := by rw [Int.mul_assoc, Int.mul_left_comm Q a y]
  have h2 : P0 * Q * (4294967296 * c') = P0 * Q * 4294967296 * c' := by rw [Int.mul_assoc (P0 * Q)]
  have h3 : P0 * (a * (T + Q * y)) = P0 * (a * T) + P0 * (a * (Q * y)) := by rw [Int.mul_add, Int.mul_add]
  rw [e, Int.mul_sub, Int.mul_add, h1, h2, h3]
  omega

theorem vd_split : ∀ (l : List Int) (k : Nat), k ≤ l.length → vd l = vd (l.take k) + 4294967296 ^ k * vd (l.drop k)
  | l, 0, _ => by simp [vd]
  | [], k + 1, h => by simp at h
  | x :: xs, k + 1, h => by
    have := vd_split xs k (by simpa using h)
    simp only [List.take_succ_cons, List.drop_succ_cons, vd, Int.pow_succ]
    rw [this, Int.mul_right_comm, Int.mul_comm _ (4294967296 : Int)]
    generalize (4294967296 : Int) ^ k * vd (xs.drop k) = p
    omega
theorem ext_getD {l l' : List Int} (h : l.length = l'.length) (e : ∀ t, t < l.length → l.getD t 0 = l'.getD t 0) : l = l' := by
  apply List.ext_getElem h
  intro t h1 h2
  have := e t h1
  simpa [List.getD, h1, h2] using this
theorem getD_set_ne {l : List Int} {i t : Nat} (h : t ≠ i) (v : Int) : (l.set i v).getD t 0 = l.getD t 0 := by
  simp [List.getD, List.getElem?_set_ne (Ne.symm h)]
theorem getD_set_eq {l : List Int} {i : Nat} (h : i < l.length) (v : Int) : (l.set i v).getD i 0 = v := by
  simp [List.getD, h]
theorem getD_take {l : List Int} {k t : Nat} (h : t < k) : (l.take k).getD t 0 = l.getD t 0 := by
  simp [List.getD, h]
theorem getD_drop {l : List Int} (k t : Nat) : (l.drop k).getD t 0 = l.getD (t + k) 0 := by
  simp [List.getD, List.getElem?_drop, Nat.add_comm]
theorem Digs.take {l : List Int} (h : Digs l) (k : Nat) : Digs (l.take k) := fun x hx => h x (List.mem_of_mem_take hx)
theorem Digs.drop {l : List Int} (h : Digs l) (k : Nat) : Digs (l.drop k) := fun x hx => h x (List.mem_of_mem_drop hx)
theorem mul_of {n m u v : Int} (u0 : 0 ≤ u) (u1 : u < 4294967296 ^ 8) (e : u + 4294967296 ^ 8 * v = n * m) : u = loN n m ∧ v = hiN n m := by
  rw [show (4294967296 : Int) ^ 8 = 115792089237316195423570985008687907853269984665640564039457584007913129639936 by decide] at *
  unfold loN hiN
  exact ⟨by omega, by omega⟩
theorem mul_out {P V T x m c : Int} (inv : V + P * 4294967296 ^ 8 * c = T * m + P * (x * m)) : V + P * 4294967296 ^ 8 * c = (T + P * x) * m := by
  rw [inv, Int.add_mul, Int.mul_assoc]
theorem zeros_getD (k t : Nat) : (List.replicate k (0 : Int)).getD t 0 = 0 := by
  simp only [List.getD, List.getElem?_replicate]
  split <;> rfl
theorem prod_dig {x y p c : Int} (hx : Dig x) (hy : Dig y) (hp : Dig p) (hc : Dig c) : 0 ≤ x * y ∧ x * y < 18446744073709551616 ∧ 0 ≤ p + x * y + c ∧ p + x * y + c < 18446744073709551616 := by
  obtain ⟨x0, x1⟩ := hx; obtain ⟨y0, y1⟩ := hy; obtain ⟨p0, p1⟩ := hp; obtain ⟨c0, c1⟩ := hc
  have h0 := Int.mul_nonneg x0 y0
  have h1 : x * y ≤ 4294967295 * 4294967295 := Int.mul_le_mul (by omega) (by omega) y0 (by decide)
  omega

end Go.Proofs.YtjppjieidjodfabDoor

import Derived.Test.YtncpjgpioajbeaaGreatDoorCGrp
/- Multiples of points; every point is a multiple of a base of great odd order. -/
namespace Go.Proofs.YtncpjgpioajbeaaGreatDoor.EC

abbrev On (p : Pt) : Prop := OnC 7 p
theorem two : (2 : F) ≠ 0 := by decide +kernel
theorem three : (3 : F) ≠ 0 := by decide +kernel
theorem seven : (7 : F) ≠ 0 := by decide +kernel

theorem on_o : On .o := trivial
theorem Pt.comm {p q : Pt} (hp : On p) (hq : On q) : p.add q = q.add p := add_comm two hp hq
theorem Pt.assoc {p q r : Pt} (hp : On p) (hq : On q) (hr : On r) : (p.add q).add r = p.add (q.add r) := EC.assoc two three seven hp hq hr
theorem Pt.on {p q : Pt} (hp : On p) (hq : On q) : On (p.add q) := on_add two hp hq
theorem Pt.back {p q : Pt} (hp : On p) (hq : On q) : p.neg.add (p.add q) = q := cancel two three seven hp hq
theorem Pt.left {p q r : Pt} (hp : On p) (hq : On q) (hr : On r) (h : p.add q = p.add r) : q = r := by
  have a := Pt.back hp hq; have b := Pt.back hp hr
  rw [h] at a; rw [← a, b]
theorem Pt.right {p q r : Pt} (hp : On p) (hq : On q) (hr : On r) (h : q.add p = r.add p) : q = r := by
  rw [Pt.comm hq hp, Pt.comm hr hp] at h; exact Pt.left hp hq hr h
/-- (a + b) + (c + d) = (a + c) + (b + d). -/
theorem Pt.four {a b c d : Pt} (ha : On a) (hb : On b) (hc : On c) (hd : On d) : (a.add b).add (c.add d) = (a.add c).add (b.add d) := by
  rw [Pt.assoc ha hb (Pt.on hc hd), ← Pt.assoc hb hc hd, Pt.comm hb hc, Pt.assoc hc hb hd, ← Pt.assoc ha hc (Pt.on hb hd)]

def smul : Nat → Pt → Pt
  | 0, _ => .o
  | k + 1, p => (smul k p).add p

theorem smul_on {p : Pt} (hp : On p) : ∀ k, On (smul k p)
  | 0 => on_o
  | k + 1 => Pt.on (smul_on hp k) hp
theorem smul_one (p : Pt) : smul 1 p = p := rfl
theorem smul_add {p : Pt} (hp : On p) (a : Nat) : ∀ b, smul (a + b) p = (smul a p).add (smul b p)
  | 0 => (add_o _).symm
  | b + 1 => by
    show (smul (a + b) p).add p = (smul a p).add ((smul b p).add p)
    rw [smul_add hp a b, Pt.assoc (smul_on hp a) (smul_on hp b) hp]
theorem smul_o : ∀ k, smul k .o = .o
  | 0 => rfl
  | k + 1 => by show (smul k .o).add .o = .o; rw [smul_o k]; rfl
theorem smul_mul {p : Pt} (hp : On p) (a : Nat) : ∀ b, smul (a * b) p = smul b (smul a p)
  | 0 => rfl
  | b + 1 => by
    show smul (a * (b + 1)) p = (smul b (smul a p)).add (smul a p)
    rw [Nat.mul_succ, smul_add hp, smul_mul hp a b]
/-- No more things than places. -/
theorem php : ∀ (M K : Nat) (f : Nat → Nat), (∀ i, i < K → f i < M) → (∀ i j, i < K → j < K → f i = f j → i = j) → K ≤ M
  | 0, K, f, h, _ => by
    cases K with
    | zero => exact Nat.le_refl 0
    | succ K => exact absurd (h 0 (Nat.succ_pos K)) (Nat.not_lt_zero _)
  | M + 1, K, f, h, inj => by
    cases K with
    | zero => exact Nat.zero_le _
    | succ K =>
      refine Nat.succ_le_succ (php M K (fun i => if f i = M then f K else f i) ?_ ?_)
      · intro i hi
        show (if f i = M then f K else f i) < M
        have h1 := h i (Nat.lt_succ_of_lt hi)
        have h2 := h K (Nat.lt_succ_self K)
        split
        · next e =>
          have : f K ≠ M := fun e' => by
            have := inj i K (Nat.lt_succ_of_lt hi) (Nat.lt_succ_self K) (by rw [e, e'])
            omega
          omega
        · next e => omega
      · intro i j hi hj e
        have e' : (if f i = M then f K else f i) = (if f j = M then f K else f j) := e
        have I := inj i j (Nat.lt_succ_of_lt hi) (Nat.lt_succ_of_lt hj)
        have I1 := inj K j (Nat.lt_succ_self K) (Nat.lt_succ_of_lt hj)
        have I2 := inj i K (Nat.lt_succ_of_lt hi) (Nat.lt_succ_self K)
        split at e' <;> split at e'
        · next a b => exact I (by rw [a, b])
        · have := I1 e'; omega
        · have := I2 e'; omega
        · exact I e'

/-- A point's number. -/
def code : Pt → Nat
  | .o => 0
  | .a x y => 1 + 2 * x.val + y.val % 2
theorem code_lt (p : Pt) : code p < 231584178474632390847141970017375815706539969331281128078915168015817669343327 := by
  cases p with
  | o => show 0 < _; omega
  | a x y => show 1 + 2 * x.val + y.val % 2 < _; have := x.isLt; omega
theorem par0 {p a b : Nat} (hb : b < p) (hp : p % 2 = 1) (h : a = p - b) (e : a % 2 = b % 2) : a = b := by omega
theorem par1 {p a b : Nat} (hb : b < p) (hp : p % 2 = 1) (h : a = (p - b) % p) (e : a % 2 = b % 2) : a = b := by
  by_cases h0 : b = 0
  · subst h0; rw [h, Nat.sub_zero, Nat.mod_self]
  · rw [Nat.mod_eq_of_lt (by omega)] at h; exact par0 hb hp h e
theorem code_num {a b c d : Nat} (h : 1 + 2 * a + b % 2 = 1 + 2 * c + d % 2) : a = c ∧ b % 2 = d % 2 := by omega
theorem code_a (x y : F) : code (.a x y) = 1 + 2 * x.val + y.val % 2 := rfl
theorem code_not (a b : Nat) : 1 + 2 * a + b % 2 ≠ 0 := by omega
theorem code_inj {p q : Pt} (hp : On p) (hq : On q) (h : code p = code q) : p = q := by
  cases p with
  | o =>
    cases q with
    | o => rfl
    | a x y => rw [code_a] at h; exact absurd h.symm (code_not _ _)
  | a x1 y1 =>
    cases q with
    | o => rw [code_a] at h; exact absurd h (code_not _ _)
    | a x2 y2 =>
      rw [code_a, code_a] at h
      obtain ⟨h1, h3⟩ := code_num h
      have hx : x1 = x2 := Fin.ext h1
      subst hx
      by_cases hn : y1 = -y2
      · have hy : y1 = y2 := Fin.ext (par1 y2.isLt (by decide +kernel) (by rw [hn, Fin.neg_def]) h3)
        rw [hy]
      · rw [y_cases hp hq hn]

/-- No point makes the identity with itself. -/
def NoTwo : Prop := ∀ x : F, x * x * x + 7 ≠ 0
theorem no_two (h : NoTwo) {p : Pt} (hp : On p) (e : p.add p = .o) : p = .o := by
  cases p with
  | o => rfl
  | a x y =>
    rw [add_aa] at e
    by_cases hn : x = x ∧ y = -y
    · exfalso
      have e2 : 2 * y = 0 := by have := hn.2; grind -lia -linarith
      have e3 := mul0 e2 two
      have hp' : y * y = x * x * x + 7 := hp
      rw [e3] at hp'
      exact h x (by rw [← hp']; rfl)
    · rw [if_neg hn] at e; cases e

/-- A base whose order is odd, and great. -/
structure Base (n : Nat) (g : Pt) : Prop where
  on : On g
  ord : smul n g = .o
  low : ∀ k, 0 < k → k < n → smul k g ≠ .o
  odd : n % 2 = 1
  big : 231584178474632390847141970017375815706539969331281128078915168015817669343327 < 3 * n

theorem Base.inj {n : Nat} {g : Pt} (h : Base n g) {i j : Nat} (hi : i < n) (hj : j < n) (e : smul i g = smul j g) : i = j := by
  have key : ∀ i j, i < n → j < n → i < j → smul i g = smul j g → False := by
    intro i j _ hj hlt e
    have e1 : smul i g = (smul i g).add (smul (j - i) g) := by
      rw [← smul_add h.on, Nat.add_sub_of_le (Nat.le_of_lt hlt)]; exact e
    have e2 : (smul i g).add .o = (smul i g).add (smul (j - i) g) := by rw [add_o]; exact e1
    have e3 := Pt.left (smul_on h.on i) on_o (smul_on h.on _) e2
    exact h.low (j - i) (by omega) (by omega) e3.symm
  rcases Nat.lt_trichotomy i j with hlt | heq | hgt
  · exact (key i j hi hj hlt e).elim
  · exact heq
  · exact (key j i hj hi hgt e.symm).elim

theorem Base.neg {n : Nat} {g : Pt} (h : Base n g) {i : Nat} (hi : i ≤ n) : (smul i g).neg = smul (n - i) g := by
  have e : (smul i g).add (smul (n - i) g) = (smul i g).add (smul i g).neg := by
    rw [← smul_add h.on, Nat.add_sub_of_le hi, h.ord, add_neg]
  exact (Pt.left (smul_on h.on i) (smul_on h.on _) (on_neg (smul_on h.on i)) e).symm

theorem Base.mod {n : Nat} {g : Pt} (h : Base n g) (k : Nat) : smul k g = smul (k % n) g := by
  have e := Nat.div_add_mod k n
  conv => lhs; rw [← e]
  rw [smul_add h.on, smul_mul h.on, h.ord, smul_o]; rfl

/-- A multiple of the base. -/
def Of (g p : Pt) : Prop := ∃ k, p = smul k g

theorem Base.of_neg {n : Nat} {g p : Pt} (h : Base n g) (hn : 0 < n) (hp : Of g p) : Of g p.neg := by
  obtain ⟨k, rfl⟩ := hp
  rw [h.mod k, h.neg (Nat.le_of_lt (Nat.mod_lt k hn))]
  exact ⟨_, rfl⟩
theorem Base.of_add {n : Nat} {g p q : Pt} (h : Base n g) (hp : Of g p) (hq : Of g q) : Of g (p.add q) := by
  obtain ⟨k, rfl⟩ := hp; obtain ⟨l, rfl⟩ := hq
  exact ⟨k + l, (smul_add h.on k l).symm⟩

theorem Base.half {n : Nat} {g p : Pt} (hz : NoTwo) (h : Base n g) (hp : On p) (h2 : Of g (p.add p)) : Of g p := by
  obtain ⟨k, hk⟩ := h2
  have : ∃ j, smul k g = smul (j + j) g := by
    have := h.odd
    by_cases hk2 : k % 2 = 0
    · exact ⟨k / 2, by rw [show k / 2 + k / 2 = k by omega]⟩
    · refine ⟨(k + n) / 2, ?_⟩
      rw [show (k + n) / 2 + (k + n) / 2 = k + n by omega, smul_add h.on, h.ord, add_o]
  obtain ⟨j, hj⟩ := this
  have hjn := on_neg (smul_on h.on j)
  have e : (p.add (smul j g).neg).add (p.add (smul j g).neg) = .o := by
    rw [Pt.four hp hjn hp hjn, ← neg_add two (smul_on h.on j) (smul_on h.on j), hk, hj, smul_add h.on, add_neg]
  have e1 := no_two hz (Pt.on hp hjn) e
  have e2 : p = smul j g := by
    have : p.add (smul j g).neg = (smul j g).add (smul j g).neg := by rw [e1, add_neg]
    exact Pt.right hjn hp (smul_on h.on j) this
  exact ⟨j, e2⟩

/-- Every point is a multiple of the base. -/
theorem Base.all {n : Nat} {g : Pt} (hz : NoTwo) (h : Base n g) {p : Pt} (hp : On p) : Of g p := by
  have hn : 0 < n := by have := h.odd; omega
  apply Classical.byContradiction
  intro hno
  have hpn := on_neg hp
  have neg_no : ¬ Of g p.neg := fun hc => hno (by have := h.of_neg hn hc; rwa [neg_neg] at this)
  have two_no : ¬ Of g (p.add p) := fun hc => hno (h.half hz hp hc)
  have twn_no : ¬ Of g (p.neg.add p.neg) := fun hc => two_no (by
    have := h.of_neg hn hc
    rw [neg_add two hpn hpn, neg_neg] at this; exact this)
  let e : Nat → Pt := fun j => if j = 0 then .o else if j = 1 then p else p.neg
  have eon : ∀ j, On (e j) := by
    intro j; show On (if j = 0 then .o else if j = 1 then p else p.neg)
    split
    · exact on_o
    · split
      · exact hp
      · exact hpn
  -- a difference of two of the three
  have diff : ∀ a b, a < 3 → b < 3 → a ≠ b → ¬ Of g ((e a).add (e b).neg) := by
    intro a b ha hb hab
    have e0 : e 0 = .o := rfl
    have e1 : e 1 = p := rfl
    have e2 : e 2 = p.neg := rfl
    have c : (a = 0 ∨ a = 1 ∨ a = 2) ∧ (b = 0 ∨ b = 1 ∨ b = 2) := by omega
    obtain ⟨ca, cb⟩ := c
    rcases ca with rfl | rfl | rfl <;> rcases cb with rfl | rfl | rfl
    · exact absurd rfl hab
    · rw [e0, e1, o_add]; exact neg_no
    · rw [e0, e2, o_add, neg_neg]; exact hno
    · rw [e0, e1]; show ¬ Of g (p.add .o); rw [add_o]; exact hno
    · exact absurd rfl hab
    · rw [e1, e2, neg_neg]; exact two_no
    · rw [e0, e2]; show ¬ Of g (p.neg.add .o); rw [add_o]; exact neg_no
    · rw [e1, e2]; exact twn_no
    · exact absurd rfl hab
  have hb := h.big
  have := php 231584178474632390847141970017375815706539969331281128078915168015817669343327 (3 * n)
    (fun i => code ((smul (i / 3) g).add (e (i % 3)))) (fun i _ => code_lt _) ?_
  · omega
  · intro i j hi hj hc
    have hc' : code ((smul (i / 3) g).add (e (i % 3))) = code ((smul (j / 3) g).add (e (j % 3))) := hc
    have A := smul_on h.on (i / 3)
    have B := smul_on h.on (j / 3)
    have he := code_inj (Pt.on A (eon _)) (Pt.on B (eon _)) hc'
    by_cases hm : i % 3 = j % 3
    · rw [hm] at he
      have := h.inj (by omega) (by omega) (Pt.right (eon _) A B he)
      omega
    · exfalso
      refine diff _ _ (Nat.mod_lt i (by omega)) (Nat.mod_lt j (by omega)) hm ?_
      -- e a - e b = B - A
      have hx : (e (i % 3)).add (e (j % 3)).neg = (smul (j / 3) g).add (smul (i / 3) g).neg := by
        have An := on_neg A
        have En := on_neg (eon (j % 3))
        have l : ((smul (i / 3) g).add (e (i % 3))).add ((smul (i / 3) g).neg.add (e (j % 3)).neg) = (e (i % 3)).add (e (j % 3)).neg := by
          rw [Pt.four A (eon _) An En, add_neg, o_add]
        have r : ((smul (j / 3) g).add (e (j % 3))).add ((smul (i / 3) g).neg.add (e (j % 3)).neg) = (smul (j / 3) g).add (smul (i / 3) g).neg := by
          rw [Pt.four B (eon _) An En, add_neg, add_o]
        rw [← l, he, r]
      rw [hx]
      exact h.of_add ⟨_, rfl⟩ (h.of_neg hn ⟨_, rfl⟩)

theorem Base.zero {n : Nat} {g : Pt} (hz : NoTwo) (h : Base n g) {p : Pt} (hp : On p) : smul n p = .o := by
  obtain ⟨k, rfl⟩ := h.all hz hp
  rw [← smul_mul h.on, Nat.mul_comm, smul_mul h.on, h.ord, smul_o]
end Go.Proofs.YtncpjgpioajbeaaGreatDoor.EC

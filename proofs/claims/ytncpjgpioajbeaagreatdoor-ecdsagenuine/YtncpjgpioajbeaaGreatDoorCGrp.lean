import Derived.Test.YtncpjgpioajbeaaGreatDoorCFp
/- The points of the curve: the group, and points of three numbers. -/
namespace Go.Proofs.YtncpjgpioajbeaaGreatDoor.EC

inductive Pt where
  | o : Pt
  | a : F → F → Pt

def OnC (b : F) : Pt → Prop
  | .o => True
  | .a x y => y * y = x * x * x + b

def Pt.neg : Pt → Pt
  | .o => .o
  | .a x y => .a x (-y)

/-- The slope of the line through two points, chord or tangent. -/
def Sl (x1 y1 x2 y2 l : F) : Prop := l * (x1 - x2) = y1 - y2 ∧ l * (y1 + y2) = x1 * x1 + x1 * x2 + x2 * x2

def slope (x1 y1 x2 y2 : F) : F := if x1 = x2 then 3 * (x1 * x1) * iv (2 * y1) else (y2 - y1) * iv (x2 - x1)

def Pt.add : Pt → Pt → Pt
  | .o, q => q
  | .a x y, .o => .a x y
  | .a x1 y1, .a x2 y2 =>
    if x1 = x2 ∧ y1 = -y2 then .o else
      .a (slope x1 y1 x2 y2 * slope x1 y1 x2 y2 - x1 - x2)
        (slope x1 y1 x2 y2 * (x1 - (slope x1 y1 x2 y2 * slope x1 y1 x2 y2 - x1 - x2)) - y1)

theorem add_aa (x1 y1 x2 y2 : F) : Pt.add (.a x1 y1) (.a x2 y2) =
    if x1 = x2 ∧ y1 = -y2 then .o else
      .a (slope x1 y1 x2 y2 * slope x1 y1 x2 y2 - x1 - x2)
        (slope x1 y1 x2 y2 * (x1 - (slope x1 y1 x2 y2 * slope x1 y1 x2 y2 - x1 - x2)) - y1) := rfl

theorem mul0 {a b : F} (h : a * b = 0) (ha : a ≠ 0) : b = 0 := by
  have := inv1 ha
  generalize iv a = c at *
  grind -lia -linarith

theorem rT5 {a b : F} (h : a - b = 0) : a = b := by grind -lia -linarith
theorem rG1 {l x1 x y1 y : F} (hy : y = l * (x1 - x) - y1) : -l * (x1 - x) = -y1 - y := by grind -lia -linarith
theorem rG2 {l x1 x2 x y1 y2 y : F} (s1 : l * (x1 - x2) = y1 - y2) (s2 : l * (y1 + y2) = x1 * x1 + x1 * x2 + x2 * x2) (hx : x = l * l - x1 - x2) (hy : y = l * (x1 - x) - y1) :
    -l * (-y1 + y) = x1 * x1 + x1 * x + x * x := by grind -lia -linarith
theorem rG3 {l x1 x2 x : F} (hx : x = l * l - x1 - x2) : -l * -l - x1 - x = x2 := by grind -lia -linarith
theorem rG4 {l x1 x2 x y1 y2 : F} (s1 : l * (x1 - x2) = y1 - y2) (hx : x = l * l - x1 - x2) :
    -l * (x1 - (-l * -l - x1 - x)) - -y1 = y2 := by rw [rG3 hx]; grind -lia -linarith
theorem rK1 {l x1 x2 y1 y2 : F} (s1 : l * (x1 - x2) = y1 - y2) (s2 : l * (y1 + y2) = x1 * x1 + x1 * x2 + x2 * x2) :
    2 * l * y2 = x1 * x1 + x1 * x2 + x2 * x2 - l * l * (x1 - x2) := by grind -lia -linarith
theorem rK2 {l x1 x2 y1 y2 : F} (s1 : l * (x1 - x2) = y1 - y2) (s2 : l * (y1 + y2) = x1 * x1 + x1 * x2 + x2 * x2) :
    2 * l * y1 = x2 * x2 + x2 * x1 + x1 * x1 - l * l * (x2 - x1) := by grind -lia -linarith
theorem rK3 {l x1 x2 x y1 y2 y : F} (s1 : l * (x1 - x2) = y1 - y2) (hy : y = l * (x1 - x) - y1) : y = l * (x2 - x) - y2 := by grind -lia -linarith
theorem rK4 {m x2 x3 y2 y3 : F} (b1 : m * (x2 - x3) = y2 - y3) : y3 = y2 + m * (x3 - x2) := by grind -lia -linarith
theorem rK {l m x1 x2 x3 x y2 y3 y : F} (r1 : 2 * l * y2 = x1 * x1 + x1 * x2 + x2 * x2 - l * l * (x1 - x2)) (r2 : 2 * m * y2 = x3 * x3 + x3 * x2 + x2 * x2 - m * m * (x3 - x2))
    (hx : x = l * l - x1 - x2) (hy : y = l * (x2 - x) - y2) (h3 : y3 = y2 + m * (x3 - x2)) :
    (x1 - x3 - l * (l - m)) * (x - x3) = (l - m) * (y - y3) := by
  subst hx; subst hy; subst h3
  have e : ∀ A B C D : F, A = B → C = D → A - B - (C - D) = 0 := by grind -lia -linarith
  have e' := e _ _ _ _ r1 r2
  refine rT5 (Eq.trans ?_ e')
  clear e e' r1 r2
  grind -lia -linarith
theorem rT1 {l m x2 x y2 y : F} (hy : y = l * (x2 - x) - y2) (b1 : m * (x2 - x) = y2 - y) : (l - m) * (x2 - x) = 2 * y := by grind -lia -linarith
theorem rT2 {l x1 x2 x y1 y2 y : F} (s1 : l * (x1 - x2) = y1 - y2) (s2 : l * (y1 + y2) = x1 * x1 + x1 * x2 + x2 * x2) (hx : x = l * l - x1 - x2) (hy : y = l * (x1 - x) - y1) :
    2 * (l * y) + 3 * (x * x) = (x2 - x) * (x1 - x) := by grind -lia -linarith
theorem rT3 {n x y : F} (c : n * (y + y) = x * x + x * x + x * x) : 2 * (n * y) = 3 * (x * x) := by grind -lia -linarith
theorem rT4 {l m n x1 x2 x y : F} (g1 : (l - m) * (x2 - x) = 2 * y) (g2 : 2 * (l * y) + 3 * (x * x) = (x2 - x) * (x1 - x)) (g3 : 2 * (n * y) = 3 * (x * x)) :
    2 * y * ((l + n) * (l - m) - (x1 - x)) = 0 := by grind -lia -linarith
theorem rT6 {a b : F} (h : ¬ a = b) : a - b ≠ 0 := by grind -lia -linarith
theorem rT7 {l m n x1 x3 x y y3 : F} (k : (x1 - x3 - l * (l - m)) * (x - x3) = (l - m) * (y - y3)) (c : n * (x - x3) = y - y3) :
    (x - x3) * ((l + n) * (l - m) - (x1 - x3)) = 0 := by grind -lia -linarith
theorem rS1 {m x2 x3 y2 y3 : F} (g : m * (x2 - x3) = y2 - y3) : m * (x3 - (m * m - x3 - x2)) - y3 = m * (x2 - (m * m - x2 - x3)) - y2 := by grind -lia -linarith
theorem rS2 {m x2 x3 : F} : m * m - x3 - x2 = m * m - x2 - x3 := by grind -lia -linarith
theorem rS3 {a b : F} (h : a = -b) : b = -a := by grind -lia -linarith
theorem rS4 {l v x1 x3 : F} (h : (l + v) * (l - l) = x1 - x3) : x1 = x3 := by grind -lia -linarith
theorem rS5 {l x1 x2 y1 y2 y3 : F} (g1 : l * (x1 - x2) = y1 - y2) (g2 : l * (x2 - x1) = y2 - y3) : y1 = y3 := by grind -lia -linarith
theorem rS6 {l m v w x1 x3 : F} (k1 : (l + v) * (l - m) = x1 - x3) (k2 : (m + w) * (m - l) = x3 - x1) : (l - m) * ((l + v) - (m + w)) = 0 := by grind -lia -linarith
theorem rS7 {l m v w : F} (h : (l + v) - (m + w) = 0) : w = l + v - m := by grind -lia -linarith
theorem rS8 {l m v x1 x2 x3 : F} (k1 : (l + v) * (l - m) = x1 - x3) :
    v * v - (l * l - x1 - x2) - x3 = (l + v - m) * (l + v - m) - x1 - (m * m - x2 - x3) := by grind -lia -linarith
theorem rS9 {l m v x1 x2 x3 x : F} (k1 : (l + v) * (l - m) = x1 - x3) (hx : x = v * v - (l * l - x1 - x2) - x3) :
    (l - m) * x = (l + v) * (x1 - x3) - 2 * (l * (x1 - x3)) + (l - m) * (x1 + x2 - x3) := by grind -lia -linarith
theorem rS10 {l m v x1 x2 x3 y1 y2 y3 x : F} (g1 : l * (x1 - x2) = y1 - y2) (g2 : m * (x2 - x3) = y2 - y3)
    (g3 : v * (l * l - x1 - x2 - x3) = l * (x1 - (l * l - x1 - x2)) - y1 - y3)
    (k3 : (l - m) * x = (l + v) * (x1 - x3) - 2 * (l * (x1 - x3)) + (l - m) * (x1 + x2 - x3)) :
    v * (l * l - x1 - x2 - x) - (l * (x1 - (l * l - x1 - x2)) - y1) = (l + v - m) * (x1 - x) - y1 := by
  have e : ∀ A B C D A' B' C' D' : F, A = B → C = D → A' = B' → C' = D' → A - B + (C - D) - (A' - B') - (C' - D') = 0 := by grind -lia -linarith
  have e' := e _ _ _ _ _ _ _ _ g3 k3 g1 g2
  refine rT5 (Eq.trans ?_ e')
  clear e e' g1 g2 g3 k3
  grind -lia -linarith

/-- Of one x: the same or opposite. -/
theorem y_cases {b x y1 y2 : F} (h1 : y1 * y1 = x * x * x + b) (h2 : y2 * y2 = x * x * x + b) (hn : ¬ y1 = -y2) : y1 = y2 := by
  have h : (y1 + y2) * (y1 - y2) = 0 := by grind -lia -linarith
  have h' := mul0 h (by grind -lia -linarith)
  grind -lia -linarith

theorem sl_slope {b x1 y1 x2 y2 : F} (h2 : (2 : F) ≠ 0) (p1 : y1 * y1 = x1 * x1 * x1 + b) (p2 : y2 * y2 = x2 * x2 * x2 + b)
    (hn : ¬ (x1 = x2 ∧ y1 = -y2)) : Sl x1 y1 x2 y2 (slope x1 y1 x2 y2) := by
  unfold Sl slope
  by_cases hx : x1 = x2
  · subst hx
    have hy := y_cases p1 p2 (fun h => hn ⟨rfl, h⟩)
    subst hy
    rw [if_pos rfl]
    have : 2 * y1 ≠ 0 := by
      intro h; have := mul0 h h2; grind -lia -linarith
    have := inv1 this
    grind -lia -linarith
  · rw [if_neg hx]
    have hd : x2 - x1 ≠ 0 := by grind -lia -linarith
    have := inv1 hd
    refine ⟨by grind -lia -linarith, ?_⟩
    have e : (x2 - x1) * ((y2 - y1) * iv (x2 - x1) * (y1 + y2) - (x1 * x1 + x1 * x2 + x2 * x2)) = 0 := by grind -lia -linarith
    have := mul0 e hd
    grind -lia -linarith

theorem sl_uniq {x1 y1 x2 y2 l m : F} (hn : ¬ (x1 = x2 ∧ y1 = -y2)) (hl : Sl x1 y1 x2 y2 l) (hm : Sl x1 y1 x2 y2 m) : l = m := by
  obtain ⟨a, b⟩ := hl; obtain ⟨c, d⟩ := hm
  by_cases hx : x1 = x2
  · have hy : y1 + y2 ≠ 0 := by grind -lia -linarith
    have e : (y1 + y2) * (l - m) = 0 := by grind -lia -linarith
    have := mul0 e hy; grind -lia -linarith
  · have hd : x1 - x2 ≠ 0 := by grind -lia -linarith
    have e : (x1 - x2) * (l - m) = 0 := by grind -lia -linarith
    have := mul0 e hd; grind -lia -linarith

/-- A sum by a slope. -/
theorem add_sl {b x1 y1 x2 y2 l : F} (h2 : (2 : F) ≠ 0) (p1 : y1 * y1 = x1 * x1 * x1 + b) (p2 : y2 * y2 = x2 * x2 * x2 + b)
    (hn : ¬ (x1 = x2 ∧ y1 = -y2)) (hl : Sl x1 y1 x2 y2 l) :
    Pt.add (.a x1 y1) (.a x2 y2) = .a (l * l - x1 - x2) (l * (x1 - (l * l - x1 - x2)) - y1) := by
  have e := sl_uniq hn (sl_slope h2 p1 p2 hn) hl
  rw [add_aa, if_neg hn, e]

theorem on_sl {b x1 y1 x2 y2 l : F} (p1 : y1 * y1 = x1 * x1 * x1 + b) (hl : Sl x1 y1 x2 y2 l) :
    (l * (x1 - (l * l - x1 - x2)) - y1) * (l * (x1 - (l * l - x1 - x2)) - y1) = (l * l - x1 - x2) * (l * l - x1 - x2) * (l * l - x1 - x2) + b := by
  obtain ⟨h1, h3⟩ := hl
  grind -lia -linarith

theorem on_add {b : F} (h2 : (2 : F) ≠ 0) {p q : Pt} (hp : OnC b p) (hq : OnC b q) : OnC b (p.add q) := by
  cases p with
  | o => exact hq
  | a x1 y1 =>
    cases q with
    | o => exact hp
    | a x2 y2 =>
      by_cases hn : x1 = x2 ∧ y1 = -y2
      · rw [add_aa, if_pos hn]; trivial
      · rw [add_sl h2 hp hq hn (sl_slope h2 hp hq hn)]
        exact on_sl hp (sl_slope h2 hp hq hn)

theorem on_neg {b : F} {p : Pt} (hp : OnC b p) : OnC b p.neg := by
  cases p with
  | o => trivial
  | a x y => unfold OnC Pt.neg at *; grind -lia -linarith

theorem neg_neg (p : Pt) : p.neg.neg = p := by
  cases p with
  | o => rfl
  | a x y => show Pt.a x (- -y) = _; rw [show - -y = y by grind -lia -linarith]

theorem add_o (p : Pt) : p.add .o = p := by cases p <;> rfl
theorem o_add (p : Pt) : Pt.add .o p = p := rfl

theorem add_neg (p : Pt) : p.add p.neg = .o := by
  cases p with
  | o => rfl
  | a x y => show Pt.add (.a x y) (.a x (-y)) = _; rw [add_aa, if_pos ⟨rfl, by grind -lia -linarith⟩]

theorem sl_comm {x1 y1 x2 y2 l : F} (h : Sl x1 y1 x2 y2 l) : Sl x2 y2 x1 y1 l := by
  obtain ⟨a, b⟩ := h; exact ⟨by grind -lia -linarith, by grind -lia -linarith⟩

theorem add_comm {b : F} (h2 : (2 : F) ≠ 0) {p q : Pt} (hp : OnC b p) (hq : OnC b q) : p.add q = q.add p := by
  cases p with
  | o => exact (add_o q).symm
  | a x1 y1 =>
    cases q with
    | o => rfl
    | a x2 y2 =>
      by_cases hn : x1 = x2 ∧ y1 = -y2
      · have hn' : x2 = x1 ∧ y2 = -y1 := ⟨hn.1.symm, by grind -lia -linarith⟩
        rw [add_aa, add_aa, if_pos hn, if_pos hn']
      · have hn' : ¬ (x2 = x1 ∧ y2 = -y1) := fun h => hn ⟨h.1.symm, by grind -lia -linarith⟩
        have s := sl_slope h2 hp hq hn
        rw [add_sl h2 hp hq hn s, add_sl h2 hq hp hn' (sl_comm s)]
        obtain ⟨e1, e2⟩ := s
        congr 1 <;> grind -lia -linarith

/-- -p + (p + q) = q. -/
theorem cancel {b : F} (h2 : (2 : F) ≠ 0) (h3 : (3 : F) ≠ 0) (hb : b ≠ 0) {p q : Pt} (hp : OnC b p) (hq : OnC b q) : p.neg.add (p.add q) = q := by
  cases p with
  | o => rfl
  | a x1 y1 =>
    cases q with
    | o => rw [add_o, add_comm h2 (on_neg hp) hp, add_neg]
    | a x2 y2 =>
      by_cases hn : x1 = x2 ∧ y1 = -y2
      · have e : Pt.add (.a x1 y1) (.a x2 y2) = .o := by rw [add_aa, if_pos hn]
        rw [e, add_o]; show Pt.a x1 (-y1) = _; rw [hn.1, hn.2, show - -y2 = y2 by grind -lia -linarith]
      · have s := sl_slope h2 hp hq hn
        have hon := on_sl hp s
        rw [add_sl h2 hp hq hn s]
        generalize slope x1 y1 x2 y2 = l at s hon ⊢
        obtain ⟨s1, s2⟩ := s
        obtain ⟨x, hx⟩ : ∃ x, x = l * l - x1 - x2 := ⟨_, rfl⟩
        obtain ⟨y, hy⟩ : ∃ y, y = l * (x1 - x) - y1 := ⟨_, rfl⟩
        rw [← hx, ← hy] at hon ⊢
        have hs : Sl x1 (-y1) x y (-l) := ⟨rG1 hy, rG2 s1 s2 hx hy⟩
        have hn' : ¬ (x1 = x ∧ -y1 = -y) := by
          intro ⟨e1, e2⟩
          have e3 : 2 * y1 = 0 := by grind -lia -linarith
          have e4 := mul0 e3 h2
          obtain ⟨s3, s4⟩ := hs
          have e5 : 3 * (x1 * x1) = 0 := by grind -lia -linarith
          have e6 := mul0 e5 h3
          have e7 : x1 = 0 := by
            by_cases h : x1 = 0
            · exact h
            · exact mul0 e6 h
          unfold OnC at hp
          exact hb (by grind -lia -linarith)
        unfold Pt.neg
        rw [add_sl h2 (on_neg hp) hon hn' hs, rG4 s1 hx, rG3 hx]

/-- Three points, two slopes that differ. -/
theorem key {x1 x2 x3 y1 y2 y3 l m n : F} {b : F} (h2 : (2 : F) ≠ 0)
    (p1 : y1 * y1 = x1 * x1 * x1 + b) (p3 : y3 * y3 = x3 * x3 * x3 + b)
    (sl : Sl x1 y1 x2 y2 l) (sm : Sl x2 y2 x3 y3 m)
    (hn : ¬ (l * l - x1 - x2 = x3 ∧ l * (x1 - (l * l - x1 - x2)) - y1 = -y3))
    (sn : Sl (l * l - x1 - x2) (l * (x1 - (l * l - x1 - x2)) - y1) x3 y3 n) :
    (l + n) * (l - m) = x1 - x3 := by
  obtain ⟨a1, a2⟩ := sl; obtain ⟨b1, b2⟩ := sm; obtain ⟨c1, c2⟩ := sn
  obtain ⟨x, hx⟩ : ∃ x, x = l * l - x1 - x2 := ⟨_, rfl⟩
  obtain ⟨y, hy⟩ : ∃ y, y = l * (x1 - x) - y1 := ⟨_, rfl⟩
  rw [← hx, ← hy] at hn c1 c2
  have k : (x1 - x3 - l * (l - m)) * (x - x3) = (l - m) * (y - y3) := by
    exact rK (rK1 a1 a2) (rK2 b1 b2) hx (rK3 a1 hy) (rK4 b1)
  by_cases hd : x = x3
  · have hon : y * y = x * x * x + b := by rw [hy, hx]; exact on_sl p1 ⟨a1, a2⟩
    subst hd
    have hy3 := y_cases hon p3 (fun h => hn ⟨rfl, h⟩)
    subst hy3
    have hy0 : 2 * y ≠ 0 := by
      intro h; have := mul0 h h2; exact hn ⟨rfl, by grind -lia -linarith⟩
    have e : 2 * y * ((l + n) * (l - m) - (x1 - x)) = 0 := by
      exact rT4 (rT1 (rK3 a1 hy) b1) (rT2 a1 a2 hx hy) (rT3 c2)
    exact rT5 (mul0 e hy0)
  · exact rT5 (mul0 (rT7 k c1) (rT6 hd))

theorem neg_add {b : F} (h2 : (2 : F) ≠ 0) {p q : Pt} (hp : OnC b p) (hq : OnC b q) : (p.add q).neg = p.neg.add q.neg := by
  cases p with
  | o => rfl
  | a x1 y1 =>
    cases q with
    | o => rfl
    | a x2 y2 =>
      show (Pt.add (.a x1 y1) (.a x2 y2)).neg = Pt.add (.a x1 (-y1)) (.a x2 (-y2))
      by_cases hn : x1 = x2 ∧ y1 = -y2
      · have hn' : x1 = x2 ∧ -y1 = - -y2 := ⟨hn.1, by grind -lia -linarith⟩
        rw [add_aa, add_aa, if_pos hn, if_pos hn']; rfl
      · have hn' : ¬ (x1 = x2 ∧ -y1 = - -y2) := fun h => hn ⟨h.1, by grind -lia -linarith⟩
        have s := sl_slope h2 hp hq hn
        have s' : Sl x1 (-y1) x2 (-y2) (-slope x1 y1 x2 y2) := by
          obtain ⟨g1, g2⟩ := s
          exact ⟨by grind -lia -linarith, by grind -lia -linarith⟩
        rw [add_sl h2 hp hq hn s, add_sl h2 (on_neg hp) (on_neg hq) hn' s']
        generalize slope x1 y1 x2 y2 = l
        show Pt.a _ (-_) = _
        congr 1 <;> grind -lia -linarith

/-- The sum does not hang on how three are grouped. -/
theorem assoc {b : F} (h2 : (2 : F) ≠ 0) (h3 : (3 : F) ≠ 0) (hb : b ≠ 0) {p q r : Pt} (hp : OnC b p) (hq : OnC b q) (hr : OnC b r) :
    (p.add q).add r = p.add (q.add r) := by
  by_cases e1 : p.add q = .o
  · -- q = -p
    have hqp : q = p.neg := by
      have := cancel h2 h3 hb hp hq
      rw [e1, add_o] at this; exact this.symm
    rw [e1, o_add, hqp]
    have := cancel h2 h3 hb (on_neg hp) hr
    rw [neg_neg] at this; exact this.symm
  by_cases e2 : q.add r = .o
  · have hrq : r = q.neg := by
      have := cancel h2 h3 hb hq hr
      rw [e2, add_o] at this; exact this.symm
    rw [e2, add_o, hrq, add_comm h2 hp hq, add_comm h2 (on_add h2 hq hp) (on_neg hq)]
    exact cancel h2 h3 hb hq hp
  by_cases e3 : (p.add q).add r = .o
  · have hd : r = (p.add q).neg := by
      have := cancel h2 h3 hb (on_add h2 hp hq) hr
      rw [e3, add_o] at this; exact this.symm
    rw [e3, hd, neg_add h2 hp hq, add_comm h2 (on_neg hp) (on_neg hq)]
    have := cancel h2 h3 hb (on_neg hq) (on_neg hp)
    rw [neg_neg] at this
    rw [this, add_neg]
  by_cases e4 : p.add (q.add r) = .o
  · have hd : p = (q.add r).neg := by
      have := cancel h2 h3 hb (on_add h2 hq hr) hp
      rw [add_comm h2 (on_add h2 hq hr) hp, e4, add_o] at this; exact this.symm
    have h5 : p.add q = r.neg := by
      rw [hd, neg_add h2 hq hr, add_comm h2 (on_add h2 (on_neg hq) (on_neg hr)) hq]
      have := cancel h2 h3 hb (on_neg hq) (on_neg hr)
      rw [neg_neg] at this
      exact this
    rw [e4, h5, add_comm h2 (on_neg hr) hr, add_neg]
  by_cases e5 : p = r
  · rw [e5, add_comm h2 (on_add h2 hr hq) hr, add_comm h2 hr hq]
  cases p with
  | o => rfl
  | a x1 y1 =>
  cases q with
  | o => rfl
  | a x2 y2 =>
  cases r with
  | o => rw [add_o, add_o]
  | a x3 y3 =>
    have hp' : y1 * y1 = x1 * x1 * x1 + b := hp
    have hq' : y2 * y2 = x2 * x2 * x2 + b := hq
    have hr' : y3 * y3 = x3 * x3 * x3 + b := hr
    have n1 : ¬ (x1 = x2 ∧ y1 = -y2) := fun h => e1 (by rw [add_aa, if_pos h])
    have n2 : ¬ (x2 = x3 ∧ y2 = -y3) := fun h => e2 (by rw [add_aa, if_pos h])
    have s1 := sl_slope h2 hp' hq' n1
    have s2 := sl_slope h2 hq' hr' n2
    have a1 := add_sl h2 hp' hq' n1 s1
    have a2 := add_sl h2 hq' hr' n2 s2
    rw [a1] at e3 ⊢; rw [a2] at e4 ⊢
    have o1 := on_sl hp' s1
    have o2 := on_sl hq' s2
    have n3 : ¬ (slope x1 y1 x2 y2 * slope x1 y1 x2 y2 - x1 - x2 = x3 ∧
      slope x1 y1 x2 y2 * (x1 - (slope x1 y1 x2 y2 * slope x1 y1 x2 y2 - x1 - x2)) - y1 = -y3) := fun h => e3 (by rw [add_aa, if_pos h])
    have n4 : ¬ (x1 = slope x2 y2 x3 y3 * slope x2 y2 x3 y3 - x2 - x3 ∧
      y1 = -(slope x2 y2 x3 y3 * (x2 - (slope x2 y2 x3 y3 * slope x2 y2 x3 y3 - x2 - x3)) - y2)) := fun h => e4 (by rw [add_aa, if_pos h])
    have s3 := sl_slope h2 o1 hr' n3
    have s4 := sl_slope h2 hp' o2 n4
    rw [add_sl h2 o1 hr' n3 s3, add_sl h2 hp' o2 n4 s4]
    generalize slope (slope x1 y1 x2 y2 * slope x1 y1 x2 y2 - x1 - x2) _ x3 y3 = v at s3 ⊢
    generalize slope x1 y1 (slope x2 y2 x3 y3 * slope x2 y2 x3 y3 - x2 - x3) _ = w at s4 ⊢
    generalize slope x1 y1 x2 y2 = l at *
    generalize slope x2 y2 x3 y3 = m at *
    have k1 := key h2 hp' hr' s1 s2 n3 s3
    have k2 : (m + w) * (m - l) = x3 - x1 := by
      have yy : m * (x3 - (m * m - x3 - x2)) - y3 = m * (x2 - (m * m - x2 - x3)) - y2 := by
        exact rS1 s2.1
      have xx : m * m - x3 - x2 = m * m - x2 - x3 := rS2
      refine key (n := w) h2 hr' hp' (sl_comm s2) (sl_comm s1) ?_ ?_
      · rw [yy, xx]; intro h; exact n4 ⟨h.1.symm, rS3 h.2⟩
      · rw [yy, xx]; exact sl_comm s4
    by_cases hlm : l = m
    · subst hlm
      have e : x1 = x3 := rS4 k1
      subst e
      have ey : y1 = y3 := rS5 s1.1 s2.1
      exact absurd (by rw [ey]) e5
    · have hw : w = l + v - m := rS7 (mul0 (rS6 k1 k2) (rT6 hlm))
      rw [hw, ← rS8 (x2 := x2) k1, rS10 s1.1 s2.1 s3.1 (rS9 k1 rfl)]

/-- The point of three numbers. -/
def pt (x y z : F) : Pt := if z = 0 then .o else .a (x * (iv z * iv z)) (y * (iv z * iv z * iv z))

theorem pt_o {x y z : F} (h : z = 0) : pt x y z = .o := by unfold pt; rw [if_pos h]
theorem pt_of {x y z u v : F} (h : z ≠ 0) (hx : x = u * (z * z)) (hy : y = v * (z * z * z)) : pt x y z = .a u v := by
  unfold pt; rw [if_neg h]
  have := inv1 h
  subst hx; subst hy
  generalize iv z = w at *
  congr 1 <;> grind -lia -linarith
theorem pt_some {x y z : F} (h : z ≠ 0) : ∃ u v, x = u * (z * z) ∧ y = v * (z * z * z) ∧ pt x y z = .a u v := by
  have := inv1 h
  refine ⟨x * (iv z * iv z), y * (iv z * iv z * iv z), ?_, ?_, ?_⟩
  · generalize iv z = w at *; grind -lia -linarith
  · generalize iv z = w at *; grind -lia -linarith
  · unfold pt; rw [if_neg h]

/-- Twice a point of three numbers. -/
def dx (x y : F) : F := 3 * (x * x) * (3 * (x * x)) - 2 * (4 * (x * (y * y)))
def dy (x y : F) : F := 3 * (x * x) * (4 * (x * (y * y)) - dx x y) - 8 * (y * y * (y * y))
def dz (y z : F) : F := 2 * (y * z)

theorem ring_dx {x y l : F} (h : l * (y + y) = 3 * (x * x)) (z : F) : dx (x * (z * z)) (y * (z * z * z)) = (l * l - x - x) * (dz (y * (z * z * z)) z * dz (y * (z * z * z)) z) := by
  unfold dx dz; grind -lia -linarith
theorem ring_dy {x y l : F} (h : l * (y + y) = 3 * (x * x)) (z : F) : dy (x * (z * z)) (y * (z * z * z)) = (l * (x - (l * l - x - x)) - y) * (dz (y * (z * z * z)) z * dz (y * (z * z * z)) z * dz (y * (z * z * z)) z) := by
  unfold dy dx dz; grind -lia -linarith

theorem pt_dbl {b x y z : F} (h2 : (2 : F) ≠ 0) (hz : z ≠ 0) (ho : OnC b (pt x y z)) : pt (dx x y) (dy x y) (dz y z) = (pt x y z).add (pt x y z) := by
  obtain ⟨u, v, hx, hy, hp⟩ := pt_some (x := x) (y := y) hz
  rw [hp] at ho ⊢
  by_cases h0 : v = 0
  · have e : dz y z = 0 := by unfold dz; subst hy; subst h0; grind -lia -linarith
    rw [pt_o e, add_aa, if_pos ⟨rfl, by subst h0; grind -lia -linarith⟩]
  · have hn : ¬ (u = u ∧ v = -v) := by
      intro ⟨_, h⟩
      have e : 2 * v = 0 := by grind -lia -linarith
      exact h0 (mul0 e h2)
    have s := sl_slope h2 ho ho hn
    rw [add_sl h2 ho ho hn s]
    generalize slope u v u v = l at s
    have s2 : l * (v + v) = 3 * (u * u) := by obtain ⟨_, h⟩ := s; clear hx hy hp ho; grind -lia -linarith
    have hd : dz y z ≠ 0 := by
      intro h
      unfold dz at h
      have := mul0 h h2
      have h' : z * y = 0 := by clear hx hy hp ho s s2 h; grind -lia -linarith
      have hy0 := mul0 h' hz
      rw [hy] at hy0
      have e3 : z * (z * (z * v)) = 0 := by clear hx hy hp ho s s2 h this h'; grind -lia -linarith
      exact h0 (mul0 (mul0 (mul0 e3 hz) hz) hz)
    subst hx; subst hy
    exact pt_of hd (ring_dx s2 z) (ring_dy s2 z)

/-- The sum of two points of three numbers: run and rise, and what comes of them. -/
def run (x1 z1 x2 z2 : F) : F := x2 * (z1 * z1) - x1 * (z2 * z2)
def rise (y1 z1 y2 z2 : F) : F := y2 * (z1 * z1 * z1) - y1 * (z2 * z2 * z2)
def ax (x1 z2 h r : F) : F := r * r - h * h * h - 2 * (x1 * (z2 * z2) * (h * h))
def ay (x1 y1 z2 h r : F) : F := r * (x1 * (z2 * z2) * (h * h) - ax x1 z2 h r) - y1 * (z2 * z2 * z2) * (h * h * h)
def az (z1 z2 h : F) : F := z1 * z2 * h

theorem pt_add {b x1 y1 z1 x2 y2 z2 : F} (h2 : (2 : F) ≠ 0) (hz1 : z1 ≠ 0) (hz2 : z2 ≠ 0)
    (ho : OnC b (pt x1 y1 z1)) (hq : OnC b (pt x2 y2 z2)) :
    (run x1 z1 x2 z2 ≠ 0 → pt (ax x1 z2 (run x1 z1 x2 z2) (rise y1 z1 y2 z2)) (ay x1 y1 z2 (run x1 z1 x2 z2) (rise y1 z1 y2 z2)) (az z1 z2 (run x1 z1 x2 z2)) = (pt x1 y1 z1).add (pt x2 y2 z2)) ∧
    (run x1 z1 x2 z2 = 0 → rise y1 z1 y2 z2 = 0 → pt x2 y2 z2 = pt x1 y1 z1) ∧
    (run x1 z1 x2 z2 = 0 → rise y1 z1 y2 z2 ≠ 0 → (pt x1 y1 z1).add (pt x2 y2 z2) = .o) := by
  obtain ⟨u1, v1, hx1, hy1, hp1⟩ := pt_some (x := x1) (y := y1) hz1
  obtain ⟨u2, v2, hx2, hy2, hp2⟩ := pt_some (x := x2) (y := y2) hz2
  rw [hp1] at ho; rw [hp2] at hq; rw [hp1, hp2]
  have hw : z1 * z2 ≠ 0 := fun h => hz2 (mul0 h hz1)
  have er : run x1 z1 x2 z2 = z1 * z2 * (z1 * z2 * (u2 - u1)) := by unfold run; subst hx1; subst hx2; clear hp1 hp2 ho hq hw; grind -lia -linarith
  have es : rise y1 z1 y2 z2 = z1 * z2 * (z1 * z2 * (z1 * z2 * (v2 - v1))) := by unfold rise; subst hy1; subst hy2; clear hp1 hp2 ho hq hw; grind -lia -linarith
  have hu : run x1 z1 x2 z2 = 0 → u1 = u2 := by
    intro h; rw [er] at h
    have := mul0 (mul0 h hw) hw
    clear hx1 hy1 hp1 hx2 hy2 hp2 ho hq er es h; grind -lia -linarith
  refine ⟨fun h => ?_, fun h h' => ?_, fun h h' => ?_⟩
  · have hd : u2 - u1 ≠ 0 := by
      intro e; apply h; rw [er, e]; clear hx1 hy1 hp1 hx2 hy2 hp2 ho hq er es h hu; grind -lia -linarith
    have hn : ¬ (u1 = u2 ∧ v1 = -v2) := by
      intro ⟨e, _⟩; apply hd; clear hx1 hy1 hp1 hx2 hy2 hp2 ho hq er es h hu; grind -lia -linarith
    have s := sl_slope h2 ho hq hn
    rw [add_sl h2 ho hq hn s]
    generalize slope u1 v1 u2 v2 = l at s
    obtain ⟨s1, _⟩ := s
    have hz : az z1 z2 (run x1 z1 x2 z2) ≠ 0 := by
      unfold az; intro e; exact h (mul0 e hw)
    have hs : rise y1 z1 y2 z2 = l * (z1 * z2 * run x1 z1 x2 z2) := by
      rw [er, es]; clear hx1 hy1 hp1 hx2 hy2 hp2 ho hq er es h hu hn hd hz; grind -lia -linarith
    refine pt_of hz ?_ ?_
    · unfold ax az; rw [hs]
      clear hp1 hp2 ho hq es h hu hn hd hz hs hy1 hy2 s1
      have e2 : run x1 z1 x2 z2 = z1 * z2 * (z1 * z2) * (u2 - u1) := by rw [er]; grind -lia -linarith
      generalize run x1 z1 x2 z2 = r at *
      subst hx1
      clear hx2 er
      grind -lia -linarith
    · unfold ay ax az; rw [hs]
      have e2 : run x1 z1 x2 z2 = z1 * z2 * (z1 * z2) * (u2 - u1) := by rw [er]; clear hp1 hp2 ho hq es h hu hn hd hz hs hy1 hy2 s1; grind -lia -linarith
      have e3 : y1 = v1 * (z1 * z1 * z1) := hy1
      clear hp1 hp2 ho hq es h hu hn hd hz hs hy1 hy2 er s1
      generalize run x1 z1 x2 z2 = r at *
      subst hx1; subst e3
      clear hx2
      grind -lia -linarith
  · have e := hu h
    rw [es] at h'
    have := mul0 (mul0 (mul0 h' hw) hw) hw
    have e' : v2 = v1 := by clear hx1 hy1 hp1 hx2 hy2 hp2 ho hq er es h hu h'; grind -lia -linarith
    rw [e, e']
  · have e := hu h
    rw [add_aa, if_pos]
    refine ⟨e, ?_⟩
    by_cases hv : v1 = -v2
    · exact hv
    · exfalso
      subst e
      have := y_cases ho hq hv
      subst this
      apply h'; rw [es]
      clear hx1 hy1 hp1 hx2 hy2 hp2 ho hq er es h hu h'; grind -lia -linarith
end Go.Proofs.YtncpjgpioajbeaaGreatDoor.EC

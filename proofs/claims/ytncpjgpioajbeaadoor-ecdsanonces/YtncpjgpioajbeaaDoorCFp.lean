import Derived.Test.YtncpjgpioajbeaaDoorFBin
import Derived.Test.YtncpjgpioajbeaaDoorFFermat
import Derived.Test.YtncpjgpioajbeaaDoorHold
/- The numbers below p as a field. -/
namespace Go.Proofs.YtncpjgpioajbeaaDoor.EC

abbrev F := Fin 115792089237316195423570985008687907853269984665640564039457584007908834671663

theorem pN_is : pN = 115792089237316195423570985008687907853269984665640564039457584007908834671663 := rfl
/-- A number modulo p. -/
def fp (n : Int) : F := ⟨(n % 115792089237316195423570985008687907853269984665640564039457584007908834671663).toNat, by omega⟩
theorem fp_val (n : Int) : (fp n).val = (n % 115792089237316195423570985008687907853269984665640564039457584007908834671663).toNat := rfl
theorem fp_int (n : Int) : ((fp n).val : Int) = n % 115792089237316195423570985008687907853269984665640564039457584007908834671663 := by
  rw [fp_val]; omega
theorem fp_mod (n : Int) : fp (modN pN n) = fp n := by
  apply Fin.ext; rw [fp_val, fp_val]; unfold modN; rw [pN_is]; omega
theorem fp_same {x y : Int} (h : fp x = fp y) : x % 115792089237316195423570985008687907853269984665640564039457584007908834671663 = y % 115792089237316195423570985008687907853269984665640564039457584007908834671663 := by
  rw [← fp_int, ← fp_int, h]
/-- A number of its own. -/
def Low (x : Int) : Prop := 0 ≤ x ∧ x < pN
theorem Low.num {x : Int} (h : Low x) : Num x := by
  obtain ⟨a, b⟩ := h; rw [pN_is] at b; unfold Num; omega
theorem fp_inj {x y : Int} (hx : Low x) (hy : Low y) (h : fp x = fp y) : x = y := by
  have e := fp_same h
  obtain ⟨a, b⟩ := hx; obtain ⟨c, d⟩ := hy
  rw [pN_is] at b d
  omega
theorem fp_mul (x y : Int) : fp (x * y) = fp x * fp y := by
  apply Fin.ext
  have e : ((fp x * fp y).val : Int) = ((fp (x * y)).val : Int) := by
    rw [Fin.val_mul, Int.natCast_emod, Int.natCast_mul, fp_int, fp_int, fp_int]
    exact (Int.mul_emod _ _ _).symm
  omega
theorem fp_back (a : F) : fp (a.val : Int) = a := by
  apply Fin.ext; rw [fp_val]; have := a.isLt; omega
theorem fp_one : fp 1 = 1 := by decide +kernel
/-- Over. -/
def iv (a : F) : F := fp (invN pN (a.val : Int))
theorem inv_mul {x : Int} (x0 : 0 ≤ x) (h : modN pN x ≠ 0) : modN pN (x * invN pN x) = 1 := by
  have e := powN_fermat prm_p x0 h
  unfold invN
  rw [Int.mul_comm, powN_next pN x (by decide), show pN - 2 + 1 = pN - 1 by decide]; exact e
theorem inv1 {a : F} (ha : a ≠ 0) : a * iv a = 1 := by
  have h : modN pN (a.val : Int) ≠ 0 := by
    intro e; apply ha; apply Fin.ext
    show a.val = 0
    unfold modN at e; rw [pN_is] at e; have := a.isLt; omega
  have e := inv_mul (by omega) h
  unfold iv
  conv => lhs; lhs; rw [← fp_back a]
  rw [← fp_mul, ← fp_mod, e, fp_one]
end Go.Proofs.YtncpjgpioajbeaaDoor.EC

/- The points of the curve: the group, and points of three numbers. -/
namespace Go.Proofs.YtncpjgpioajbeaaDoor.EC

inductive Pt where
  | o : Pt
  | a : F → F → Pt

def OnC (b : F) : Pt → Prop
  | .o => True
  | .a x y => y * y = x * x * x + b

def Pt.neg : Pt → Pt
  | .o => .o
  | .a x y => .a x (-y)

/-- The slope of the line through two points, chord or tangent. -/
def Sl (x1 y1 x2 y2 l : F) : Prop := l * (x1 - x2) = y1 - y2 ∧ l * (y1 + y2) = x1 * x1 + x1 * x2 + x2 * x2

def slope (x1 y1 x2 y2 : F) : F := if x1 = x2 then 3 * (x1 * x1) * iv (2 * y1) else (y2 - y1) * iv (x2 - x1)

def Pt.add : Pt → Pt → Pt
  | .o, q => q
  | .a x y, .o => .a x y
  | .a x1 y1, .a x2 y2 =>
    if x1 = x2 ∧ y1 = -y2 then .o else
      .a (slope x1 y1 x2 y2 * slope x1 y1 x2 y2 - x1 - x2)
        (slope x1 y1 x2 y2 * (x1 - (slope x1 y1 x2 y2 * slope x1 y1 x2 y2 - x1 - x2)) - y1)

theorem add_aa (x1 y1 x2 y2 : F) : Pt.add (.a x1 y1) (.a x2 y2) =
    if x1 = x2 ∧ y1 = -y2 then .o else
      .a (slope x1 y1 x2 y2 * slope x1 y1 x2 y2 - x1 - x2)
        (slope x1 y1 x2 y2 * (x1 - (slope x1 y1 x2 y2 * slope x1 y1 x2 y2 - x1 - x2)) - y1) := rfl

theorem mul0 {a b : F} (h : a * b = 0) (ha : a ≠ 0) : b = 0 := by
  have := inv1 ha
  generalize iv a = c at *
  grind -lia -linarith

theorem rT5 {a b : F} (h : a - b = 0) : a = b := by grind -lia -linarith
theorem rG1 {l x1 x y1 y : F} (hy : y = l * (x1 - x) - y1) : -l * (x1 - x) = -y1 - y := by grind -lia -linarith
theorem rG2 {l x1 x2 x y1 y2 y : F} (s1 : l * (x1 - x2) = y1 - y2) (s2 : l * (y1 + y2) = x1 * x1 + x1 * x2 + x2 * x2) (hx : x = l * l - x1 - x2) (hy : y = l * (x1 - x) - y1) :
    -l * (-y1 + y) = x1 * x1 + x1 * x + x * x := by grind -lia -linarith
theorem rG3 {l x1 x2 x : F} (hx : x = l * l - x1 - x2) : -l * -l - x1 - x = x2 := by grind -lia -linarith
theorem rG4 {l x1 x2 x y1 y2 : F} (s1 : l * (x1 - x2) = y1 - y2) (hx : x = l * l - x1 - x2) :
    -l * (x1 - (-l * -l - x1 - x)) - -y1 = y2 := by rw [rG3 hx]; grind -lia -linarith
theorem rK1 {l x1 x2 y1 y2 : F} (s1 : l * (x1 - x2) = y1 - y2) (s2 : l * (y1 + y2) = x1 * x1 + x1 * x2 + x2 * x2) :
    2 * l * y2 = x1 * x1 + x1 * x2 + x2 * x2 - l * l * (x1 - x2) := by grind -lia -linarith
theorem rK2 {l x1 x2 y1 y2 : F} (s1 : l * (x1 - x2) = y1 - y2) (s2 : l * (y1 + y2) = x1 * x1 + x1 * x2 + x2 * x2) :
    2 * l * y1 = x2 * x2 + x2 * x1 + x1 * x1 - l * l * (x2 - x1) := by grind -lia -linarith
theorem rK3 {l x1 x2 x y1 y2 y : F} (s1 : l * (x1 - x2) = y1 - y2) (hy : y = l * (x1 - x) - y1) : y = l * (x2 - x) - y2 := by grind -lia -linarith
theorem rK4 {m x2 x3 y2 y3 : F} (b1 : m * (x2 - x3) = y2 - y3) : y3 = y2 + m * (x3 - x2) := by grind -lia -linarith
theorem rK {l m x1 x2 x3 x y2 y3 y : F} (r1 : 2 * l * y2 = x1 * x1 + x1 * x2 + x2 * x2 - l * l * (x1 - x2)) (r2 : 2 * m * y2 = x3 * x3 + x3 * x2 + x2 * x2 - m * m * (x3 - x2))
    (hx : x = l * l - x1 - x2) (hy : y = l * (x2 - x) - y2) (h3 : y3 = y2 + m * (x3 - x2)) :
    (x1 - x3 - l * (l - m)) * (x - x3) = (l - m) * (y - y3) := by
  subst hx; subst hy; subst h3
  have e : ∀ A B C D : F, A = B → C = D → A - B - (C - D) = 0 := by grind -lia -linarith
  have e' := e _ _ _ _ r1 r2
  refine rT5 (Eq.trans ?_ e')
  clear e e' r1 r2
  grind -lia -linarith
theorem rT1 {l m x2 x y2 y : F} (hy : y = l * (x2 - x) - y2) (b1 : m * (x2 - x) = y2 - y) : (l - m) * (x2 - x) = 2 * y := by grind -lia -linarith
theorem rT2 {l x1 x2 x y1 y2 y : F} (s1 : l * (x1 - x2) = y1 - y2) (s2 : l * (y1 + y2) = x1 * x1 + x1 * x2 + x2 * x2) (hx : x = l * l - x1 - x2) (hy : y = l * (x1 - x) - y1) :
    2 * (l * y) + 3 * (x * x) = (x2 - x) * (x1 - x) := by grind -lia -linarith
theorem rT3 {n x y : F} (c : n * (y + y) = x * x + x * x + x * x) : 2 * (n * y) = 3 * (x * x) := by grind -lia -linarith
theorem rT4 {l m n x1 x2 x y : F} (g1 : (l - m) * (x2 - x) = 2 * y) (g2 : 2 * (l * y) + 3 * (x * x) = (x2 - x) * (x1 - x)) (g3 : 2 * (n * y) = 3 * (x * x)) :
    2 * y * ((l + n) * (l - m) - (x1 - x)) = 0 := by grind -lia -linarith
theorem rT6 {a b : F} (h : ¬ a = b) : a - b ≠ 0 := by grind -lia -linarith
theorem rT7 {l m n x1 x3 x y y3 : F} (k : (x1 - x3 - l * (l - m)) * (x - x3) = (l - m) * (y - y3)) (c : n * (x - x3) = y - y3) :
    (x - x3) * ((l + n) * (l - m) - (x1 - x3)) = 0 := by grind -lia -linarith
theorem rS1 {m x2 x3 y2 y3 : F} (g : m * (x2 - x3) = y2 - y3) : m * (x3 - (m * m - x3 - x2)) - y3 = m * (x2 - (m * m - x2 - x3)) - y2 := by grind -lia -linarith
theorem rS2 {m x2 x3 : F} : m * m - x3 - x2 = m * m - x2 - x3 := by grind -lia -linarith
theorem rS3 {a b : F} (h : a = -b) : b = -a := by grind -lia -linarith
theorem rS4 {l v x1 x3 : F} (h : (l + v) * (l - l) = x1 - x3) : x1 = x3 := by grind -lia -linarith
theorem rS5 {l x1 x2 y1 y2 y3 : F} (g1 : l * (x1 - x2) = y1 - y2) (g2 : l * (x2 - x1) = y2 - y3) : y1 = y3 := by grind -lia -linarith
theorem rS6 {l m v w x1 x3 : F} (k1 : (l + v) * (l - m) = x1 - x3) (k2 : (m + w) * (m - l) = x3 - x1) : (l - m) * ((l + v) - (m + w)) = 0 := by grind -lia -linarith
theorem rS7 {l m v w : F} (h : (l + v) - (m + w) = 0) : w = l + v - m := by grind -lia -linarith
theorem rS8 {l m v x1 x2 x3 : F} (k1 : (l + v) * (l - m) = x1 - x3) :
    v * v - (l * l - x1 - x2) - x3 = (l + v - m) * (l + v - m) - x1 - (m * m - x2 - x3) := by grind -lia -linarith
theorem rS9 {l m v x1 x2 x3 x : F} (k1 : (l + v) * (l - m) = x1 - x3) (hx : x = v * v - (l * l - x1 - x2) - x3) :
    (l - m) * x = (l + v) * (x1 - x3) - 2 * (l * (x1 - x3)) + (l - m) * (x1 + x2 - x3) := by grind -lia -linarith
theorem rS10 {l m v x1 x2 x3 y1 y2 y3 x : F} (g1 : l * (x1 - x2) = y1 - y2) (g2 : m * (x2 - x3) = y2 - y3)
    (g3 : v * (l * l - x1 - x2 - x3) = l * (x1 - (l * l - x1 - x2)) - y1 - y3)
    (k3 : (l - m) * x = (l + v) * (x1 - x3) - 2 * (l * (x1 - x3)) + (l - m) * (x1 + x2 - x3)) :
    v * (l * l - x1 - x2 - x) - (l * (x1 - (l * l - x1 - x2)) - y1) = (l + v - m) * (x1 - x) - y1 := by
  have e : ∀ A B C D A' B' C' D' : F, A = B → C = D → A' = B' → C' = D' → A - B + (C - D) - (A' - B') - (C' - D') = 0 := by grind -lia -linarith
  have e' := e _ _ _ _ _ _ _ _ g3 k3 g1 g2
  refine rT5 (Eq.trans ?_ e')
  clear e e' g1 g2 g3 k3
  grind -lia -linarith

/-- Of one x: the same or opposite. -/
theorem y_cases {b x y1 y2 : F} (h1 : y1 * y1 = x * x * x + b) (h2 : y2 * y2 = x * x * x + b) (hn : ¬ y1 = -y2) : y1 = y2 := by
  have h : (y1 + y2) * (y1 - y2) = 0 := by grind -lia -linarith
  have h' := mul0 h (by grind -lia -linarith)
  grind -lia -linarith

theorem sl_slope {b x1 y1 x2 y2 : F} (h2 : (2 : F) ≠ 0) (p1 : y1 * y1 = x1 * x1 * x1 + b) (p2 : y2 * y2 = x2 * x2 * x2 + b)
    (hn : ¬ (x1 = x2 ∧ y1 = -y2)) : Sl x1 y1 x2 y2 (slope x1 y1 x2 y2) := by
  unfold Sl slope
  by_cases hx : x1 = x2
  · subst hx
    have hy := y_cases p1 p2 (fun h => hn ⟨rfl, h⟩)
    subst hy
    rw [if_pos rfl]
    have : 2 * y1 ≠ 0 := by
      intro h; have := mul0 h h2; grind -lia -linarith
    have := inv1 this
    grind -lia -linarith
  · rw [if_neg hx]
    have hd : x2 - x1 ≠ 0 := by grind -lia -linarith
    have := inv1 hd
    refine ⟨by grind -lia -linarith, ?_⟩
    have e : (x2 - x1) * ((y2 - y1) * iv (x2 - x1) * (y1 + y2) - (x1 * x1 + x1 * x2 + x2 * x2)) = 0 := by grind -lia -linarith
    have := mul0 e hd
    grind -lia -linarith

theorem sl_uniq {x1 y1 x2 y2 l m : F} (hn : ¬ (x1 = x2 ∧ y1 = -y2)) (hl : Sl x1 y1 x2 y2 l) (hm : Sl x1 y1 x2 y2 m) : l = m := by
  obtain ⟨a, b⟩ := hl; obtain ⟨c, d⟩ := hm
  by_cases hx : x1 = x2
  · have hy : y1 + y2 ≠ 0 := by grind -lia -linarith
    have e : (y1 + y2) * (l - m) = 0 := by grind -lia -linarith
    have := mul0 e hy; grind -lia -linarith
  · have hd : x1 - x2 ≠ 0 := by grind -lia -linarith
    have e : (x1 - x2) * (l - m) = 0 := by grind -lia -linarith
    have := mul0 e hd; grind -lia -linarith

/-- A sum by a slope. -/
theorem add_sl {b x1 y1 x2 y2 l : F} (h2 : (2 : F) ≠ 0) (p1 : y1 * y1 = x1 * x1 * x1 + b) (p2 : y2 * y2 = x2 * x2 * x2 + b)
    (hn : ¬ (x1 = x2 ∧ y1 = -y2)) (hl : Sl x1 y1 x2 y2 l) :
    Pt.add (.a x1 y1) (.a x2 y2) = .a (l * l - x1 - x2) (l * (x1 - (l * l - x1 - x2)) - y1) := by
  have e := sl_uniq hn (sl_slope h2 p1 p2 hn) hl
  rw [add_aa, if_neg hn, e]

theorem on_sl {b x1 y1 x2 y2 l : F} (p1 : y1 * y1 = x1 * x1 * x1 + b) (hl : Sl x1 y1 x2 y2 l) :
    (l * (x1 - (l * l - x1 - x2)) - y1) * (l * (x1 - (l * l - x1 - x2)) - y1) = (l * l - x1 - x2) * (l * l - x1 - x2) * (l * l - x1 - x2) + b := by
  obtain ⟨h1, h3⟩ := hl
  grind -lia -linarith

theorem on_add {b : F} (h2 : (2 : F) ≠ 0) {p q : Pt} (hp : OnC b p) (hq : OnC b q) : OnC b (p.add q) := by
  cases p with
  | o => exact hq
  | a x1 y1 =>
    cases q with
    | o => exact hp
    | a x2 y2 =>
      by_cases hn : x1 = x2 ∧ y1 = -y2
      · rw [add_aa, if_pos hn]; trivial
      · rw [add_sl h2 hp hq hn (sl_slope h2 hp hq hn)]
        exact on_sl hp (sl_slope h2 hp hq hn)

theorem on_neg {b : F} {p : Pt} (hp : OnC b p) : OnC b p.neg := by
  cases p with
  | o => trivial
  | a x y => unfold OnC Pt.neg at *; grind -lia -linarith

theorem neg_neg (p : Pt) : p.neg.neg = p := by
  cases p with
  | o => rfl
  | a x y => show Pt.a x (- -y) = _; rw [show - -y = y by grind -lia -linarith]

theorem add_o (p : Pt) : p.add .o = p := by cases p <;> rfl
theorem o_add (p : Pt) : Pt.add .o p = p := rfl

theorem add_neg (p : Pt) : p.add p.neg = .o := by
  cases p with
  | o => rfl
  | a x y => show Pt.add (.a x y) (.a x (-y)) = _; rw [add_aa, if_pos ⟨rfl, by grind -lia -linarith⟩]

theorem sl_comm {x1 y1 x2 y2 l : F} (h : Sl x1 y1 x2 y2 l) : Sl x2 y2 x1 y1 l := by
  obtain ⟨a, b⟩ := h; exact ⟨by grind -lia -linarith, by grind -lia -linarith⟩

theorem add_comm {b : F} (h2 : (2 : F) ≠ 0) {p q : Pt} (hp : OnC b p) (hq : OnC b q) : p.add q = q.add p := by
  cases p with
  | o => exact (add_o q).symm
  | a x1 y1 =>
    cases q with
    | o => rfl
    | a x2 y2 =>
      by_cases hn : x1 = x2 ∧ y1 = -y2
      · have hn' : x2 = x1 ∧ y2 = -y1 := ⟨hn.1.symm, by grind -lia -linarith⟩
        rw [add_aa, add_aa, if_pos hn, if_pos hn']
      · have hn' : ¬ (x2 = x1 ∧ y2 = -y1) := fun h => hn ⟨h.1.symm, by grind -lia -linarith⟩
        have s := sl_slope h2 hp hq hn
        rw [add_sl h2 hp hq hn s, add_sl h2 hq hp hn' (sl_comm s)]
        obtain ⟨e1, e2⟩ := s
        congr 1 <;> grind -lia -linarith

/-- -p + (p + q) = q. -/
theorem cancel {b : F} (h2 : (2 : F) ≠ 0) (h3 : (3 : F) ≠ 0) (hb : b ≠ 0) {p q : Pt} (hp : OnC b p) (hq : OnC b q) : p.neg.add (p.add q) = q := by
  cases p with
  | o => rfl
  | a x1 y1 =>
    cases q with
    | o => rw [add_o, add_comm h2 (on_neg hp) hp, add_neg]
    | a x2 y2 =>
      by_cases hn : x1 = x2 ∧ y1 = -y2
      · have e : Pt.add (.a x1 y1) (.a x2 y2) = .o := by rw [add_aa, if_pos hn]
        rw [e, add_o]; show Pt.a x1 (-y1) = _; rw [hn.1, hn.2, show - -y2 = y2 by grind -lia -linarith]
      · have s := sl_slope h2 hp hq hn
        have hon := on_sl hp s
        rw [add_sl h2 hp hq hn s]
        generalize slope x1 y1 x2 y2 = l at s hon ⊢
        obtain ⟨s1, s2⟩ := s
        obtain ⟨x, hx⟩ : ∃ x, x = l * l - x1 - x2 := ⟨_, rfl⟩
        obtain ⟨y, hy⟩ : ∃ y, y = l * (x1 - x) - y1 := ⟨_, rfl⟩
        rw [← hx, ← hy] at hon ⊢
        have hs : Sl x1 (-y1) x y (-l) := ⟨rG1 hy, rG2 s1 s2 hx hy⟩
        have hn' : ¬ (x1 = x ∧ -y1 = -y) := by
          intro ⟨e1, e2⟩
          have e3 : 2 * y1 = 0 := by grind -lia -linarith
          have e4 := mul0 e3 h2
          obtain ⟨s3, s4⟩ := hs
          have e5 : 3 * (x1 * x1) = 0 := by grind -lia -linarith
          have e6 := mul0 e5 h3
          have e7 : x1 = 0 := by
            by_cases h : x1 = 0
            · exact h
            · exact mul0 e6 h
          unfold OnC at hp
          exact hb (by grind -lia -linarith)
        unfold Pt.neg
        rw [add_sl h2 (on_neg hp) hon hn' hs, rG4 s1 hx, rG3 hx]

/-- Three points, two slopes that differ. -/
theorem key {x1 x2 x3 y1 y2 y3 l m n : F} {b : F} (h2 : (2 : F) ≠ 0)
    (p1 : y1 * y1 = x1 * x1 * x1 + b) (p3 : y3 * y3 = x3 * x3 * x3 + b)
    (sl : Sl x1 y1 x2 y2 l) (sm : Sl x2 y2 x3 y3 m)
    (hn : ¬ (l * l - x1 - x2 = x3 ∧ l * (x1 - (l * l - x1 - x2)) - y1 = -y3))
    (sn : Sl (l * l - x1 - x2) (l * (x1 - (l * l - x1 - x2)) - y1) x3 y3 n) :
    (l + n) * (l - m) = x1 - x3 := by
  obtain ⟨a1, a2⟩ := sl; obtain ⟨b1, b2⟩ := sm; obtain ⟨c1, c2⟩ := sn
  obtain ⟨x, hx⟩ : ∃ x, x = l * l - x1 - x2 := ⟨_, rfl⟩
  obtain ⟨y, hy⟩ : ∃ y, y = l * (x1 - x) - y1 := ⟨_, rfl⟩
  rw [← hx, ← hy] at hn c1 c2
  have k : (x1 - x3 - l * (l - m)) * (x - x3) = (l - m) * (y - y3) := by
    exact rK (rK1 a1 a2) (rK2 b1 b2) hx (rK3 a1 hy) (rK4 b1)
  by_cases hd : x = x3
  · have hon : y * y = x * x * x + b := by rw [hy, hx]; exact on_sl p1 ⟨a1, a2⟩
    subst hd
    have hy3 := y_cases hon p3 (fun h => hn ⟨rfl, h⟩)
    subst hy3
    have hy0 : 2 * y ≠ 0 := by
      intro h; have := mul0 h h2; exact hn ⟨rfl, by grind -lia -linarith⟩
    have e : 2 * y * ((l + n) * (l - m) - (x1 - x)) = 0 := by
      exact rT4 (rT1 (rK3 a1 hy) b1) (rT2 a1 a2 hx hy) (rT3 c2)
    exact rT5 (mul0 e hy0)
  · exact rT5 (mul0 (rT7 k c1) (rT6 hd))

theorem neg_add {b : F} (h2 : (2 : F) ≠ 0) {p q : Pt} (hp : OnC b p) (hq : OnC b q) : (p.add q).neg = p.neg.add q.neg := by
  cases p with
  | o => rfl
  | a x1 y1 =>
    cases q with
    | o => rfl
    | a x2 y2 =>
      show (Pt.add (.a x1 y1) (.a x2 y2)).neg = Pt.add (.a x1 (-y1)) (.a x2 (-y2))
      by_cases hn : x1 = x2 ∧ y1 = -y2
      · have hn' : x1 = x2 ∧ -y1 = - -y2 := ⟨hn.1, by grind -lia -linarith⟩
        rw [add_aa, add_aa, if_pos hn, if_pos hn']; rfl
      · have hn' : ¬ (x1 = x2 ∧ -y1 = - -y2) := fun h => hn ⟨h.1, by grind -lia -linarith⟩
        have s := sl_slope h2 hp hq hn
        have s' : Sl x1 (-y1) x2 (-y2) (-slope x1 y1 x2 y2) := by
          obtain ⟨g1, g2⟩ := s
          exact ⟨by grind -lia -linarith, by grind -lia -linarith⟩
        rw [add_sl h2 hp hq hn s, add_sl h2 (on_neg hp) (on_neg hq) hn' s']
        generalize slope x1 y1 x2 y2 = l
        show Pt.a _ (-_) = _
        congr 1 <;> grind -lia -linarith

/-- The sum does not hang on how three are grouped. -/
theorem assoc {b : F} (h2 : (2 : F) ≠ 0) (h3 : (3 : F) ≠ 0) (hb : b ≠ 0) {p q r : Pt} (hp : OnC b p) (hq : OnC b q) (hr : OnC b r) :
    (p.add q).add r = p.add (q.add r) := by
  by_cases e1 : p.add q = .o
  · -- q = -p
    have hqp : q = p.neg := by
      have := cancel h2 h3 hb hp hq
      rw [e1, add_o] at this; exact this.symm
    rw [e1, o_add, hqp]
    have := cancel h2 h3 hb (on_neg hp) hr
    rw [neg_neg] at this; exact this.symm
  by_cases e2 : q.add r = .o
  · have hrq : r = q.neg := by
      have := cancel h2 h3 hb hq hr
      rw [e2, add_o] at this; exact this.symm
    rw [e2, add_o, hrq, add_comm h2 hp hq, add_comm h2 (on_add h2 hq hp) (on_neg hq)]
    exact cancel h2 h3 hb hq hp
  by_cases e3 : (p.add q).add r = .o
  · have hd : r = (p.add q).neg := by
      have := cancel h2 h3 hb (on_add h2 hp hq) hr
      rw [e3, add_o] at this; exact this.symm
    rw [e3, hd, neg_add h2 hp hq, add_comm h2 (on_neg hp) (on_neg hq)]
    have := cancel h2 h3 hb (on_neg hq) (on_neg hp)
    rw [neg_neg] at this
    rw [this, add_neg]
  by_cases e4 : p.add (q.add r) = .o
  · have hd : p = (q.add r).neg := by
      have := cancel h2 h3 hb (on_add h2 hq hr) hp
      rw [add_comm h2 (on_add h2 hq hr) hp, e4, add_o] at this; exact this.symm
    have h5 : p.add q = r.neg := by
      rw [hd, neg_add h2 hq hr, add_comm h2 (on_add h2 (on_neg hq) (on_neg hr)) hq]
      have := cancel h2 h3 hb (on_neg hq) (on_neg hr)
      rw [neg_neg] at this
      exact this
    rw [e4, h5, add_comm h2 (on_neg hr) hr, add_neg]
  by_cases e5 : p = r
  · rw [e5, add_comm h2 (on_add h2 hr hq) hr, add_comm h2 hr hq]
  cases p with
  | o => rfl
  | a x1 y1 =>
  cases q with
  | o => rfl
  | a x2 y2 =>
  cases r with
  | o => rw [add_o, add_o]
  | a x3 y3 =>
    have hp' : y1 * y1 = x1 * x1 * x1 + b := hp
    have hq' : y2 * y2 = x2 * x2 * x2 + b := hq
    have hr' : y3 * y3 = x3 * x3 * x3 + b := hr
    have n1 : ¬ (x1 = x2 ∧ y1 = -y2) := fun h => e1 (by rw [add_aa, if_pos h])
    have n2 : ¬ (x2 = x3 ∧ y2 = -y3) := fun h => e2 (by rw [add_aa, if_pos h])
    have s1 := sl_slope h2 hp' hq' n1
    have s2 := sl_slope h2 hq' hr' n2
    have a1 := add_sl h2 hp' hq' n1 s1
    have a2 := add_sl h2 hq' hr' n2 s2
    rw [a1] at e3 ⊢; rw [a2] at e4 ⊢
    have o1 := on_sl hp' s1
    have o2 := on_sl hq' s2
    have n3 : ¬ (slope x1 y1 x2 y2 * slope x1 y1 x2 y2 - x1 - x2 = x3 ∧
      slope x1 y1 x2 y2 * (x1 - (slope x1 y1 x2 y2 * slope x1 y1 x2 y2 - x1 - x2)) - y1 = -y3) := fun h => e3 (by rw [add_aa, if_pos h])
    have n4 : ¬ (x1 = slope x2 y2 x3 y3 * slope x2 y2 x3 y3 - x2 - x3 ∧
      y1 = -(slope x2 y2 x3 y3 * (x2 - (slope x2 y2 x3 y3 * slope x2 y2 x3 y3 - x2 - x3)) - y2)) := fun h => e4 (by rw [add_aa, if_pos h])
    have s3 := sl_slope h2 o1 hr' n3
    have s4 := sl_slope h2 hp' o2 n4
    rw [add_sl h2 o1 hr' n3 s3, add_sl h2 hp' o2 n4 s4]
    generalize slope (slope x1 y1 x2 y2 * slope x1 y1 x2 y2 - x1 - x2) _ x3 y3 = v at s3 ⊢
    generalize slope x1 y1 (slope x2 y2 x3 y3 * slope x2 y2 x3 y3 - x2 - x3) _ = w at s4 ⊢
    generalize slope x1 y1 x2 y2 = l at *
    generalize slope x2 y2 x3 y3 = m at *
    have k1 := key h2 hp' hr' s1 s2 n3 s3
    have k2 : (m + w) * (m - l) = x3 - x1 := by
      have yy : m * (x3 - (m * m - x3 - x2)) - y3 = m * (x2 - (m * m - x2 - x3)) - y2 := by
        exact rS1 s2.1
      have xx : m * m - x3 - x2 = m * m - x2 - x3 := rS2
      refine key (n := w) h2 hr' hp' (sl_comm s2) (sl_comm s1) ?_ ?_
      · rw [yy, xx]; intro h; exact n4 ⟨h.1.symm, rS3 h.2⟩
      · rw [yy, xx]; exact sl_comm s4
    by_cases hlm : l = m
    · subst hlm
      have e : x1 = x3 := rS4 k1
      subst e
      have ey : y1 = y3 := rS5 s1.1 s2.1
      exact absurd (by rw [ey]) e5
    · have hw : w = l + v - m := rS7 (mul0 (rS6 k1 k2) (rT6 hlm))
      rw [hw, ← rS8 (x2 := x2) k1, rS10 s1.1 s2.1 s3.1 (rS9 k1 rfl)]

/-- The point of three numbers. -/
def pt (x y z : F) : Pt := if z = 0 then .o else .a (x * (iv z * iv z)) (y * (iv z * iv z * iv z))

theorem pt_o {x y z : F} (h : z = 0) : pt x y z = .o := by unfold pt; rw [if_pos h]
/-- Twice a point of three numbers. -/
def dx (x y : F) : F := 3 * (x * x) * (3 * (x * x)) - 2 * (4 * (x * (y * y)))
def dy (x y : F) : F := 3 * (x * x) * (4 * (x * (y * y)) - dx x y) - 8 * (y * y * (y * y))
def dz (y z : F) : F := 2 * (y * z)

/-- The sum of two points of three numbers: run and rise, and what comes of them. -/
def run (x1 z1 x2 z2 : F) : F := x2 * (z1 * z1) - x1 * (z2 * z2)
def rise (y1 z1 y2 z2 : F) : F := y2 * (z1 * z1 * z1) - y1 * (z2 * z2 * z2)
def ax (x1 z2 h r : F) : F := r * r - h * h * h - 2 * (x1 * (z2 * z2) * (h * h))
def ay (x1 y1 z2 h r : F) : F := r * (x1 * (z2 * z2) * (h * h) - ax x1 z2 h r) - y1 * (z2 * z2 * z2) * (h * h * h)
def az (z1 z2 h : F) : F := z1 * z2 * h

end Go.Proofs.YtncpjgpioajbeaaDoor.EC

/- Multiples of points; every point is a multiple of a base of great odd order. -/
namespace Go.Proofs.YtncpjgpioajbeaaDoor.EC

abbrev On (p : Pt) : Prop := OnC 7 p
theorem two : (2 : F) ≠ 0 := by decide +kernel
theorem three : (3 : F) ≠ 0 := by decide +kernel
theorem seven : (7 : F) ≠ 0 := by decide +kernel

theorem on_o : On .o := trivial
theorem Pt.comm {p q : Pt} (hp : On p) (hq : On q) : p.add q = q.add p := add_comm two hp hq
theorem Pt.assoc {p q r : Pt} (hp : On p) (hq : On q) (hr : On r) : (p.add q).add r = p.add (q.add r) := EC.assoc two three seven hp hq hr
theorem Pt.on {p q : Pt} (hp : On p) (hq : On q) : On (p.add q) := on_add two hp hq
theorem Pt.back {p q : Pt} (hp : On p) (hq : On q) : p.neg.add (p.add q) = q := cancel two three seven hp hq
theorem Pt.left {p q r : Pt} (hp : On p) (hq : On q) (hr : On r) (h : p.add q = p.add r) : q = r := by
  have a := Pt.back hp hq; have b := Pt.back hp hr
  rw [h] at a; rw [← a, b]
theorem Pt.right {p q r : Pt} (hp : On p) (hq : On q) (hr : On r) (h : q.add p = r.add p) : q = r := by
  rw [Pt.comm hq hp, Pt.comm hr hp] at h; exact Pt.left hp hq hr h
/-- (a + b) + (c + d) = (a + c) + (b + d). -/
theorem Pt.four {a b c d : Pt} (ha : On a) (hb : On b) (hc : On c) (hd : On d) : (a.add b).add (c.add d) = (a.add c).add (b.add d) := by
  rw [Pt.assoc ha hb (Pt.on hc hd), ← Pt.assoc hb hc hd, Pt.comm hb hc, Pt.assoc hc hb hd, ← Pt.assoc ha hc (Pt.on hb hd)]

def smul : Nat → Pt → Pt
  | 0, _ => .o
  | k + 1, p => (smul k p).add p

theorem smul_on {p : Pt} (hp : On p) : ∀ k, On (smul k p)
  | 0 => on_o
  | k + 1 => Pt.on (smul_on hp k) hp
theorem smul_add {p : Pt} (hp : On p) (a : Nat) : ∀ b, smul (a + b) p = (smul a p).add (smul b p)
  | 0 => (add_o _).symm
  | b + 1 => by
    show (smul (a + b) p).add p = (smul a p).add ((smul b p).add p)
    rw [smul_add hp a b, Pt.assoc (smul_on hp a) (smul_on hp b) hp]
theorem smul_o : ∀ k, smul k .o = .o
  | 0 => rfl
  | k + 1 => by show (smul k .o).add .o = .o; rw [smul_o k]; rfl
theorem smul_mul {p : Pt} (hp : On p) (a : Nat) : ∀ b, smul (a * b) p = smul b (smul a p)
  | 0 => rfl
  | b + 1 => by
    show smul (a * (b + 1)) p = (smul b (smul a p)).add (smul a p)
    rw [Nat.mul_succ, smul_add hp, smul_mul hp a b]
/-- No more things than places. -/
theorem php : ∀ (M K : Nat) (f : Nat → Nat), (∀ i, i < K → f i < M) → (∀ i j, i < K → j < K → f i = f j → i = j) → K ≤ M
  | 0, K, f, h, _ => by
    cases K with
    | zero => exact Nat.le_refl 0
    | succ K => exact absurd (h 0 (Nat.succ_pos K)) (Nat.not_lt_zero _)
  | M + 1, K, f, h, inj => by
    cases K with
    | zero => exact Nat.zero_le _
    | succ K =>
      refine Nat.succ_le_succ (php M K (fun i => if f i = M then f K else f i) ?_ ?_)
      · intro i hi
        show (if f i = M then f K else f i) < M
        have h1 := h i (Nat.lt_succ_of_lt hi)
        have h2 := h K (Nat.lt_succ_self K)
        split
        · next e =>
          have : f K ≠ M := fun e' => by
            have := inj i K (Nat.lt_succ_of_lt hi) (Nat.lt_succ_self K) (by rw [e, e'])
            omega
          omega
        · next e => omega
      · intro i j hi hj e
        have e' : (if f i = M then f K else f i) = (if f j = M then f K else f j) := e
        have I := inj i j (Nat.lt_succ_of_lt hi) (Nat.lt_succ_of_lt hj)
        have I1 := inj K j (Nat.lt_succ_self K) (Nat.lt_succ_of_lt hj)
        have I2 := inj i K (Nat.lt_succ_of_lt hi) (Nat.lt_succ_self K)
        split at e' <;> split at e'
        · next a b => exact I (by rw [a, b])
        · have := I1 e'; omega
        · have := I2 e'; omega
        · exact I e'

/-- A point's number. -/
def code : Pt → Nat
  | .o => 0
  | .a x y => 1 + 2 * x.val + y.val % 2
theorem code_lt (p : Pt) : code p < 231584178474632390847141970017375815706539969331281128078915168015817669343327 := by
  cases p with
  | o => show 0 < _; omega
  | a x y => show 1 + 2 * x.val + y.val % 2 < _; have := x.isLt; omega
theorem par0 {p a b : Nat} (hb : b < p) (hp : p % 2 = 1) (h : a = p - b) (e : a % 2 = b % 2) : a = b := by omega
theorem par1 {p a b : Nat} (hb : b < p) (hp : p % 2 = 1) (h : a = (p - b) % p) (e : a % 2 = b % 2) : a = b := by
  by_cases h0 : b = 0
  · subst h0; rw [h, Nat.sub_zero, Nat.mod_self]
  · rw [Nat.mod_eq_of_lt (by omega)] at h; exact par0 hb hp h e
theorem code_num {a b c d : Nat} (h : 1 + 2 * a + b % 2 = 1 + 2 * c + d % 2) : a = c ∧ b % 2 = d % 2 := by omega
theorem code_a (x y : F) : code (.a x y) = 1 + 2 * x.val + y.val % 2 := rfl
theorem code_not (a b : Nat) : 1 + 2 * a + b % 2 ≠ 0 := by omega
theorem code_inj {p q : Pt} (hp : On p) (hq : On q) (h : code p = code q) : p = q := by
  cases p with
  | o =>
    cases q with
    | o => rfl
    | a x y => rw [code_a] at h; exact absurd h.symm (code_not _ _)
  | a x1 y1 =>
    cases q with
    | o => rw [code_a] at h; exact absurd h (code_not _ _)
    | a x2 y2 =>
      rw [code_a, code_a] at h
      obtain ⟨h1, h3⟩ := code_num h
      have hx : x1 = x2 := Fin.ext h1
      subst hx
      by_cases hn : y1 = -y2
      · have hy : y1 = y2 := Fin.ext (par1 y2.isLt (by decide +kernel) (by rw [hn, Fin.neg_def]) h3)
        rw [hy]
      · rw [y_cases hp hq hn]

/-- No point makes the identity with itself. -/
def NoTwo : Prop := ∀ x : F, x * x * x + 7 ≠ 0
theorem no_two (h : NoTwo) {p : Pt} (hp : On p) (e : p.add p = .o) : p = .o := by
  cases p with
  | o => rfl
  | a x y =>
    rw [add_aa] at e
    by_cases hn : x = x ∧ y = -y
    · exfalso
      have e2 : 2 * y = 0 := by have := hn.2; grind -lia -linarith
      have e3 := mul0 e2 two
      have hp' : y * y = x * x * x + 7 := hp
      rw [e3] at hp'
      exact h x (by rw [← hp']; rfl)
    · rw [if_neg hn] at e; cases e

/-- A base whose order is odd, and great. -/
structure Base (n : Nat) (g : Pt) : Prop where
  on : On g
  ord : smul n g = .o
  low : ∀ k, 0 < k → k < n → smul k g ≠ .o
  odd : n % 2 = 1
  big : 231584178474632390847141970017375815706539969331281128078915168015817669343327 < 3 * n

theorem Base.inj {n : Nat} {g : Pt} (h : Base n g) {i j : Nat} (hi : i < n) (hj : j < n) (e : smul i g = smul j g) : i = j := by
  have key : ∀ i j, i < n → j < n → i < j → smul i g = smul j g → False := by
    intro i j _ hj hlt e
    have e1 : smul i g = (smul i g).add (smul (j - i) g) := by
      rw [← smul_add h.on, Nat.add_sub_of_le (Nat.le_of_lt hlt)]; exact e
    have e2 : (smul i g).add .o = (smul i g).add (smul (j - i) g) := by rw [add_o]; exact e1
    have e3 := Pt.left (smul_on h.on i) on_o (smul_on h.on _) e2
    exact h.low (j - i) (by omega) (by omega) e3.symm
  rcases Nat.lt_trichotomy i j with hlt | heq | hgt
  · exact (key i j hi hj hlt e).elim
  · exact heq
  · exact (key j i hj hi hgt e.symm).elim

theorem Base.neg {n : Nat} {g : Pt} (h : Base n g) {i : Nat} (hi : i ≤ n) : (smul i g).neg = smul (n - i) g := by
  have e : (smul i g).add (smul (n - i) g) = (smul i g).add (smul i g).neg := by
    rw [← smul_add h.on, Nat.add_sub_of_le hi, h.ord, add_neg]
  exact (Pt.left (smul_on h.on i) (smul_on h.on _) (on_neg (smul_on h.on i)) e).symm

theorem Base.mod {n : Nat} {g : Pt} (h : Base n g) (k : Nat) : smul k g = smul (k % n) g := by
  have e := Nat.div_add_mod k n
  conv => lhs; rw [← e]
  rw [smul_add h.on, smul_mul h.on, h.ord, smul_o]; rfl

/-- A multiple of the base. -/
def Of (g p : Pt) : Prop := ∃ k, p = smul k g

theorem Base.of_neg {n : Nat} {g p : Pt} (h : Base n g) (hn : 0 < n) (hp : Of g p) : Of g p.neg := by
  obtain ⟨k, rfl⟩ := hp
  rw [h.mod k, h.neg (Nat.le_of_lt (Nat.mod_lt k hn))]
  exact ⟨_, rfl⟩
theorem Base.of_add {n : Nat} {g p q : Pt} (h : Base n g) (hp : Of g p) (hq : Of g q) : Of g (p.add q) := by
  obtain ⟨k, rfl⟩ := hp; obtain ⟨l, rfl⟩ := hq
  exact ⟨k + l, (smul_add h.on k l).symm⟩

theorem Base.half {n : Nat} {g p : Pt} (hz : NoTwo) (h : Base n g) (hp : On p) (h2 : Of g (p.add p)) : Of g p := by
  obtain ⟨k, hk⟩ := h2
  have : ∃ j, smul k g = smul (j + j) g := by
    have := h.odd
    by_cases hk2 : k % 2 = 0
    · exact ⟨k / 2, by rw [show k / 2 + k / 2 = k by omega]⟩
    · refine ⟨(k + n) / 2, ?_⟩
      rw [show (k + n) / 2 + (k + n) / 2 = k + n by omega, smul_add h.on, h.ord, add_o]
  obtain ⟨j, hj⟩ := this
  have hjn := on_neg (smul_on h.on j)
  have e : (p.add (smul j g).neg).add (p.add (smul j g).neg) = .o := by
    rw [Pt.four hp hjn hp hjn, ← neg_add two (smul_on h.on j) (smul_on h.on j), hk, hj, smul_add h.on, add_neg]
  have e1 := no_two hz (Pt.on hp hjn) e
  have e2 : p = smul j g := by
    have : p.add (smul j g).neg = (smul j g).add (smul j g).neg := by rw [e1, add_neg]
    exact Pt.right hjn hp (smul_on h.on j) this
  exact ⟨j, e2⟩

/-- Every point is a multiple of the base. -/
theorem Base.all {n : Nat} {g : Pt} (hz : NoTwo) (h : Base n g) {p : Pt} (hp : On p) : Of g p := by
  have hn : 0 < n := by have := h.odd; omega
  apply Classical.byContradiction
  intro hno
  have hpn := on_neg hp
  have neg_no : ¬ Of g p.neg := fun hc => hno (by have := h.of_neg hn hc; rwa [neg_neg] at this)
  have two_no : ¬ Of g (p.add p) := fun hc => hno (h.half hz hp hc)
  have twn_no : ¬ Of g (p.neg.add p.neg) := fun hc => two_no (by
    have := h.of_neg hn hc
    rw [neg_add two hpn hpn, neg_neg] at this; exact this)
  let e : Nat → Pt := fun j => if j = 0 then .o else if j = 1 then p else p.neg
  have eon : ∀ j, On (e j) := by
    intro j; show On (if j = 0 then .o else if j = 1 then p else p.neg)
    split
    · exact on_o
    · split
      · exact hp
      · exact hpn
  -- a difference of two of the three
  have diff : ∀ a b, a < 3 → b < 3 → a ≠ b → ¬ Of g ((e a).add (e b).neg) := by
    intro a b ha hb hab
    have e0 : e 0 = .o := rfl
    have e1 : e 1 = p := rfl
    have e2 : e 2 = p.neg := rfl
    have c : (a = 0 ∨ a = 1 ∨ a = 2) ∧ (b = 0 ∨ b = 1 ∨ b = 2) := by omega
    obtain ⟨ca, cb⟩ := c
    rcases ca with rfl | rfl | rfl <;> rcases cb with rfl | rfl | rfl
    · exact absurd rfl hab
    · rw [e0, e1, o_add]; exact neg_no
    · rw [e0, e2, o_add, neg_neg]; exact hno
    · rw [e0, e1]; show ¬ Of g (p.add .o); rw [add_o]; exact hno
    · exact absurd rfl hab
    · rw [e1, e2, neg_neg]; exact two_no
    · rw [e0, e2]; show ¬ Of g (p.neg.add .o); rw [add_o]; exact neg_no
    · rw [e1, e2]; exact twn_no
    · exact absurd rfl hab
  have hb := h.big
  have := php 231584178474632390847141970017375815706539969331281128078915168015817669343327 (3 * n)
    (fun i => code ((smul (i / 3) g).add (e (i % 3)))) (fun i _ => code_lt _) ?_
  · omega
  · intro i j hi hj hc
    have hc' : code ((smul (i / 3) g).add (e (i % 3))) = code ((smul (j / 3) g).add (e (j % 3))) := hc
    have A := smul_on h.on (i / 3)
    have B := smul_on h.on (j / 3)
    have he := code_inj (Pt.on A (eon _)) (Pt.on B (eon _)) hc'
    by_cases hm : i % 3 = j % 3
    · rw [hm] at he
      have := h.inj (by omega) (by omega) (Pt.right (eon _) A B he)
      omega
    · exfalso
      refine diff _ _ (Nat.mod_lt i (by omega)) (Nat.mod_lt j (by omega)) hm ?_
      -- e a - e b = B - A
      have hx : (e (i % 3)).add (e (j % 3)).neg = (smul (j / 3) g).add (smul (i / 3) g).neg := by
        have An := on_neg A
        have En := on_neg (eon (j % 3))
        have l : ((smul (i / 3) g).add (e (i % 3))).add ((smul (i / 3) g).neg.add (e (j % 3)).neg) = (e (i % 3)).add (e (j % 3)).neg := by
          rw [Pt.four A (eon _) An En, add_neg, o_add]
        have r : ((smul (j / 3) g).add (e (j % 3))).add ((smul (i / 3) g).neg.add (e (j % 3)).neg) = (smul (j / 3) g).add (smul (i / 3) g).neg := by
          rw [Pt.four B (eon _) An En, add_neg, add_o]
        rw [← l, he, r]
      rw [hx]
      exact h.of_add ⟨_, rfl⟩ (h.of_neg hn ⟨_, rfl⟩)

theorem Base.zero {n : Nat} {g : Pt} (hz : NoTwo) (h : Base n g) {p : Pt} (hp : On p) : smul n p = .o := by
  obtain ⟨k, rfl⟩ := h.all hz hp
  rw [← smul_mul h.on, Nat.mul_comm, smul_mul h.on, h.ord, smul_o]
end Go.Proofs.YtncpjgpioajbeaaDoor.EC

/- Points of three numbers, and the base point's order. -/
namespace Go.Proofs.YtncpjgpioajbeaaDoor.EC

/-- Points as three numbers. -/
structure J where
  x : F
  y : F
  z : F
def J.pt (t : J) : Pt := EC.pt t.x t.y t.z
def J.o : J := ⟨0, 0, 0⟩
def jd (t : J) : J := if t.z = 0 then t else ⟨dx t.x t.y, dy t.x t.y, dz t.y t.z⟩
def ja (t u : J) : J :=
  if t.z = 0 then u else if u.z = 0 then t else
  if run t.x t.z u.x u.z = 0 then (if rise t.y t.z u.y u.z = 0 then jd t else J.o) else
    ⟨ax t.x u.z (run t.x t.z u.x u.z) (rise t.y t.z u.y u.z), ay t.x t.y u.z (run t.x t.z u.x u.z) (rise t.y t.z u.y u.z), az t.z u.z (run t.x t.z u.x u.z)⟩

theorem J.pt_o : J.o.pt = .o := EC.pt_o rfl
def jm : Nat → Nat → J → J
  | 0, _, _ => J.o
  | f + 1, k, t => if k % 2 = 1 then ja (jd (jm f (k / 2) t)) t else jd (jm f (k / 2) t)
end Go.Proofs.YtncpjgpioajbeaaDoor.EC

namespace Go.Proofs.YtncpjgpioajbeaaDoor
open Go.RowKit Go.Sort

open EC in
def J3 (x y z : Int) : EC.J := ⟨EC.fp x, EC.fp y, EC.fp z⟩
end Go.Proofs.YtncpjgpioajbeaaDoor

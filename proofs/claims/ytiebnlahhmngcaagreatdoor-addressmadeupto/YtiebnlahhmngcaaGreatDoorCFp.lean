import Derived.Test.YtiebnlahhmngcaaGreatDoorFBin
import Derived.Test.YtiebnlahhmngcaaGreatDoorFFermat
import Derived.Test.YtiebnlahhmngcaaGreatDoorHold
import Derived.Test.YtiebnlahhmngcaaGreatDoorFAdd
import Derived.Test.YtiebnlahhmngcaaGreatDoorFExp
import Derived.Deep.RegionHeld3
/- The numbers below p as a field. -/
namespace Go.Proofs.YtiebnlahhmngcaaGreatDoor.EC

abbrev F := Fin 115792089237316195423570985008687907853269984665640564039457584007908834671663

theorem pN_is : pN = 115792089237316195423570985008687907853269984665640564039457584007908834671663 := rfl
/-- A number modulo p. -/
def fp (n : Int) : F := ⟨(n % 115792089237316195423570985008687907853269984665640564039457584007908834671663).toNat, by omega⟩
theorem fp_val (n : Int) : (fp n).val = (n % 115792089237316195423570985008687907853269984665640564039457584007908834671663).toNat := rfl
theorem fp_int (n : Int) : ((fp n).val : Int) = n % 115792089237316195423570985008687907853269984665640564039457584007908834671663 := by
  rw [fp_val]; omega
theorem fp_mod (n : Int) : fp (modN pN n) = fp n := by
  apply Fin.ext; rw [fp_val, fp_val]; unfold modN; rw [pN_is]; omega
theorem fp_same {x y : Int} (h : fp x = fp y) : x % 115792089237316195423570985008687907853269984665640564039457584007908834671663 = y % 115792089237316195423570985008687907853269984665640564039457584007908834671663 := by
  rw [← fp_int, ← fp_int, h]
/-- A number of its own. -/
def Low (x : Int) : Prop := 0 ≤ x ∧ x < pN
theorem low_mod (x : Int) : Low (modN pN x) := modN_lt fit_p x
theorem Low.num {x : Int} (h : Low x) : Num x := by
  obtain ⟨a, b⟩ := h; rw [pN_is] at b; unfold Num; omega
theorem fp_inj {x y : Int} (hx : Low x) (hy : Low y) (h : fp x = fp y) : x = y := by
  have e := fp_same h
  obtain ⟨a, b⟩ := hx; obtain ⟨c, d⟩ := hy
  rw [pN_is] at b d
  omega
theorem fp_add (x y : Int) : fp (x + y) = fp x + fp y := by
  apply Fin.ext; rw [Fin.val_add, fp_val, fp_val, fp_val]; omega
theorem fp_sub (x y : Int) : fp (x - y) = fp x - fp y := by
  apply Fin.ext; rw [Fin.sub_def]
  show (fp (x - y)).val = (115792089237316195423570985008687907853269984665640564039457584007908834671663 - (fp y).val + (fp x).val) % 115792089237316195423570985008687907853269984665640564039457584007908834671663
  rw [fp_val, fp_val, fp_val]; omega
theorem fp_mul (x y : Int) : fp (x * y) = fp x * fp y := by
  apply Fin.ext
  have e : ((fp x * fp y).val : Int) = ((fp (x * y)).val : Int) := by
    rw [Fin.val_mul, Int.natCast_emod, Int.natCast_mul, fp_int, fp_int, fp_int]
    exact (Int.mul_emod _ _ _).symm
  omega
theorem fp_back (a : F) : fp (a.val : Int) = a := by
  apply Fin.ext; rw [fp_val]; have := a.isLt; omega
theorem fp_zero : fp 0 = 0 := by decide +kernel
theorem fp_one : fp 1 = 1 := by decide +kernel
theorem fp_low (a : F) : Low (a.val : Int) := ⟨by omega, by have := a.isLt; rw [pN_is]; omega⟩

/-- Over. -/
def iv (a : F) : F := fp (invN pN (a.val : Int))
theorem inv_mul {x : Int} (x0 : 0 ≤ x) (h : modN pN x ≠ 0) : modN pN (x * invN pN x) = 1 := by
  have e := powN_fermat prm_p x0 h
  unfold invN
  rw [Int.mul_comm, powN_next pN x (by decide), show pN - 2 + 1 = pN - 1 by decide]; exact e
theorem inv1 {a : F} (ha : a ≠ 0) : a * iv a = 1 := by
  have h : modN pN (a.val : Int) ≠ 0 := by
    intro e; apply ha; apply Fin.ext
    show a.val = 0
    unfold modN at e; rw [pN_is] at e; have := a.isLt; omega
  have e := inv_mul (by omega) h
  unfold iv
  conv => lhs; lhs; rw [← fp_back a]
  rw [← fp_mul, ← fp_mod, e, fp_one]
theorem fp_inv {x : Int} (h : Low x) : fp (invN pN x) = iv (fp x) := by
  unfold iv; rw [fp_int]
  obtain ⟨a, b⟩ := h
  rw [pN_is] at b
  rw [Int.emod_eq_of_lt a b]

end Go.Proofs.YtiebnlahhmngcaaGreatDoor.EC

namespace Go.Proofs.YtiebnlahhmngcaaGreatDoor
open Go.RowKit Go.Sort

set_option maxHeartbeats 2000000 in
theorem csqat_walk {x a b r : Int} (C1 : Hid (∀ w, Mds w → Calls Tryz.prog 47 #[.agg #[.int .u64 (l0 x), .int .u64 (l1 x), .int .u64 (l2 x), .int .u64 (l3 x)]] w fun e w' => e = .returned (.agg #[.int .u64 (l0 a), .int .u64 (l1 a), .int .u64 (l2 a), .int .u64 (l3 a)]) ∧ Below w.heap.size w w')) (C2 : Hid (∀ w, Mds w → Calls Tryz.prog 48 #[.agg #[.int .u64 (l0 a), .int .u64 (l1 a), .int .u64 (l2 a), .int .u64 (l3 a)], .agg #[.int .u64 (l0 x), .int .u64 (l1 x), .int .u64 (l2 x), .int .u64 (l3 x)]] w fun e w' => e = .returned (.agg #[.int .u64 (l0 b), .int .u64 (l1 b), .int .u64 (l2 b), .int .u64 (l3 b)]) ∧ Below w.heap.size w w'))
    (C3 : Hid (∀ w, Calls Tryz.prog 8 #[.int .u64 7] w fun e w' => e = .returned (.agg #[.int .u64 (l0 7), .int .u64 (l1 7), .int .u64 (l2 7), .int .u64 (l3 7)]) ∧ Below w.heap.size w w')) (C4 : Hid (∀ w, Mds w → Calls Tryz.prog 63 #[.agg #[.int .u64 (l0 b), .int .u64 (l1 b), .int .u64 (l2 b), .int .u64 (l3 b)], .agg #[.int .u64 (l0 7), .int .u64 (l1 7), .int .u64 (l2 7), .int .u64 (l3 7)]] w fun e w' => e = .returned (.agg #[.int .u64 (l0 r), .int .u64 (l1 r), .int .u64 (l2 r), .int .u64 (l3 r)]) ∧ Below w.heap.size w w')) (w : World) (hm : Mds w) :
    Calls Tryz.prog 74 #[.agg #[.int .u64 (l0 x), .int .u64 (l1 x), .int .u64 (l2 x), .int .u64 (l3 x)]] w fun e w' => e = .returned (.agg #[.int .u64 (l0 r), .int .u64 (l1 r), .int .u64 (l2 r), .int .u64 (l3 r)]) ∧ Below w.heap.size w w' := by
  go_enter Tryz.func74, Tryz.ntmps74
  go_wp2_with fail
  refine wp_world (fun W => Below w.heap.size w W ∧ Mds W ∧ Hold W w.heap.size x ∧ Blank W (w.heap.size + 1)) ⟨by repeat (first | with_reducible exact Below.refl _ _ | with_reducible refine Below.alloc ?_ (by first | omega | (simp; done) | (simp; omega)) _), (hm.alloc _).alloc _, (Hold.fresh (by simp)).alloc _, Blank.new (by simp)⟩ ?_
  rintro W ⟨B, hD, hX, hR⟩
  have o3 : w.heap.size ≤ w.heap.size + 1 := by omega
  generalize w.heap.size + 1 = br at *
  have ghX := hX.grown
  have hDg : ∀ d os, Mds (grow (redrawn W d) os) := fun d os => hD.keep (below_regrown W d os)
  refine below_tail 6 (by kernel_rfl) (by kernel_rfl) ?_
  simp only [List.take_succ_cons, List.take_zero, List.drop_succ_cons, List.drop_zero]
  repeat
    first
      | go_big_quiet_skip
      | (go_big_quiet_want; go_big_quiet_op; go_big_quiet_on)
      | (go_big_quiet_want
         go_big_quiet_op
         apply Exists.intro
         refine ⟨fun p => ?_, ?_⟩
         · (first | (go_at_call 47; with_reducible exact Calls.regrown_of (C1.out _ (hDg p.d p.os))) | (go_at_call 48; with_reducible exact Calls.regrown_of (C2.out _ (hDg p.d p.os))) | (go_at_call 8; with_reducible exact Calls.regrown_of (C3.out _)) | (go_at_call 63; with_reducible exact Calls.regrown_of (C4.out _ (hDg p.d p.os))))
         go_big_quiet_on)
  refine wpQuiet_nil ?_
  rintro w1 ⟨p, rfl⟩
  have hb := below_regrown W p.d p.os
  generalize grow (redrawn W p.d) p.os = w1 at *
  replace B := B.trans (hb.mono B.size)
  replace hD := hD.keep hb; replace hX := hX.keep hb; replace hR := hR.keep hb
  clear hb W ghX hDg
  have gR := hR.1.all4; have fR := hR.2.all4
  go_wp2
  simp [bodyPost, results, Tryz.results74, go_sem, gR]
  exact below_set4 B o3 _ _ _ _

/-- x * x * x + 7 modulo p. -/
def cubN (x : Int) : Int := modN pN (modN pN (modN pN (x * x) * x) + 7)
theorem csqat_any {x : Int} (hx : Num x) (w : World) (hm : Mds w) :
    Calls Tryz.prog 74 #[.agg #[.int .u64 (l0 x), .int .u64 (l1 x), .int .u64 (l2 x), .int .u64 (l3 x)]] w fun e w' => e = .returned (.agg #[.int .u64 (l0 (cubN x)), .int .u64 (l1 (cubN x)), .int .u64 (l2 (cubN x)), .int .u64 (l3 (cubN x))]) ∧ Below w.heap.size w w' :=
  csqat_walk (fun w hm => csquare_any hx w hm) (fun w hm => ctimes_any (modN_Num fit_p _) hx w hm) (fun w => from_any ⟨by decide, by decide⟩ w)
    (fun w hm => cplus_any (modN_Num fit_p _) ⟨by decide, by decide⟩ w hm) w hm
end Go.Proofs.YtiebnlahhmngcaaGreatDoor

/- The points of the curve: the group, and points of three numbers. -/
namespace Go.Proofs.YtiebnlahhmngcaaGreatDoor.EC

inductive Pt where
  | o : Pt
  | a : F → F → Pt

def OnC (b : F) : Pt → Prop
  | .o => True
  | .a x y => y * y = x * x * x + b

def Pt.neg : Pt → Pt
  | .o => .o
  | .a x y => .a x (-y)

/-- The slope of the line through two points, chord or tangent. -/
def Sl (x1 y1 x2 y2 l : F) : Prop := l * (x1 - x2) = y1 - y2 ∧ l * (y1 + y2) = x1 * x1 + x1 * x2 + x2 * x2

def slope (x1 y1 x2 y2 : F) : F := if x1 = x2 then 3 * (x1 * x1) * iv (2 * y1) else (y2 - y1) * iv (x2 - x1)

def Pt.add : Pt → Pt → Pt
  | .o, q => q
  | .a x y, .o => .a x y
  | .a x1 y1, .a x2 y2 =>
    if x1 = x2 ∧ y1 = -y2 then .o else
      .a (slope x1 y1 x2 y2 * slope x1 y1 x2 y2 - x1 - x2)
        (slope x1 y1 x2 y2 * (x1 - (slope x1 y1 x2 y2 * slope x1 y1 x2 y2 - x1 - x2)) - y1)

theorem add_aa (x1 y1 x2 y2 : F) : Pt.add (.a x1 y1) (.a x2 y2) =
    if x1 = x2 ∧ y1 = -y2 then .o else
      .a (slope x1 y1 x2 y2 * slope x1 y1 x2 y2 - x1 - x2)
        (slope x1 y1 x2 y2 * (x1 - (slope x1 y1 x2 y2 * slope x1 y1 x2 y2 - x1 - x2)) - y1) := rfl

theorem mul0 {a b : F} (h : a * b = 0) (ha : a ≠ 0) : b = 0 := by
  have := inv1 ha
  generalize iv a = c at *
  grind -lia -linarith

theorem rT5 {a b : F} (h : a - b = 0) : a = b := by grind -lia -linarith
theorem rG1 {l x1 x y1 y : F} (hy : y = l * (x1 - x) - y1) : -l * (x1 - x) = -y1 - y := by grind -lia -linarith
theorem rG2 {l x1 x2 x y1 y2 y : F} (s1 : l * (x1 - x2) = y1 - y2) (s2 : l * (y1 + y2) = x1 * x1 + x1 * x2 + x2 * x2) (hx : x = l * l - x1 - x2) (hy : y = l * (x1 - x) - y1) :
    -l * (-y1 + y) = x1 * x1 + x1 * x + x * x := by grind -lia -linarith
theorem rG3 {l x1 x2 x : F} (hx : x = l * l - x1 - x2) : -l * -l - x1 - x = x2 := by grind -lia -linarith
theorem rG4 {l x1 x2 x y1 y2 : F} (s1 : l * (x1 - x2) = y1 - y2) (hx : x = l * l - x1 - x2) :
    -l * (x1 - (-l * -l - x1 - x)) - -y1 = y2 := by rw [rG3 hx]; grind -lia -linarith
theorem rK1 {l x1 x2 y1 y2 : F} (s1 : l * (x1 - x2) = y1 - y2) (s2 : l * (y1 + y2) = x1 * x1 + x1 * x2 + x2 * x2) :
    2 * l * y2 = x1 * x1 + x1 * x2 + x2 * x2 - l * l * (x1 - x2) := by grind -lia -linarith
theorem rK2 {l x1 x2 y1 y2 : F} (s1 : l * (x1 - x2) = y1 - y2) (s2 : l * (y1 + y2) = x1 * x1 + x1 * x2 + x2 * x2) :
    2 * l * y1 = x2 * x2 + x2 * x1 + x1 * x1 - l * l * (x2 - x1) := by grind -lia -linarith
theorem rK3 {l x1 x2 x y1 y2 y : F} (s1 : l * (x1 - x2) = y1 - y2) (hy : y = l * (x1 - x) - y1) : y = l * (x2 - x) - y2 := by grind -lia -linarith
theorem rK4 {m x2 x3 y2 y3 : F} (b1 : m * (x2 - x3) = y2 - y3) : y3 = y2 + m * (x3 - x2) := by grind -lia -linarith
theorem rK {l m x1 x2 x3 x y2 y3 y : F} (r1 : 2 * l * y2 = x1 * x1 + x1 * x2 + x2 * x2 - l * l * (x1 - x2)) (r2 : 2 * m * y2 = x3 * x3 + x3 * x2 + x2 * x2 - m * m * (x3 - x2))
    (hx : x = l * l - x1 - x2) (hy : y = l * (x2 - x) - y2) (h3 : y3 = y2 + m * (x3 - x2)) :
    (x1 - x3 - l * (l - m)) * (x - x3) = (l - m) * (y - y3) := by
  subst hx; subst hy; subst h3
  have e : ∀ A B C D : F, A = B → C = D → A - B - (C - D) = 0 := by grind -lia -linarith
  have e' := e _ _ _ _ r1 r2
  refine rT5 (Eq.trans ?_ e')
  clear e e' r1 r2
  grind -lia -linarith
theorem rT1 {l m x2 x y2 y : F} (hy : y = l * (x2 - x) - y2) (b1 : m * (x2 - x) = y2 - y) : (l - m) * (x2 - x) = 2 * y := by grind -lia -linarith
theorem rT2 {l x1 x2 x y1 y2 y : F} (s1 : l * (x1 - x2) = y1 - y2) (s2 : l * (y1 + y2) = x1 * x1 + x1 * x2 + x2 * x2) (hx : x = l * l - x1 - x2) (hy : y = l * (x1 - x) - y1) :
    2 * (l * y) + 3 * (x * x) = (x2 - x) * (x1 - x) := by grind -lia -linarith
theorem rT3 {n x y : F} (c : n * (y + y) = x * x + x * x + x * x) : 2 * (n * y) = 3 * (x * x) := by grind -lia -linarith
theorem rT4 {l m n x1 x2 x y : F} (g1 : (l - m) * (x2 - x) = 2 * y) (g2 : 2 * (l * y) + 3 * (x * x) = (x2 - x) * (x1 - x)) (g3 : 2 * (n * y) = 3 * (x * x)) :
    2 * y * ((l + n) * (l - m) - (x1 - x)) = 0 := by grind -lia -linarith
theorem rT6 {a b : F} (h : ¬ a = b) : a - b ≠ 0 := by grind -lia -linarith
theorem rT7 {l m n x1 x3 x y y3 : F} (k : (x1 - x3 - l * (l - m)) * (x - x3) = (l - m) * (y - y3)) (c : n * (x - x3) = y - y3) :
    (x - x3) * ((l + n) * (l - m) - (x1 - x3)) = 0 := by grind -lia -linarith
theorem rS1 {m x2 x3 y2 y3 : F} (g : m * (x2 - x3) = y2 - y3) : m * (x3 - (m * m - x3 - x2)) - y3 = m * (x2 - (m * m - x2 - x3)) - y2 := by grind -lia -linarith
theorem rS2 {m x2 x3 : F} : m * m - x3 - x2 = m * m - x2 - x3 := by grind -lia -linarith
theorem rS3 {a b : F} (h : a = -b) : b = -a := by grind -lia -linarith
theorem rS4 {l v x1 x3 : F} (h : (l + v) * (l - l) = x1 - x3) : x1 = x3 := by grind -lia -linarith
theorem rS5 {l x1 x2 y1 y2 y3 : F} (g1 : l * (x1 - x2) = y1 - y2) (g2 : l * (x2 - x1) = y2 - y3) : y1 = y3 := by grind -lia -linarith
theorem rS6 {l m v w x1 x3 : F} (k1 : (l + v) * (l - m) = x1 - x3) (k2 : (m + w) * (m - l) = x3 - x1) : (l - m) * ((l + v) - (m + w)) = 0 := by grind -lia -linarith
theorem rS7 {l m v w : F} (h : (l + v) - (m + w) = 0) : w = l + v - m := by grind -lia -linarith
theorem rS8 {l m v x1 x2 x3 : F} (k1 : (l + v) * (l - m) = x1 - x3) :
    v * v - (l * l - x1 - x2) - x3 = (l + v - m) * (l + v - m) - x1 - (m * m - x2 - x3) := by grind -lia -linarith
theorem rS9 {l m v x1 x2 x3 x : F} (k1 : (l + v) * (l - m) = x1 - x3) (hx : x = v * v - (l * l - x1 - x2) - x3) :
    (l - m) * x = (l + v) * (x1 - x3) - 2 * (l * (x1 - x3)) + (l - m) * (x1 + x2 - x3) := by grind -lia -linarith
theorem rS10 {l m v x1 x2 x3 y1 y2 y3 x : F} (g1 : l * (x1 - x2) = y1 - y2) (g2 : m * (x2 - x3) = y2 - y3)
    (g3 : v * (l * l - x1 - x2 - x3) = l * (x1 - (l * l - x1 - x2)) - y1 - y3)
    (k3 : (l - m) * x = (l + v) * (x1 - x3) - 2 * (l * (x1 - x3)) + (l - m) * (x1 + x2 - x3)) :
    v * (l * l - x1 - x2 - x) - (l * (x1 - (l * l - x1 - x2)) - y1) = (l + v - m) * (x1 - x) - y1 := by
  have e : ∀ A B C D A' B' C' D' : F, A = B → C = D → A' = B' → C' = D' → A - B + (C - D) - (A' - B') - (C' - D') = 0 := by grind -lia -linarith
  have e' := e _ _ _ _ _ _ _ _ g3 k3 g1 g2
  refine rT5 (Eq.trans ?_ e')
  clear e e' g1 g2 g3 k3
  grind -lia -linarith

/-- Of one x: the same or opposite. -/
theorem y_cases {b x y1 y2 : F} (h1 : y1 * y1 = x * x * x + b) (h2 : y2 * y2 = x * x * x + b) (hn : ¬ y1 = -y2) : y1 = y2 := by
  have h : (y1 + y2) * (y1 - y2) = 0 := by grind -lia -linarith
  have h' := mul0 h (by grind -lia -linarith)
  grind -lia -linarith

theorem sl_slope {b x1 y1 x2 y2 : F} (h2 : (2 : F) ≠ 0) (p1 : y1 * y1 = x1 * x1 * x1 + b) (p2 : y2 * y2 = x2 * x2 * x2 + b)
    (hn : ¬ (x1 = x2 ∧ y1 = -y2)) : Sl x1 y1 x2 y2 (slope x1 y1 x2 y2) := by
  unfold Sl slope
  by_cases hx : x1 = x2
  · subst hx
    have hy := y_cases p1 p2 (fun h => hn ⟨rfl, h⟩)
    subst hy
    rw [if_pos rfl]
    have : 2 * y1 ≠ 0 := by
      intro h; have := mul0 h h2; grind -lia -linarith
    have := inv1 this
    grind -lia -linarith
  · rw [if_neg hx]
    have hd : x2 - x1 ≠ 0 := by grind -lia -linarith
    have := inv1 hd
    refine ⟨by grind -lia -linarith, ?_⟩
    have e : (x2 - x1) * ((y2 - y1) * iv (x2 - x1) * (y1 + y2) - (x1 * x1 + x1 * x2 + x2 * x2)) = 0 := by grind -lia -linarith
    have := mul0 e hd
    grind -lia -linarith

theorem sl_uniq {x1 y1 x2 y2 l m : F} (hn : ¬ (x1 = x2 ∧ y1 = -y2)) (hl : Sl x1 y1 x2 y2 l) (hm : Sl x1 y1 x2 y2 m) : l = m := by
  obtain ⟨a, b⟩ := hl; obtain ⟨c, d⟩ := hm
  by_cases hx : x1 = x2
  · have hy : y1 + y2 ≠ 0 := by grind -lia -linarith
    have e : (y1 + y2) * (l - m) = 0 := by grind -lia -linarith
    have := mul0 e hy; grind -lia -linarith
  · have hd : x1 - x2 ≠ 0 := by grind -lia -linarith
    have e : (x1 - x2) * (l - m) = 0 := by grind -lia -linarith
    have := mul0 e hd; grind -lia -linarith

/-- A sum by a slope. -/
theorem add_sl {b x1 y1 x2 y2 l : F} (h2 : (2 : F) ≠ 0) (p1 : y1 * y1 = x1 * x1 * x1 + b) (p2 : y2 * y2 = x2 * x2 * x2 + b)
    (hn : ¬ (x1 = x2 ∧ y1 = -y2)) (hl : Sl x1 y1 x2 y2 l) :
    Pt.add (.a x1 y1) (.a x2 y2) = .a (l * l - x1 - x2) (l * (x1 - (l * l - x1 - x2)) - y1) := by
  have e := sl_uniq hn (sl_slope h2 p1 p2 hn) hl
  rw [add_aa, if_neg hn, e]

theorem on_sl {b x1 y1 x2 y2 l : F} (p1 : y1 * y1 = x1 * x1 * x1 + b) (hl : Sl x1 y1 x2 y2 l) :
    (l * (x1 - (l * l - x1 - x2)) - y1) * (l * (x1 - (l * l - x1 - x2)) - y1) = (l * l - x1 - x2) * (l * l - x1 - x2) * (l * l - x1 - x2) + b := by
  obtain ⟨h1, h3⟩ := hl
  grind -lia -linarith

theorem on_add {b : F} (h2 : (2 : F) ≠ 0) {p q : Pt} (hp : OnC b p) (hq : OnC b q) : OnC b (p.add q) := by
  cases p with
  | o => exact hq
  | a x1 y1 =>
    cases q with
    | o => exact hp
    | a x2 y2 =>
      by_cases hn : x1 = x2 ∧ y1 = -y2
      · rw [add_aa, if_pos hn]; trivial
      · rw [add_sl h2 hp hq hn (sl_slope h2 hp hq hn)]
        exact on_sl hp (sl_slope h2 hp hq hn)

theorem on_neg {b : F} {p : Pt} (hp : OnC b p) : OnC b p.neg := by
  cases p with
  | o => trivial
  | a x y => unfold OnC Pt.neg at *; grind -lia -linarith

theorem neg_neg (p : Pt) : p.neg.neg = p := by
  cases p with
  | o => rfl
  | a x y => show Pt.a x (- -y) = _; rw [show - -y = y by grind -lia -linarith]

theorem add_o (p : Pt) : p.add .o = p := by cases p <;> rfl
theorem o_add (p : Pt) : Pt.add .o p = p := rfl

theorem add_neg (p : Pt) : p.add p.neg = .o := by
  cases p with
  | o => rfl
  | a x y => show Pt.add (.a x y) (.a x (-y)) = _; rw [add_aa, if_pos ⟨rfl, by grind -lia -linarith⟩]

theorem sl_comm {x1 y1 x2 y2 l : F} (h : Sl x1 y1 x2 y2 l) : Sl x2 y2 x1 y1 l := by
  obtain ⟨a, b⟩ := h; exact ⟨by grind -lia -linarith, by grind -lia -linarith⟩

theorem add_comm {b : F} (h2 : (2 : F) ≠ 0) {p q : Pt} (hp : OnC b p) (hq : OnC b q) : p.add q = q.add p := by
  cases p with
  | o => exact (add_o q).symm
  | a x1 y1 =>
    cases q with
    | o => rfl
    | a x2 y2 =>
      by_cases hn : x1 = x2 ∧ y1 = -y2
      · have hn' : x2 = x1 ∧ y2 = -y1 := ⟨hn.1.symm, by grind -lia -linarith⟩
        rw [add_aa, add_aa, if_pos hn, if_pos hn']
      · have hn' : ¬ (x2 = x1 ∧ y2 = -y1) := fun h => hn ⟨h.1.symm, by grind -lia -linarith⟩
        have s := sl_slope h2 hp hq hn
        rw [add_sl h2 hp hq hn s, add_sl h2 hq hp hn' (sl_comm s)]
        obtain ⟨e1, e2⟩ := s
        congr 1 <;> grind -lia -linarith

/-- -p + (p + q) = q. -/
theorem cancel {b : F} (h2 : (2 : F) ≠ 0) (h3 : (3 : F) ≠ 0) (hb : b ≠ 0) {p q : Pt} (hp : OnC b p) (hq : OnC b q) : p.neg.add (p.add q) = q := by
  cases p with
  | o => rfl
  | a x1 y1 =>
    cases q with
    | o => rw [add_o, add_comm h2 (on_neg hp) hp, add_neg]
    | a x2 y2 =>
      by_cases hn : x1 = x2 ∧ y1 = -y2
      · have e : Pt.add (.a x1 y1) (.a x2 y2) = .o := by rw [add_aa, if_pos hn]
        rw [e, add_o]; show Pt.a x1 (-y1) = _; rw [hn.1, hn.2, show - -y2 = y2 by grind -lia -linarith]
      · have s := sl_slope h2 hp hq hn
        have hon := on_sl hp s
        rw [add_sl h2 hp hq hn s]
        generalize slope x1 y1 x2 y2 = l at s hon ⊢
        obtain ⟨s1, s2⟩ := s
        obtain ⟨x, hx⟩ : ∃ x, x = l * l - x1 - x2 := ⟨_, rfl⟩
        obtain ⟨y, hy⟩ : ∃ y, y = l * (x1 - x) - y1 := ⟨_, rfl⟩
        rw [← hx, ← hy] at hon ⊢
        have hs : Sl x1 (-y1) x y (-l) := ⟨rG1 hy, rG2 s1 s2 hx hy⟩
        have hn' : ¬ (x1 = x ∧ -y1 = -y) := by
          intro ⟨e1, e2⟩
          have e3 : 2 * y1 = 0 := by grind -lia -linarith
          have e4 := mul0 e3 h2
          obtain ⟨s3, s4⟩ := hs
          have e5 : 3 * (x1 * x1) = 0 := by grind -lia -linarith
          have e6 := mul0 e5 h3
          have e7 : x1 = 0 := by
            by_cases h : x1 = 0
            · exact h
            · exact mul0 e6 h
          unfold OnC at hp
          exact hb (by grind -lia -linarith)
        unfold Pt.neg
        rw [add_sl h2 (on_neg hp) hon hn' hs, rG4 s1 hx, rG3 hx]

/-- Three points, two slopes that differ. -/
theorem key {x1 x2 x3 y1 y2 y3 l m n : F} {b : F} (h2 : (2 : F) ≠ 0)
    (p1 : y1 * y1 = x1 * x1 * x1 + b) (p3 : y3 * y3 = x3 * x3 * x3 + b)
    (sl : Sl x1 y1 x2 y2 l) (sm : Sl x2 y2 x3 y3 m)
    (hn : ¬ (l * l - x1 - x2 = x3 ∧ l * (x1 - (l * l - x1 - x2)) - y1 = -y3))
    (sn : Sl (l * l - x1 - x2) (l * (x1 - (l * l - x1 - x2)) - y1) x3 y3 n) :
    (l + n) * (l - m) = x1 - x3 := by
  obtain ⟨a1, a2⟩ := sl; obtain ⟨b1, b2⟩ := sm; obtain ⟨c1, c2⟩ := sn
  obtain ⟨x, hx⟩ : ∃ x, x = l * l - x1 - x2 := ⟨_, rfl⟩
  obtain ⟨y, hy⟩ : ∃ y, y = l * (x1 - x) - y1 := ⟨_, rfl⟩
  rw [← hx, ← hy] at hn c1 c2
  have k : (x1 - x3 - l * (l - m)) * (x - x3) = (l - m) * (y - y3) := by
    exact rK (rK1 a1 a2) (rK2 b1 b2) hx (rK3 a1 hy) (rK4 b1)
  by_cases hd : x = x3
  · have hon : y * y = x * x * x + b := by rw [hy, hx]; exact on_sl p1 ⟨a1, a2⟩
    subst hd
    have hy3 := y_cases hon p3 (fun h => hn ⟨rfl, h⟩)
    subst hy3
    have hy0 : 2 * y ≠ 0 := by
      intro h; have := mul0 h h2; exact hn ⟨rfl, by grind -lia -linarith⟩
    have e : 2 * y * ((l + n) * (l - m) - (x1 - x)) = 0 := by
      exact rT4 (rT1 (rK3 a1 hy) b1) (rT2 a1 a2 hx hy) (rT3 c2)
    exact rT5 (mul0 e hy0)
  · exact rT5 (mul0 (rT7 k c1) (rT6 hd))

theorem neg_add {b : F} (h2 : (2 : F) ≠ 0) {p q : Pt} (hp : OnC b p) (hq : OnC b q) : (p.add q).neg = p.neg.add q.neg := by
  cases p with
  | o => rfl
  | a x1 y1 =>
    cases q with
    | o => rfl
    | a x2 y2 =>
      show (Pt.add (.a x1 y1) (.a x2 y2)).neg = Pt.add (.a x1 (-y1)) (.a x2 (-y2))
      by_cases hn : x1 = x2 ∧ y1 = -y2
      · have hn' : x1 = x2 ∧ -y1 = - -y2 := ⟨hn.1, by grind -lia -linarith⟩
        rw [add_aa, add_aa, if_pos hn, if_pos hn']; rfl
      · have hn' : ¬ (x1 = x2 ∧ -y1 = - -y2) := fun h => hn ⟨h.1, by grind -lia -linarith⟩
        have s := sl_slope h2 hp hq hn
        have s' : Sl x1 (-y1) x2 (-y2) (-slope x1 y1 x2 y2) := by
          obtain ⟨g1, g2⟩ := s
          exact ⟨by grind -lia -linarith, by grind -lia -linarith⟩
        rw [add_sl h2 hp hq hn s, add_sl h2 (on_neg hp) (on_neg hq) hn' s']
        generalize slope x1 y1 x2 y2 = l
        show Pt.a _ (-_) = _
        congr 1 <;> grind -lia -linarith

/-- The sum does not hang on how three are grouped. -/
theorem assoc {b : F} (h2 : (2 : F) ≠ 0) (h3 : (3 : F) ≠ 0) (hb : b ≠ 0) {p q r : Pt} (hp : OnC b p) (hq : OnC b q) (hr : OnC b r) :
    (p.add q).add r = p.add (q.add r) := by
  by_cases e1 : p.add q = .o
  · -- q = -p
    have hqp : q = p.neg := by
      have := cancel h2 h3 hb hp hq
      rw [e1, add_o] at this; exact this.symm
    rw [e1, o_add, hqp]
    have := cancel h2 h3 hb (on_neg hp) hr
    rw [neg_neg] at this; exact this.symm
  by_cases e2 : q.add r = .o
  · have hrq : r = q.neg := by
      have := cancel h2 h3 hb hq hr
      rw [e2, add_o] at this; exact this.symm
    rw [e2, add_o, hrq, add_comm h2 hp hq, add_comm h2 (on_add h2 hq hp) (on_neg hq)]
    exact cancel h2 h3 hb hq hp
  by_cases e3 : (p.add q).add r = .o
  · have hd : r = (p.add q).neg := by
      have := cancel h2 h3 hb (on_add h2 hp hq) hr
      rw [e3, add_o] at this; exact this.symm
    rw [e3, hd, neg_add h2 hp hq, add_comm h2 (on_neg hp) (on_neg hq)]
    have := cancel h2 h3 hb (on_neg hq) (on_neg hp)
    rw [neg_neg] at this
    rw [this, add_neg]
  by_cases e4 : p.add (q.add r) = .o
  · have hd : p = (q.add r).neg := by
      have := cancel h2 h3 hb (on_add h2 hq hr) hp
      rw [add_comm h2 (on_add h2 hq hr) hp, e4, add_o] at this; exact this.symm
    have h5 : p.add q = r.neg := by
      rw [hd, neg_add h2 hq hr, add_comm h2 (on_add h2 (on_neg hq) (on_neg hr)) hq]
      have := cancel h2 h3 hb (on_neg hq) (on_neg hr)
      rw [neg_neg] at this
      exact this
    rw [e4, h5, add_comm h2 (on_neg hr) hr, add_neg]
  by_cases e5 : p = r
  · rw [e5, add_comm h2 (on_add h2 hr hq) hr, add_comm h2 hr hq]
  cases p with
  | o => rfl
  | a x1 y1 =>
  cases q with
  | o => rfl
  | a x2 y2 =>
  cases r with
  | o => rw [add_o, add_o]
  | a x3 y3 =>
    have hp' : y1 * y1 = x1 * x1 * x1 + b := hp
    have hq' : y2 * y2 = x2 * x2 * x2 + b := hq
    have hr' : y3 * y3 = x3 * x3 * x3 + b := hr
    have n1 : ¬ (x1 = x2 ∧ y1 = -y2) := fun h => e1 (by rw [add_aa, if_pos h])
    have n2 : ¬ (x2 = x3 ∧ y2 = -y3) := fun h => e2 (by rw [add_aa, if_pos h])
    have s1 := sl_slope h2 hp' hq' n1
    have s2 := sl_slope h2 hq' hr' n2
    have a1 := add_sl h2 hp' hq' n1 s1
    have a2 := add_sl h2 hq' hr' n2 s2
    rw [a1] at e3 ⊢; rw [a2] at e4 ⊢
    have o1 := on_sl hp' s1
    have o2 := on_sl hq' s2
    have n3 : ¬ (slope x1 y1 x2 y2 * slope x1 y1 x2 y2 - x1 - x2 = x3 ∧
      slope x1 y1 x2 y2 * (x1 - (slope x1 y1 x2 y2 * slope x1 y1 x2 y2 - x1 - x2)) - y1 = -y3) := fun h => e3 (by rw [add_aa, if_pos h])
    have n4 : ¬ (x1 = slope x2 y2 x3 y3 * slope x2 y2 x3 y3 - x2 - x3 ∧
      y1 = -(slope x2 y2 x3 y3 * (x2 - (slope x2 y2 x3 y3 * slope x2 y2 x3 y3 - x2 - x3)) - y2)) := fun h => e4 (by rw [add_aa, if_pos h])
    have s3 := sl_slope h2 o1 hr' n3
    have s4 := sl_slope h2 hp' o2 n4
    rw [add_sl h2 o1 hr' n3 s3, add_sl h2 hp' o2 n4 s4]
    generalize slope (slope x1 y1 x2 y2 * slope x1 y1 x2 y2 - x1 - x2) _ x3 y3 = v at s3 ⊢
    generalize slope x1 y1 (slope x2 y2 x3 y3 * slope x2 y2 x3 y3 - x2 - x3) _ = w at s4 ⊢
    generalize slope x1 y1 x2 y2 = l at *
    generalize slope x2 y2 x3 y3 = m at *
    have k1 := key h2 hp' hr' s1 s2 n3 s3
    have k2 : (m + w) * (m - l) = x3 - x1 := by
      have yy : m * (x3 - (m * m - x3 - x2)) - y3 = m * (x2 - (m * m - x2 - x3)) - y2 := by
        exact rS1 s2.1
      have xx : m * m - x3 - x2 = m * m - x2 - x3 := rS2
      refine key (n := w) h2 hr' hp' (sl_comm s2) (sl_comm s1) ?_ ?_
      · rw [yy, xx]; intro h; exact n4 ⟨h.1.symm, rS3 h.2⟩
      · rw [yy, xx]; exact sl_comm s4
    by_cases hlm : l = m
    · subst hlm
      have e : x1 = x3 := rS4 k1
      subst e
      have ey : y1 = y3 := rS5 s1.1 s2.1
      exact absurd (by rw [ey]) e5
    · have hw : w = l + v - m := rS7 (mul0 (rS6 k1 k2) (rT6 hlm))
      rw [hw, ← rS8 (x2 := x2) k1, rS10 s1.1 s2.1 s3.1 (rS9 k1 rfl)]

/-- The point of three numbers. -/
def pt (x y z : F) : Pt := if z = 0 then .o else .a (x * (iv z * iv z)) (y * (iv z * iv z * iv z))

theorem pt_o {x y z : F} (h : z = 0) : pt x y z = .o := by unfold pt; rw [if_pos h]
theorem pt_of {x y z u v : F} (h : z ≠ 0) (hx : x = u * (z * z)) (hy : y = v * (z * z * z)) : pt x y z = .a u v := by
  unfold pt; rw [if_neg h]
  have := inv1 h
  subst hx; subst hy
  generalize iv z = w at *
  congr 1 <;> grind -lia -linarith
theorem pt_some {x y z : F} (h : z ≠ 0) : ∃ u v, x = u * (z * z) ∧ y = v * (z * z * z) ∧ pt x y z = .a u v := by
  have := inv1 h
  refine ⟨x * (iv z * iv z), y * (iv z * iv z * iv z), ?_, ?_, ?_⟩
  · generalize iv z = w at *; grind -lia -linarith
  · generalize iv z = w at *; grind -lia -linarith
  · unfold pt; rw [if_neg h]

/-- Twice a point of three numbers. -/
def dx (x y : F) : F := 3 * (x * x) * (3 * (x * x)) - 2 * (4 * (x * (y * y)))
def dy (x y : F) : F := 3 * (x * x) * (4 * (x * (y * y)) - dx x y) - 8 * (y * y * (y * y))
def dz (y z : F) : F := 2 * (y * z)

theorem ring_dx {x y l : F} (h : l * (y + y) = 3 * (x * x)) (z : F) : dx (x * (z * z)) (y * (z * z * z)) = (l * l - x - x) * (dz (y * (z * z * z)) z * dz (y * (z * z * z)) z) := by
  unfold dx dz; grind -lia -linarith
theorem ring_dy {x y l : F} (h : l * (y + y) = 3 * (x * x)) (z : F) : dy (x * (z * z)) (y * (z * z * z)) = (l * (x - (l * l - x - x)) - y) * (dz (y * (z * z * z)) z * dz (y * (z * z * z)) z * dz (y * (z * z * z)) z) := by
  unfold dy dx dz; grind -lia -linarith

theorem pt_dbl {b x y z : F} (h2 : (2 : F) ≠ 0) (hz : z ≠ 0) (ho : OnC b (pt x y z)) : pt (dx x y) (dy x y) (dz y z) = (pt x y z).add (pt x y z) := by
  obtain ⟨u, v, hx, hy, hp⟩ := pt_some (x := x) (y := y) hz
  rw [hp] at ho ⊢
  by_cases h0 : v = 0
  · have e : dz y z = 0 := by unfold dz; subst hy; subst h0; grind -lia -linarith
    rw [pt_o e, add_aa, if_pos ⟨rfl, by subst h0; grind -lia -linarith⟩]
  · have hn : ¬ (u = u ∧ v = -v) := by
      intro ⟨_, h⟩
      have e : 2 * v = 0 := by grind -lia -linarith
      exact h0 (mul0 e h2)
    have s := sl_slope h2 ho ho hn
    rw [add_sl h2 ho ho hn s]
    generalize slope u v u v = l at s
    have s2 : l * (v + v) = 3 * (u * u) := by obtain ⟨_, h⟩ := s; clear hx hy hp ho; grind -lia -linarith
    have hd : dz y z ≠ 0 := by
      intro h
      unfold dz at h
      have := mul0 h h2
      have h' : z * y = 0 := by clear hx hy hp ho s s2 h; grind -lia -linarith
      have hy0 := mul0 h' hz
      rw [hy] at hy0
      have e3 : z * (z * (z * v)) = 0 := by clear hx hy hp ho s s2 h this h'; grind -lia -linarith
      exact h0 (mul0 (mul0 (mul0 e3 hz) hz) hz)
    subst hx; subst hy
    exact pt_of hd (ring_dx s2 z) (ring_dy s2 z)

/-- The sum of two points of three numbers: run and rise, and what comes of them. -/
def run (x1 z1 x2 z2 : F) : F := x2 * (z1 * z1) - x1 * (z2 * z2)
def rise (y1 z1 y2 z2 : F) : F := y2 * (z1 * z1 * z1) - y1 * (z2 * z2 * z2)
def ax (x1 z2 h r : F) : F := r * r - h * h * h - 2 * (x1 * (z2 * z2) * (h * h))
def ay (x1 y1 z2 h r : F) : F := r * (x1 * (z2 * z2) * (h * h) - ax x1 z2 h r) - y1 * (z2 * z2 * z2) * (h * h * h)
def az (z1 z2 h : F) : F := z1 * z2 * h

theorem pt_add {b x1 y1 z1 x2 y2 z2 : F} (h2 : (2 : F) ≠ 0) (hz1 : z1 ≠ 0) (hz2 : z2 ≠ 0)
    (ho : OnC b (pt x1 y1 z1)) (hq : OnC b (pt x2 y2 z2)) :
    (run x1 z1 x2 z2 ≠ 0 → pt (ax x1 z2 (run x1 z1 x2 z2) (rise y1 z1 y2 z2)) (ay x1 y1 z2 (run x1 z1 x2 z2) (rise y1 z1 y2 z2)) (az z1 z2 (run x1 z1 x2 z2)) = (pt x1 y1 z1).add (pt x2 y2 z2)) ∧
    (run x1 z1 x2 z2 = 0 → rise y1 z1 y2 z2 = 0 → pt x2 y2 z2 = pt x1 y1 z1) ∧
    (run x1 z1 x2 z2 = 0 → rise y1 z1 y2 z2 ≠ 0 → (pt x1 y1 z1).add (pt x2 y2 z2) = .o) := by
  obtain ⟨u1, v1, hx1, hy1, hp1⟩ := pt_some (x := x1) (y := y1) hz1
  obtain ⟨u2, v2, hx2, hy2, hp2⟩ := pt_some (x := x2) (y := y2) hz2
  rw [hp1] at ho; rw [hp2] at hq; rw [hp1, hp2]
  have hw : z1 * z2 ≠ 0 := fun h => hz2 (mul0 h hz1)
  have er : run x1 z1 x2 z2 = z1 * z2 * (z1 * z2 * (u2 - u1)) := by unfold run; subst hx1; subst hx2; clear hp1 hp2 ho hq hw; grind -lia -linarith
  have es : rise y1 z1 y2 z2 = z1 * z2 * (z1 * z2 * (z1 * z2 * (v2 - v1))) := by unfold rise; subst hy1; subst hy2; clear hp1 hp2 ho hq hw; grind -lia -linarith
  have hu : run x1 z1 x2 z2 = 0 → u1 = u2 := by
    intro h; rw [er] at h
    have := mul0 (mul0 h hw) hw
    clear hx1 hy1 hp1 hx2 hy2 hp2 ho hq er es h; grind -lia -linarith
  refine ⟨fun h => ?_, fun h h' => ?_, fun h h' => ?_⟩
  · have hd : u2 - u1 ≠ 0 := by
      intro e; apply h; rw [er, e]; clear hx1 hy1 hp1 hx2 hy2 hp2 ho hq er es h hu; grind -lia -linarith
    have hn : ¬ (u1 = u2 ∧ v1 = -v2) := by
      intro ⟨e, _⟩; apply hd; clear hx1 hy1 hp1 hx2 hy2 hp2 ho hq er es h hu; grind -lia -linarith
    have s := sl_slope h2 ho hq hn
    rw [add_sl h2 ho hq hn s]
    generalize slope u1 v1 u2 v2 = l at s
    obtain ⟨s1, _⟩ := s
    have hz : az z1 z2 (run x1 z1 x2 z2) ≠ 0 := by
      unfold az; intro e; exact h (mul0 e hw)
    have hs : rise y1 z1 y2 z2 = l * (z1 * z2 * run x1 z1 x2 z2) := by
      rw [er, es]; clear hx1 hy1 hp1 hx2 hy2 hp2 ho hq er es h hu hn hd hz; grind -lia -linarith
    refine pt_of hz ?_ ?_
    · unfold ax az; rw [hs]
      clear hp1 hp2 ho hq es h hu hn hd hz hs hy1 hy2 s1
      have e2 : run x1 z1 x2 z2 = z1 * z2 * (z1 * z2) * (u2 - u1) := by rw [er]; grind -lia -linarith
      generalize run x1 z1 x2 z2 = r at *
      subst hx1
      clear hx2 er
      grind -lia -linarith
    · unfold ay ax az; rw [hs]
      have e2 : run x1 z1 x2 z2 = z1 * z2 * (z1 * z2) * (u2 - u1) := by rw [er]; clear hp1 hp2 ho hq es h hu hn hd hz hs hy1 hy2 s1; grind -lia -linarith
      have e3 : y1 = v1 * (z1 * z1 * z1) := hy1
      clear hp1 hp2 ho hq es h hu hn hd hz hs hy1 hy2 er s1
      generalize run x1 z1 x2 z2 = r at *
      subst hx1; subst e3
      clear hx2
      grind -lia -linarith
  · have e := hu h
    rw [es] at h'
    have := mul0 (mul0 (mul0 h' hw) hw) hw
    have e' : v2 = v1 := by clear hx1 hy1 hp1 hx2 hy2 hp2 ho hq er es h hu h'; grind -lia -linarith
    rw [e, e']
  · have e := hu h
    rw [add_aa, if_pos]
    refine ⟨e, ?_⟩
    by_cases hv : v1 = -v2
    · exact hv
    · exfalso
      subst e
      have := y_cases ho hq hv
      subst this
      apply h'; rw [es]
      clear hx1 hy1 hp1 hx2 hy2 hp2 ho hq er es h hu h'; grind -lia -linarith
end Go.Proofs.YtiebnlahhmngcaaGreatDoor.EC

/- Multiples of points; every point is a multiple of a base of great odd order. -/
namespace Go.Proofs.YtiebnlahhmngcaaGreatDoor.EC

abbrev On (p : Pt) : Prop := OnC 7 p
theorem two : (2 : F) ≠ 0 := by decide +kernel
theorem three : (3 : F) ≠ 0 := by decide +kernel
theorem seven : (7 : F) ≠ 0 := by decide +kernel

theorem on_o : On .o := trivial
theorem Pt.comm {p q : Pt} (hp : On p) (hq : On q) : p.add q = q.add p := add_comm two hp hq
theorem Pt.assoc {p q r : Pt} (hp : On p) (hq : On q) (hr : On r) : (p.add q).add r = p.add (q.add r) := EC.assoc two three seven hp hq hr
theorem Pt.on {p q : Pt} (hp : On p) (hq : On q) : On (p.add q) := on_add two hp hq
theorem Pt.back {p q : Pt} (hp : On p) (hq : On q) : p.neg.add (p.add q) = q := cancel two three seven hp hq
theorem Pt.left {p q r : Pt} (hp : On p) (hq : On q) (hr : On r) (h : p.add q = p.add r) : q = r := by
  have a := Pt.back hp hq; have b := Pt.back hp hr
  rw [h] at a; rw [← a, b]
/-- (a + b) + (c + d) = (a + c) + (b + d). -/
theorem Pt.four {a b c d : Pt} (ha : On a) (hb : On b) (hc : On c) (hd : On d) : (a.add b).add (c.add d) = (a.add c).add (b.add d) := by
  rw [Pt.assoc ha hb (Pt.on hc hd), ← Pt.assoc hb hc hd, Pt.comm hb hc, Pt.assoc hc hb hd, ← Pt.assoc ha hc (Pt.on hb hd)]

def smul : Nat → Pt → Pt
  | 0, _ => .o
  | k + 1, p => (smul k p).add p

theorem smul_on {p : Pt} (hp : On p) : ∀ k, On (smul k p)
  | 0 => on_o
  | k + 1 => Pt.on (smul_on hp k) hp
theorem smul_one (p : Pt) : smul 1 p = p := rfl
theorem smul_add {p : Pt} (hp : On p) (a : Nat) : ∀ b, smul (a + b) p = (smul a p).add (smul b p)
  | 0 => (add_o _).symm
  | b + 1 => by
    show (smul (a + b) p).add p = (smul a p).add ((smul b p).add p)
    rw [smul_add hp a b, Pt.assoc (smul_on hp a) (smul_on hp b) hp]
theorem smul_o : ∀ k, smul k .o = .o
  | 0 => rfl
  | k + 1 => by show (smul k .o).add .o = .o; rw [smul_o k]; rfl
theorem smul_mul {p : Pt} (hp : On p) (a : Nat) : ∀ b, smul (a * b) p = smul b (smul a p)
  | 0 => rfl
  | b + 1 => by
    show smul (a * (b + 1)) p = (smul b (smul a p)).add (smul a p)
    rw [Nat.mul_succ, smul_add hp, smul_mul hp a b]
/-- A point's number. -/
def code : Pt → Nat
  | .o => 0
  | .a x y => 1 + 2 * x.val + y.val % 2
/-- A base whose order is odd, and great. -/
structure Base (n : Nat) (g : Pt) : Prop where
  on : On g
  ord : smul n g = .o
  low : ∀ k, 0 < k → k < n → smul k g ≠ .o
  odd : n % 2 = 1
  big : 231584178474632390847141970017375815706539969331281128078915168015817669343327 < 3 * n

theorem Base.inj {n : Nat} {g : Pt} (h : Base n g) {i j : Nat} (hi : i < n) (hj : j < n) (e : smul i g = smul j g) : i = j := by
  have key : ∀ i j, i < n → j < n → i < j → smul i g = smul j g → False := by
    intro i j _ hj hlt e
    have e1 : smul i g = (smul i g).add (smul (j - i) g) := by
      rw [← smul_add h.on, Nat.add_sub_of_le (Nat.le_of_lt hlt)]; exact e
    have e2 : (smul i g).add .o = (smul i g).add (smul (j - i) g) := by rw [add_o]; exact e1
    have e3 := Pt.left (smul_on h.on i) on_o (smul_on h.on _) e2
    exact h.low (j - i) (by omega) (by omega) e3.symm
  rcases Nat.lt_trichotomy i j with hlt | heq | hgt
  · exact (key i j hi hj hlt e).elim
  · exact heq
  · exact (key j i hj hi hgt e.symm).elim

/-- A multiple of the base. -/
def Of (g p : Pt) : Prop := ∃ k, p = smul k g

end Go.Proofs.YtiebnlahhmngcaaGreatDoor.EC

namespace Go.Proofs.YtiebnlahhmngcaaGreatDoor
open Go.RowKit Go.Sort

def rootE (x : Int) : Int := if modN pN (powN pN x qN * powN pN x qN) = modN pN x then 0 else 41
end Go.Proofs.YtiebnlahhmngcaaGreatDoor

namespace Go.Proofs.YtiebnlahhmngcaaGreatDoor
open Go.RowKit Go.Sort

def liftOk (x : Int) : Prop := x < pN ∧ rootE (cubN x) = 0
instance (x : Int) : Decidable (liftOk x) := inferInstanceAs (Decidable (_ ∧ _))
end Go.Proofs.YtiebnlahhmngcaaGreatDoor

/- Points of three numbers, and the base point's order. -/
namespace Go.Proofs.YtiebnlahhmngcaaGreatDoor.EC

/-- Points as three numbers. -/
structure J where
  x : F
  y : F
  z : F
def J.pt (t : J) : Pt := EC.pt t.x t.y t.z
def J.o : J := ⟨0, 0, 0⟩
def jd (t : J) : J := if t.z = 0 then t else ⟨dx t.x t.y, dy t.x t.y, dz t.y t.z⟩
def ja (t u : J) : J :=
  if t.z = 0 then u else if u.z = 0 then t else
  if run t.x t.z u.x u.z = 0 then (if rise t.y t.z u.y u.z = 0 then jd t else J.o) else
    ⟨ax t.x u.z (run t.x t.z u.x u.z) (rise t.y t.z u.y u.z), ay t.x t.y u.z (run t.x t.z u.x u.z) (rise t.y t.z u.y u.z), az t.z u.z (run t.x t.z u.x u.z)⟩

theorem J.pt_o : J.o.pt = .o := EC.pt_o rfl
theorem jd_pt {t : J} (h : On t.pt) : (jd t).pt = t.pt.add t.pt := by
  unfold jd
  by_cases hz : t.z = 0
  · rw [if_pos hz]
    have e : t.pt = .o := EC.pt_o hz
    rw [e]; rfl
  · rw [if_neg hz]; exact pt_dbl two hz h
theorem ja_pt {t u : J} (h : On t.pt) (h' : On u.pt) : (ja t u).pt = t.pt.add u.pt := by
  unfold ja
  by_cases hz : t.z = 0
  · rw [if_pos hz]
    have e : t.pt = .o := EC.pt_o hz
    rw [e]; rfl
  · rw [if_neg hz]
    by_cases hu : u.z = 0
    · rw [if_pos hu]
      have e : u.pt = .o := EC.pt_o hu
      rw [e, add_o]
    · rw [if_neg hu]
      obtain ⟨a, b, c⟩ := pt_add two hz hu h h'
      by_cases hr : run t.x t.z u.x u.z = 0
      · rw [if_pos hr]
        by_cases hs : rise t.y t.z u.y u.z = 0
        · rw [if_pos hs, jd_pt h]
          have e : u.pt = t.pt := b hr hs
          rw [e]
        · rw [if_neg hs, J.pt_o]; exact (c hr hs).symm
      · rw [if_neg hr]; exact a hr

def jm : Nat → Nat → J → J
  | 0, _, _ => J.o
  | f + 1, k, t => if k % 2 = 1 then ja (jd (jm f (k / 2) t)) t else jd (jm f (k / 2) t)
theorem jm_pt {t : J} (h : On t.pt) : ∀ f k, k < 2 ^ f → (jm f k t).pt = smul k t.pt
  | 0, k, hk => by
    have : k = 0 := by rw [Nat.pow_zero] at hk; omega
    subst this; exact J.pt_o
  | f + 1, k, hk => by
    have ih := jm_pt h f (k / 2) (by rw [Nat.pow_succ] at hk; omega)
    have hon : On (jm f (k / 2) t).pt := by rw [ih]; exact smul_on h _
    have e2 : (jd (jm f (k / 2) t)).pt = smul (k / 2 + k / 2) t.pt := by rw [jd_pt hon, ih, smul_add h]
    unfold jm
    split
    · next ho =>
      rw [ja_pt (by rw [e2]; exact smul_on h _) h, e2]
      conv => rhs; rw [show k = k / 2 + k / 2 + 1 by omega]
      rfl
    · next ho =>
      rw [e2]; congr 1; omega

def gJ : J := ⟨55066263022277343669578718895168534326250603453777594175500187360389116729240, 32670510020758816978083085130507043184471273380659243275938904335757337482424, 1⟩
theorem gJ_z : gJ.z ≠ 0 := by decide +kernel
theorem gJ_on' : gJ.y * gJ.y = gJ.x * gJ.x * gJ.x + 7 := by decide +kernel
theorem gJ_pt : gJ.pt = .a gJ.x gJ.y := by
  have e : gJ.z = 1 := rfl
  refine pt_of gJ_z ?_ ?_
  · rw [e]; grind -lia -linarith
  · rw [e]; grind -lia -linarith
theorem gJ_on : On gJ.pt := by rw [gJ_pt]; exact gJ_on'
theorem ng_zero : (jm 256 115792089237316195423570985008687907852837564279074904382605163141518161494337 gJ).z = 0 := by decide +kernel

theorem low_ord {n i k q : Nat} {g : Pt} (hg : On g) (h0 : g ≠ .o) (hn : smul n g = .o) (e : k * i = n * q + 1) : smul k g ≠ .o := by
  intro hk
  have a := smul_mul hg k i
  rw [hk, smul_o, e, smul_add hg, smul_mul hg, hn, smul_o, smul_one] at a
  exact h0 a
theorem inv_n {x : Int} (x0 : 0 ≤ x) (h : modN nN x ≠ 0) : modN nN (x * invN nN x) = 1 := by
  have e := powN_fermat prm_n x0 h
  unfold invN
  rw [Int.mul_comm, powN_next nN x (by decide), show nN - 2 + 1 = nN - 1 by decide]; exact e
theorem nat_inv {k n : Nat} {i : Int} (i0 : 0 ≤ i) (h : (k : Int) * i % (n : Int) = 1) : ∃ j q, k * j = n * q + 1 := by
  obtain ⟨j, rfl⟩ := Int.eq_ofNat_of_zero_le i0
  refine ⟨j, k * j / n, ?_⟩
  have e : ((k * j % n : Nat) : Int) = 1 := by rw [Int.natCast_emod, Int.natCast_mul]; exact h
  have := Nat.div_add_mod (k * j) n
  omega
theorem nN_is : nN = ((115792089237316195423570985008687907852837564279074904382605163141518161494337 : Nat) : Int) := rfl
theorem base_g : Base 115792089237316195423570985008687907852837564279074904382605163141518161494337 gJ.pt where
  on := gJ_on
  ord := by
    rw [← jm_pt gJ_on 256 _ (by decide +kernel)]
    exact EC.pt_o ng_zero
  low := by
    intro k h0 hk
    have hm : modN nN (k : Int) = (k : Int) := modN_of_lt (by omega) (by rw [nN_is]; omega)
    have e := inv_n (x := (k : Int)) (by omega) (by rw [hm]; omega)
    unfold modN at e
    rw [nN_is] at e
    obtain ⟨j, q, hj⟩ := nat_inv (powN_lt fit_n _ _).1 e
    refine low_ord gJ_on ?_ ?_ hj
    · rw [gJ_pt]; intro h; cases h
    · rw [← jm_pt gJ_on 256 _ (by decide +kernel)]
      exact EC.pt_o ng_zero
  odd := by decide +kernel
  big := by decide +kernel
end Go.Proofs.YtiebnlahhmngcaaGreatDoor.EC

namespace Go.Proofs.YtiebnlahhmngcaaGreatDoor
open Go.RowKit Go.Sort

set_option maxHeartbeats 2000000 in
theorem cdbl_id {x y z : Int} (C0 : Hid (∀ w, Calls Tryz.prog 45 #[.agg #[.int .u64 (l0 x), .int .u64 (l1 x), .int .u64 (l2 x), .int .u64 (l3 x), .int .u64 (l0 y), .int .u64 (l1 y), .int .u64 (l2 y), .int .u64 (l3 y), .int .u64 (l0 z), .int .u64 (l1 z), .int .u64 (l2 z), .int .u64 (l3 z)]] w fun e w' => e = .returned (.bool true) ∧ Below w.heap.size w w')) (w : World) :
    Calls Tryz.prog 40 #[.agg #[.int .u64 (l0 x), .int .u64 (l1 x), .int .u64 (l2 x), .int .u64 (l3 x), .int .u64 (l0 y), .int .u64 (l1 y), .int .u64 (l2 y), .int .u64 (l3 y), .int .u64 (l0 z), .int .u64 (l1 z), .int .u64 (l2 z), .int .u64 (l3 z)]] w fun e w' => e = .returned (.agg #[.int .u64 (l0 x), .int .u64 (l1 x), .int .u64 (l2 x), .int .u64 (l3 x), .int .u64 (l0 y), .int .u64 (l1 y), .int .u64 (l2 y), .int .u64 (l3 y), .int .u64 (l0 z), .int .u64 (l1 z), .int .u64 (l2 z), .int .u64 (l3 z)]) ∧ Below w.heap.size w w' := by
  go_enter Tryz.func40, Tryz.ntmps40
  go_wp2_with fail
  refine calls_world (fun W => Below w.heap.size w W ∧ Thr W w.heap.size x y z ∧ Bk12 W (w.heap.size + 1)) ⟨by repeat (first | with_reducible exact Below.refl _ _ | with_reducible refine Below.alloc ?_ (by first | omega | (simp; done) | (simp; omega)) _), (Thr.new rfl).alloc _, Bk12.new (by simp)⟩ ?_
  rintro W ⟨B, hT, hR⟩
  have o3 : w.heap.size ≤ w.heap.size + 1 := by omega
  generalize w.heap.size + 1 = br at *
  with_reducible refine (C0.out _).mono ?_
  rintro e w1 ⟨rfl, hb⟩
  replace B := B.trans (hb.mono B.size)
  replace hR := hR.keep hb; replace hT := hT.keep hb
  have gT := hT.cells
  clear hb W hT
  have gR := hR.cells; have fR := hR.free
  go_wp2
  simp [bodyPost, results, Tryz.results40, go_sem, gR]
  repeat (first | with_reducible exact B | with_reducible refine Below.setCell ?_ o3 _)

set_option maxHeartbeats 2000000 in
theorem cadd_l {x y z x2 y2 z2 : Int} (C0 : Hid (∀ w, Calls Tryz.prog 45 #[.agg #[.int .u64 (l0 x), .int .u64 (l1 x), .int .u64 (l2 x), .int .u64 (l3 x), .int .u64 (l0 y), .int .u64 (l1 y), .int .u64 (l2 y), .int .u64 (l3 y), .int .u64 (l0 z), .int .u64 (l1 z), .int .u64 (l2 z), .int .u64 (l3 z)]] w fun e w' => e = .returned (.bool true) ∧ Below w.heap.size w w')) (w : World) :
    Calls Tryz.prog 41 #[.agg #[.int .u64 (l0 x), .int .u64 (l1 x), .int .u64 (l2 x), .int .u64 (l3 x), .int .u64 (l0 y), .int .u64 (l1 y), .int .u64 (l2 y), .int .u64 (l3 y), .int .u64 (l0 z), .int .u64 (l1 z), .int .u64 (l2 z), .int .u64 (l3 z)], .agg #[.int .u64 (l0 x2), .int .u64 (l1 x2), .int .u64 (l2 x2), .int .u64 (l3 x2), .int .u64 (l0 y2), .int .u64 (l1 y2), .int .u64 (l2 y2), .int .u64 (l3 y2), .int .u64 (l0 z2), .int .u64 (l1 z2), .int .u64 (l2 z2), .int .u64 (l3 z2)]] w fun e w' => e = .returned (.agg #[.int .u64 (l0 x2), .int .u64 (l1 x2), .int .u64 (l2 x2), .int .u64 (l3 x2), .int .u64 (l0 y2), .int .u64 (l1 y2), .int .u64 (l2 y2), .int .u64 (l3 y2), .int .u64 (l0 z2), .int .u64 (l1 z2), .int .u64 (l2 z2), .int .u64 (l3 z2)]) ∧ Below w.heap.size w w' := by
  go_enter Tryz.func41, Tryz.ntmps41
  go_wp2_with fail
  refine calls_world (fun W => Below w.heap.size w W ∧ Thr W (w.heap.size + 1) x2 y2 z2 ∧ Bk12 W (w.heap.size + 1 + 1)) ⟨by repeat (first | with_reducible exact Below.refl _ _ | with_reducible refine Below.alloc ?_ (by first | omega | (simp; done) | (simp; omega)) _), (Thr.new (by simp)).alloc _, Bk12.new (by simp)⟩ ?_
  rintro W ⟨B, hT, hR⟩
  have o3 : w.heap.size ≤ w.heap.size + 1 + 1 := by omega
  generalize w.heap.size + 1 + 1 = br at *
  generalize w.heap.size + 1 = bo at *
  with_reducible refine (C0.out _).mono ?_
  rintro e w1 ⟨rfl, hb⟩
  replace B := B.trans (hb.mono B.size)
  replace hR := hR.keep hb; replace hT := hT.keep hb
  have gT := hT.cells
  clear hb W hT
  have gR := hR.cells; have fR := hR.free
  go_wp2
  simp [bodyPost, results, Tryz.results41, go_sem, gR]
  repeat (first | with_reducible exact B | with_reducible refine Below.setCell ?_ o3 _)

set_option maxHeartbeats 2000000 in
theorem cadd_r {x y z x2 y2 z2 : Int} (C0 : Hid (∀ w, Calls Tryz.prog 45 #[.agg #[.int .u64 (l0 x), .int .u64 (l1 x), .int .u64 (l2 x), .int .u64 (l3 x), .int .u64 (l0 y), .int .u64 (l1 y), .int .u64 (l2 y), .int .u64 (l3 y), .int .u64 (l0 z), .int .u64 (l1 z), .int .u64 (l2 z), .int .u64 (l3 z)]] w fun e w' => e = .returned (.bool false) ∧ Below w.heap.size w w')) (C1 : Hid (∀ w, Calls Tryz.prog 45 #[.agg #[.int .u64 (l0 x2), .int .u64 (l1 x2), .int .u64 (l2 x2), .int .u64 (l3 x2), .int .u64 (l0 y2), .int .u64 (l1 y2), .int .u64 (l2 y2), .int .u64 (l3 y2), .int .u64 (l0 z2), .int .u64 (l1 z2), .int .u64 (l2 z2), .int .u64 (l3 z2)]] w fun e w' => e = .returned (.bool true) ∧ Below w.heap.size w w')) (w : World) :
    Calls Tryz.prog 41 #[.agg #[.int .u64 (l0 x), .int .u64 (l1 x), .int .u64 (l2 x), .int .u64 (l3 x), .int .u64 (l0 y), .int .u64 (l1 y), .int .u64 (l2 y), .int .u64 (l3 y), .int .u64 (l0 z), .int .u64 (l1 z), .int .u64 (l2 z), .int .u64 (l3 z)], .agg #[.int .u64 (l0 x2), .int .u64 (l1 x2), .int .u64 (l2 x2), .int .u64 (l3 x2), .int .u64 (l0 y2), .int .u64 (l1 y2), .int .u64 (l2 y2), .int .u64 (l3 y2), .int .u64 (l0 z2), .int .u64 (l1 z2), .int .u64 (l2 z2), .int .u64 (l3 z2)]] w fun e w' => e = .returned (.agg #[.int .u64 (l0 x), .int .u64 (l1 x), .int .u64 (l2 x), .int .u64 (l3 x), .int .u64 (l0 y), .int .u64 (l1 y), .int .u64 (l2 y), .int .u64 (l3 y), .int .u64 (l0 z), .int .u64 (l1 z), .int .u64 (l2 z), .int .u64 (l3 z)]) ∧ Below w.heap.size w w' := by
  go_enter Tryz.func41, Tryz.ntmps41
  go_wp2_with fail
  refine calls_world (fun W => Below w.heap.size w W ∧ Thr W w.heap.size x y z ∧ Thr W (w.heap.size + 1) x2 y2 z2 ∧ Bk12 W (w.heap.size + 1 + 1)) ⟨by repeat (first | with_reducible exact Below.refl _ _ | with_reducible refine Below.alloc ?_ (by first | omega | (simp; done) | (simp; omega)) _), ((Thr.new rfl).alloc _).alloc _, (Thr.new (by simp)).alloc _, Bk12.new (by simp)⟩ ?_
  rintro W ⟨B, hT, hO, hR⟩
  have o3 : w.heap.size ≤ w.heap.size + 1 + 1 := by omega
  generalize w.heap.size + 1 + 1 = br at *
  generalize w.heap.size + 1 = bo at *
  with_reducible refine (C0.out _).mono ?_
  rintro e w1 ⟨rfl, hb⟩
  replace B := B.trans (hb.mono B.size)
  replace hR := hR.keep hb; replace hT := hT.keep hb; replace hO := hO.keep hb
  clear hb W
  have gO := hO.cells
  go_wp2_with fail
  refine calls_world (fun W => Below w.heap.size w W ∧ Thr W w.heap.size x y z ∧ Bk12 W br) ⟨B, hT, hR⟩ ?_
  clear B hT hO hR gO
  rintro W ⟨B, hT, hR⟩
  with_reducible refine (C1.out _).mono ?_
  rintro e w2 ⟨rfl, hb⟩
  replace B := B.trans (hb.mono B.size)
  replace hR := hR.keep hb; replace hT := hT.keep hb
  have gT := hT.cells
  clear hb W hT
  have gR := hR.cells; have fR := hR.free
  go_wp2
  simp [bodyPost, results, Tryz.results41, go_sem, gR]
  repeat (first | with_reducible exact B | with_reducible refine Below.setCell ?_ o3 _)

open EC in
def J3 (x y z : Int) : EC.J := ⟨EC.fp x, EC.fp y, EC.fp z⟩
theorem fp_nz {x : Int} (h : EC.Low x) (h0 : x ≠ 0) : EC.fp x ≠ 0 := fun e => h0 (EC.fp_inj h ⟨by decide, by decide⟩ (by rw [e, EC.fp_zero]))

/-- Twice. -/
theorem cdbl_J {x y z : Int} (hx : EC.Low x) (hy : EC.Low y) (hz : EC.Low z) : ∃ x' y' z', EC.Low x' ∧ EC.Low y' ∧ EC.Low z' ∧ J3 x' y' z' = EC.jd (J3 x y z) ∧
    ∀ w, Mds w → Calls Tryz.prog 40 #[.agg #[.int .u64 (l0 x), .int .u64 (l1 x), .int .u64 (l2 x), .int .u64 (l3 x), .int .u64 (l0 y), .int .u64 (l1 y), .int .u64 (l2 y), .int .u64 (l3 y), .int .u64 (l0 z), .int .u64 (l1 z), .int .u64 (l2 z), .int .u64 (l3 z)]] w fun e w' => e = .returned (.agg #[.int .u64 (l0 x'), .int .u64 (l1 x'), .int .u64 (l2 x'), .int .u64 (l3 x'), .int .u64 (l0 y'), .int .u64 (l1 y'), .int .u64 (l2 y'), .int .u64 (l3 y'), .int .u64 (l0 z'), .int .u64 (l1 z'), .int .u64 (l2 z'), .int .u64 (l3 z')]) ∧ Below w.heap.size w w' := by
  by_cases h0 : z = 0
  · refine ⟨x, y, z, hx, hy, hz, ?_, fun w _ => cdbl_id (fun w => ?_) w⟩
    · unfold EC.jd
      rw [if_pos (by show EC.fp z = 0; rw [h0, EC.fp_zero])]
    · have := cisid_any (x := x) (y := y) hz.num w
      rw [decide_eq_true h0] at this; exact this
  · have C0 : Hid (∀ w, Calls Tryz.prog 45 #[.agg #[.int .u64 (l0 x), .int .u64 (l1 x), .int .u64 (l2 x), .int .u64 (l3 x), .int .u64 (l0 y), .int .u64 (l1 y), .int .u64 (l2 y), .int .u64 (l3 y), .int .u64 (l0 z), .int .u64 (l1 z), .int .u64 (l2 z), .int .u64 (l3 z)]] w fun e w' => e = .returned (.bool false) ∧ Below w.heap.size w w') := fun w => by
      have := cisid_any (x := x) (y := y) hz.num w
      rw [decide_eq_false h0] at this; exact this
    refine ⟨_, _, _, EC.low_mod _, EC.low_mod _, EC.low_mod _, ?_, fun w hm => cdbl_walk C0 (fun w hm => csquare_any hy.num w hm) (fun w hm => csquare_any (modN_Num fit_p _) w hm) (fun w hm => csquare_any hx.num w hm)
      (fun w hm => ctwice_any (modN_Num fit_p _) w hm) (fun w hm => cplus_any (modN_Num fit_p _) (modN_Num fit_p _) w hm) (fun w hm => ctimes_any hx.num (modN_Num fit_p _) w hm) (fun w hm => ctwice_any (modN_Num fit_p _) w hm) (fun w hm => ctwice_any (modN_Num fit_p _) w hm)
      (fun w hm => csquare_any (modN_Num fit_p _) w hm) (fun w hm => ctwice_any (modN_Num fit_p _) w hm) (fun w hm => cminus_any (modN_Num fit_p _) (modN_Num fit_p _) w hm) (fun w hm => cminus_any (modN_Num fit_p _) (modN_Num fit_p _) w hm) (fun w hm => ctimes_any (modN_Num fit_p _) (modN_Num fit_p _) w hm)
      (fun w hm => ctwice_any (modN_Num fit_p _) w hm) (fun w hm => ctwice_any (modN_Num fit_p _) w hm) (fun w hm => ctwice_any (modN_Num fit_p _) w hm) (fun w hm => cminus_any (modN_Num fit_p _) (modN_Num fit_p _) w hm) (fun w hm => ctimes_any hy.num hz.num w hm) (fun w hm => ctwice_any (modN_Num fit_p _) w hm) w hm⟩
    unfold EC.jd
    rw [if_neg (show ¬ (J3 x y z).z = 0 from fp_nz hz h0)]
    unfold J3
    simp only [EC.fp_mod, EC.fp_mul, EC.fp_add, EC.fp_sub]
    generalize EC.fp x = X; generalize EC.fp y = Y; generalize EC.fp z = Z
    congr 1
    · unfold EC.dx; grind -lia -linarith
    · unfold EC.dy EC.dx; grind -lia -linarith
    · unfold EC.dz; grind -lia -linarith

/-- The sum. -/
theorem cadd_J {x y z x2 y2 z2 : Int} (hx : EC.Low x) (hy : EC.Low y) (hz : EC.Low z) (hx2 : EC.Low x2) (hy2 : EC.Low y2) (hz2 : EC.Low z2) : ∃ x' y' z', EC.Low x' ∧ EC.Low y' ∧ EC.Low z' ∧ J3 x' y' z' = EC.ja (J3 x y z) (J3 x2 y2 z2) ∧
    ∀ w, Mds w → Calls Tryz.prog 41 #[.agg #[.int .u64 (l0 x), .int .u64 (l1 x), .int .u64 (l2 x), .int .u64 (l3 x), .int .u64 (l0 y), .int .u64 (l1 y), .int .u64 (l2 y), .int .u64 (l3 y), .int .u64 (l0 z), .int .u64 (l1 z), .int .u64 (l2 z), .int .u64 (l3 z)], .agg #[.int .u64 (l0 x2), .int .u64 (l1 x2), .int .u64 (l2 x2), .int .u64 (l3 x2), .int .u64 (l0 y2), .int .u64 (l1 y2), .int .u64 (l2 y2), .int .u64 (l3 y2), .int .u64 (l0 z2), .int .u64 (l1 z2), .int .u64 (l2 z2), .int .u64 (l3 z2)]] w fun e w' => e = .returned (.agg #[.int .u64 (l0 x'), .int .u64 (l1 x'), .int .u64 (l2 x'), .int .u64 (l3 x'), .int .u64 (l0 y'), .int .u64 (l1 y'), .int .u64 (l2 y'), .int .u64 (l3 y'), .int .u64 (l0 z'), .int .u64 (l1 z'), .int .u64 (l2 z'), .int .u64 (l3 z')]) ∧ Below w.heap.size w w' := by
  by_cases h0 : z = 0
  · refine ⟨x2, y2, z2, hx2, hy2, hz2, ?_, fun w _ => cadd_l (fun w => ?_) w⟩
    · unfold EC.ja
      rw [if_pos (show (J3 x y z).z = 0 by show EC.fp z = 0; rw [h0, EC.fp_zero])]
    · have := cisid_any (x := x) (y := y) hz.num w
      rw [decide_eq_true h0] at this; exact this
  have C0 : Hid (∀ w, Calls Tryz.prog 45 #[.agg #[.int .u64 (l0 x), .int .u64 (l1 x), .int .u64 (l2 x), .int .u64 (l3 x), .int .u64 (l0 y), .int .u64 (l1 y), .int .u64 (l2 y), .int .u64 (l3 y), .int .u64 (l0 z), .int .u64 (l1 z), .int .u64 (l2 z), .int .u64 (l3 z)]] w fun e w' => e = .returned (.bool false) ∧ Below w.heap.size w w') := fun w => by
    have := cisid_any (x := x) (y := y) hz.num w
    rw [decide_eq_false h0] at this; exact this
  have n0 : ¬ (J3 x y z).z = 0 := fp_nz hz h0
  by_cases h2 : z2 = 0
  · refine ⟨x, y, z, hx, hy, hz, ?_, fun w _ => cadd_r C0 (fun w => ?_) w⟩
    · unfold EC.ja
      rw [if_neg n0, if_pos (show (J3 x2 y2 z2).z = 0 by show EC.fp z2 = 0; rw [h2, EC.fp_zero])]
    · have := cisid_any (x := x2) (y := y2) hz2.num w
      rw [decide_eq_true h2] at this; exact this
  have C1 : Hid (∀ w, Calls Tryz.prog 45 #[.agg #[.int .u64 (l0 x2), .int .u64 (l1 x2), .int .u64 (l2 x2), .int .u64 (l3 x2), .int .u64 (l0 y2), .int .u64 (l1 y2), .int .u64 (l2 y2), .int .u64 (l3 y2), .int .u64 (l0 z2), .int .u64 (l1 z2), .int .u64 (l2 z2), .int .u64 (l3 z2)]] w fun e w' => e = .returned (.bool false) ∧ Below w.heap.size w w') := fun w => by
    have := cisid_any (x := x2) (y := y2) hz2.num w
    rw [decide_eq_false h2] at this; exact this
  have n2 : ¬ (J3 x2 y2 z2).z = 0 := fp_nz hz2 h2
  obtain ⟨h, eh⟩ : ∃ h, h = modN pN (modN pN (x2 * modN pN (z * z)) - modN pN (x * modN pN (z2 * z2))) := ⟨_, rfl⟩
  obtain ⟨r, er⟩ : ∃ r, r = modN pN (modN pN (y2 * modN pN (modN pN (z * z) * z)) - modN pN (y * modN pN (modN pN (z2 * z2) * z2))) := ⟨_, rfl⟩
  have lh : EC.Low h := by rw [eh]; exact EC.low_mod _
  have lr : EC.Low r := by rw [er]; exact EC.low_mod _
  have fh : EC.fp h = EC.run (J3 x y z).x (J3 x y z).z (J3 x2 y2 z2).x (J3 x2 y2 z2).z := by
    rw [eh]; simp only [EC.fp_mod, EC.fp_mul, EC.fp_sub]; rfl
  have fr : EC.fp r = EC.rise (J3 x y z).y (J3 x y z).z (J3 x2 y2 z2).y (J3 x2 y2 z2).z := by
    rw [er]; simp only [EC.fp_mod, EC.fp_mul, EC.fp_sub]; rfl
  by_cases hh : h = 0
  · have e0 : EC.run (J3 x y z).x (J3 x y z).z (J3 x2 y2 z2).x (J3 x2 y2 z2).z = 0 := by rw [← fh, hh, EC.fp_zero]
    have he : ∀ w, (Op.equalIn 10000 24 (.agg #[.int .u64 (l0 h), .int .u64 (l1 h), .int .u64 (l2 h), .int .u64 (l3 h)]) (.agg #[.int .u64 0, .int .u64 0, .int .u64 0, .int .u64 0])).run Tryz.prog w = .ok true w := fun w => by
      have := eq_num lh.num (m := 0) ⟨by decide, by decide⟩ w
      obtain ⟨z0, z1, z2, z3⟩ := zero_limbs
      rw [z0, z1, z2, z3, decide_eq_true hh] at this
      exact this
    have key : ∃ x' y' z', EC.Low x' ∧ EC.Low y' ∧ EC.Low z' ∧ J3 x' y' z' = EC.ja (J3 x y z) (J3 x2 y2 z2) ∧ Hid (∀ w, Mds w → Calls Tryz.prog 66 #[.agg #[.int .u64 (l0 x), .int .u64 (l1 x), .int .u64 (l2 x), .int .u64 (l3 x), .int .u64 (l0 y), .int .u64 (l1 y), .int .u64 (l2 y), .int .u64 (l3 y), .int .u64 (l0 z), .int .u64 (l1 z), .int .u64 (l2 z), .int .u64 (l3 z)], .agg #[.int .u64 (l0 r), .int .u64 (l1 r), .int .u64 (l2 r), .int .u64 (l3 r)]] w fun e w' => e = .returned (.agg #[.int .u64 (l0 x'), .int .u64 (l1 x'), .int .u64 (l2 x'), .int .u64 (l3 x'), .int .u64 (l0 y'), .int .u64 (l1 y'), .int .u64 (l2 y'), .int .u64 (l3 y'), .int .u64 (l0 z'), .int .u64 (l1 z'), .int .u64 (l2 z'), .int .u64 (l3 z')]) ∧ Below w.heap.size w w') := by
      by_cases hr : r = 0
      · obtain ⟨x', y', z', l1, l2, l3, ej, cj⟩ := cdbl_J hx hy hz
        refine ⟨x', y', z', l1, l2, l3, ?_, fun w hm => ?_⟩
        · rw [ej]; unfold EC.ja
          rw [if_neg n0, if_neg n2, if_pos e0, if_pos (by rw [← fr, hr, EC.fp_zero])]
        · rw [hr]; exact csamex_yes cj w hm
      · refine ⟨0, 0, 0, ⟨by decide, by decide⟩, ⟨by decide, by decide⟩, ⟨by decide, by decide⟩, ?_, fun w _ => csamex_no lr.num hr w⟩
        unfold EC.ja
        rw [if_neg n0, if_neg n2, if_pos e0, if_neg (by rw [← fr]; exact fp_nz lr hr)]
        unfold J3 EC.J.o
        rw [EC.fp_zero]
    obtain ⟨x', y', z', l1, l2, l3, ej, cj⟩ := key
    subst eh; subst er
    exact ⟨x', y', z', l1, l2, l3, ej, fun w hm => cadd_walk C0 C1 (fun w hm => csquare_any hz.num w hm) (fun w hm => csquare_any hz2.num w hm) (fun w hm => ctimes_any hx.num (modN_Num fit_p _) w hm) (fun w hm => ctimes_any (modN_Num fit_p _) hz2.num w hm) (fun w hm => ctimes_any hy.num (modN_Num fit_p _) w hm) (fun w hm => ctimes_any hx2.num (modN_Num fit_p _) w hm) (fun w hm => cminus_any (modN_Num fit_p _) (modN_Num fit_p _) w hm) (fun w hm => ctimes_any (modN_Num fit_p _) hz.num w hm) (fun w hm => ctimes_any hy2.num (modN_Num fit_p _) w hm) (fun w hm => cminus_any (modN_Num fit_p _) (modN_Num fit_p _) w hm) (.inl ⟨he, cj⟩) w hm⟩
  · have e0 : ¬ EC.run (J3 x y z).x (J3 x y z).z (J3 x2 y2 z2).x (J3 x2 y2 z2).z = 0 := by rw [← fh]; exact fp_nz lh hh
    have he : ∀ w, (Op.equalIn 10000 24 (.agg #[.int .u64 (l0 h), .int .u64 (l1 h), .int .u64 (l2 h), .int .u64 (l3 h)]) (.agg #[.int .u64 0, .int .u64 0, .int .u64 0, .int .u64 0])).run Tryz.prog w = .ok false w := fun w => by
      have := eq_num lh.num (m := 0) ⟨by decide, by decide⟩ w
      obtain ⟨z0, z1, z2, z3⟩ := zero_limbs
      rw [z0, z1, z2, z3, decide_eq_false hh] at this
      exact this
    subst eh; subst er
    refine ⟨_, _, _, EC.low_mod _, EC.low_mod _, EC.low_mod _, ?_, fun w hm => cadd_walk C0 C1 (fun w hm => csquare_any hz.num w hm) (fun w hm => csquare_any hz2.num w hm) (fun w hm => ctimes_any hx.num (modN_Num fit_p _) w hm) (fun w hm => ctimes_any (modN_Num fit_p _) hz2.num w hm) (fun w hm => ctimes_any hy.num (modN_Num fit_p _) w hm) (fun w hm => ctimes_any hx2.num (modN_Num fit_p _) w hm) (fun w hm => cminus_any (modN_Num fit_p _) (modN_Num fit_p _) w hm) (fun w hm => ctimes_any (modN_Num fit_p _) hz.num w hm) (fun w hm => ctimes_any hy2.num (modN_Num fit_p _) w hm) (fun w hm => cminus_any (modN_Num fit_p _) (modN_Num fit_p _) w hm) (.inr ⟨he, _, _, _, _, _, _, _, _, _, _, ⟨(fun w hm => csquare_any (modN_Num fit_p _) w hm), (fun w hm => ctimes_any (modN_Num fit_p _) (modN_Num fit_p _) w hm), (fun w hm => ctimes_any (modN_Num fit_p _) (modN_Num fit_p _) w hm), (fun w hm => csquare_any (modN_Num fit_p _) w hm), (fun w hm => cminus_any (modN_Num fit_p _) (modN_Num fit_p _) w hm), (fun w hm => ctwice_any (modN_Num fit_p _) w hm), (fun w hm => cminus_any (modN_Num fit_p _) (modN_Num fit_p _) w hm), (fun w hm => cminus_any (modN_Num fit_p _) (modN_Num fit_p _) w hm), (fun w hm => ctimes_any (modN_Num fit_p _) (modN_Num fit_p _) w hm), (fun w hm => ctimes_any (modN_Num fit_p _) (modN_Num fit_p _) w hm), (fun w hm => cminus_any (modN_Num fit_p _) (modN_Num fit_p _) w hm), (fun w hm => ctimes_any hz.num hz2.num w hm), (fun w hm => ctimes_any (modN_Num fit_p _) (modN_Num fit_p _) w hm)⟩⟩) w hm⟩
    unfold EC.ja
    rw [if_neg n0, if_neg n2, if_neg e0, ← fh, ← fr]
    unfold J3
    simp only [EC.fp_mod, EC.fp_mul, EC.fp_add, EC.fp_sub]
    generalize EC.fp x = X; generalize EC.fp y = Y; generalize EC.fp z = Z; generalize EC.fp x2 = X2; generalize EC.fp y2 = Y2; generalize EC.fp z2 = Z2
    generalize X2 * (Z * Z) - X * (Z2 * Z2) = H
    generalize Y2 * (Z * Z * Z) - Y * (Z2 * Z2 * Z2) = R
    congr 1
    · unfold EC.ax; grind -lia -linarith
    · unfold EC.ay EC.ax; grind -lia -linarith
end Go.Proofs.YtiebnlahhmngcaaGreatDoor

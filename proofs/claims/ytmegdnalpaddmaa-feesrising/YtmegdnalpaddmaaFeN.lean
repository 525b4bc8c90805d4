import Derived.Test.YtmegdnalpaddmaaNum
namespace Go.Proofs.Ytmegdnalpaddmaa

def wideV (s : Int) : Int := if s < 115792089237316195423570985008687907853269984665640564039457584007913129639936 then s else 0
def wideE (s : Int) : Int := if s < 115792089237316195423570985008687907853269984665640564039457584007913129639936 then 0 else 183

/-! ### the terms -/
def apN (f x : Int) : Nat → Int
  | 0 => f
  | k + 1 => apN f x k * x / (f * ((k : Int) + 1))
def smN (f x : Int) : Nat → Int
  | 0 => 0
  | k + 1 => smN f x k + apN f x k
def bN : Nat → Nat
  | 0 => 1
  | k + 1 => bN k * 256 / (k + 1)
theorem bN_big : 115792089237316195423570985008687907853269984665640564039457584007913129639936 ≤ bN 127 := by decide +kernel

theorem apN_nonneg {f x : Int} (hf : 0 < f) (hx : 0 ≤ x) : ∀ k, 0 ≤ apN f x k
  | 0 => by unfold apN; omega
  | k + 1 => by
    unfold apN
    exact Int.ediv_nonneg (Int.mul_nonneg (apN_nonneg hf hx k) hx) (Int.mul_nonneg (by omega) (by omega))
theorem smN_nonneg {f x : Int} (hf : 0 < f) (hx : 0 ≤ x) : ∀ k, 0 ≤ smN f x k
  | 0 => by unfold smN; omega
  | k + 1 => by
    have := smN_nonneg hf hx k; have := apN_nonneg hf hx k
    unfold smN; omega
theorem den_pos {f : Int} (hf : 0 < f) (k : Nat) : 0 < f * ((k : Int) + 1) := Int.mul_pos hf (by omega)

theorem ap_big {f x : Int} (hf : 0 < f) (h : 256 * f ≤ x) : ∀ k, (bN k : Int) ≤ apN f x k
  | 0 => by unfold bN apN; omega
  | k + 1 => by
    have ih := ap_big hf h k
    have hn := apN_nonneg hf (show 0 ≤ x by omega) k
    unfold bN apN
    have e : ((bN k * 256 / (k + 1) : Nat) : Int) = (bN k : Int) * 256 / ((k : Int) + 1) := by simp
    rw [e]
    have h1 : (bN k : Int) * 256 / ((k : Int) + 1) ≤ apN f x k * 256 / ((k : Int) + 1) := Int.ediv_le_ediv (by omega) (by omega)
    have h2 : apN f x k * 256 / ((k : Int) + 1) = f * (apN f x k * 256) / (f * ((k : Int) + 1)) := (Int.mul_ediv_mul_of_pos _ _ hf).symm
    have h3 : f * (apN f x k * 256) ≤ apN f x k * x := by
      have : f * (apN f x k * 256) = apN f x k * (256 * f) := by rw [Int.mul_comm f, Int.mul_assoc]
      rw [this]; exact Int.mul_le_mul_of_nonneg_left h hn
    have h4 := Int.ediv_le_ediv (den_pos hf k) h3
    omega

theorem ap_half {f x : Int} (hf : 0 < f) (hx : 0 ≤ x) (h : x ≤ 256 * f) {k : Nat} (hk : 511 ≤ k) : apN f x (k + 1) * 2 ≤ apN f x k := by
  have hn := apN_nonneg hf hx k
  have e : apN f x (k + 1) = apN f x k * x / (f * ((k : Int) + 1)) := rfl
  rw [e]
  have h1 : apN f x k * x ≤ f * (apN f x k * 256) := by
    have : f * (apN f x k * 256) = apN f x k * (256 * f) := by rw [Int.mul_comm f, Int.mul_assoc]
    rw [this]; exact Int.mul_le_mul_of_nonneg_left h hn
  have h2 := Int.ediv_le_ediv (den_pos hf k) h1
  rw [Int.mul_ediv_mul_of_pos _ _ hf] at h2
  have h3 : apN f x k * 256 / ((k : Int) + 1) * 2 ≤ apN f x k := by
    generalize apN f x k = a at *
    have h4 : a * 256 / ((k : Int) + 1) ≤ a * 256 / 512 := by
      refine Int.le_ediv_of_mul_le (by decide) ?_
      have h6 : a * 256 / ((k : Int) + 1) * ((k : Int) + 1) ≤ a * 256 := Int.ediv_mul_le _ (by omega)
      have h7 : 0 ≤ a * 256 / ((k : Int) + 1) := Int.ediv_nonneg (by omega) (by omega)
      have h8 : a * 256 / ((k : Int) + 1) * 512 ≤ a * 256 / ((k : Int) + 1) * ((k : Int) + 1) := Int.mul_le_mul_of_nonneg_left (by omega) h7
      omega
    omega
  omega

theorem ap_fall {f x : Int} (hf : 0 < f) (hx : 0 ≤ x) (h : x ≤ 256 * f) : ∀ j, apN f x (511 + j) * 2 ^ j ≤ apN f x 511
  | 0 => by simp
  | j + 1 => by
    have ih := ap_fall hf hx h j
    have hh := ap_half hf hx h (k := 511 + j) (by omega)
    have e : 511 + (j + 1) = 511 + j + 1 := rfl
    rw [e, Int.pow_succ, Int.mul_comm (2 ^ j) 2, ← Int.mul_assoc]
    exact Int.le_trans (Int.mul_le_mul_of_nonneg_right hh (Int.le_of_lt (Int.pow_pos (by decide)))) ih

/-- Going on: nothing has passed 2^256 up to k, and no term was 0. -/
def Goes (f x : Int) (k : Nat) : Prop := apN f x k ≠ 0 ∧ smN f x (k + 1) < 115792089237316195423570985008687907853269984665640564039457584007913129639936 ∧ apN f x (k + 1) < 115792089237316195423570985008687907853269984665640564039457584007913129639936

theorem stops {f x : Int} (hf : 0 < f) (hx : 0 ≤ x) : ∃ k, k < 1000 ∧ ¬ Goes f x k := by
  by_cases h : 256 * f ≤ x
  · refine ⟨126, by decide, fun g => ?_⟩
    have := ap_big hf h 127
    have := bN_big
    have := g.2.2
    have e : (126 + 1 : Nat) = 127 := rfl
    rw [e] at this
    omega
  · by_cases g : Goes f x 510
    · refine ⟨767, by decide, fun g2 => ?_⟩
      have h1 := ap_fall hf hx (by omega) 256
      have h2 := g.2.2
      have e : (510 + 1 : Nat) = 511 := rfl
      have e2 : (511 + 256 : Nat) = 767 := rfl
      rw [e] at h2; rw [e2] at h1
      have h3 := apN_nonneg hf hx 767
      have h4 : apN f x 767 = 0 ∨ 1 ≤ apN f x 767 := by omega
      rcases h4 with h4 | h4
      · exact g2.1 h4
      · have h5 : (1 : Int) * 2 ^ 256 ≤ apN f x 767 * 2 ^ 256 := Int.mul_le_mul_of_nonneg_right h4 (by decide)
        have h6 : (1 : Int) * 2 ^ 256 = 115792089237316195423570985008687907853269984665640564039457584007913129639936 := by decide
        rw [h6] at h5
        exact absurd (Int.lt_of_le_of_lt (Int.le_trans h5 h1) h2) (by omega)
    · exact ⟨510, by decide, g⟩

theorem leastFe {P : Nat → Prop} : ∀ n, (∃ k, k < n ∧ ¬ P k) → ∃ k, k < n ∧ ¬ P k ∧ ∀ j, j < k → P j
  | 0, h => by obtain ⟨k, hk, _⟩ := h; omega
  | n + 1, h => by
    by_cases g : ∃ k, k < n ∧ ¬ P k
    · obtain ⟨k, a, b, c⟩ := leastFe n g; exact ⟨k, by omega, b, c⟩
    · obtain ⟨k, a, b⟩ := h
      refine ⟨k, a, b, fun j hj => ?_⟩
      exact Classical.byContradiction fun h => g ⟨j, by omega, h⟩

/-- Where the terms stop. -/
structure Stop (f x : Int) (K : Nat) : Prop where
  lt : K < 1000
  stop : ¬ Goes f x K
  goes : ∀ j, j < K → Goes f x j
theorem stop_ex {f x : Int} (hf : 0 < f) (hx : 0 ≤ x) : ∃ K, Stop f x K := by
  obtain ⟨k, a, b, c⟩ := leastFe 1000 (stops hf hx); exact ⟨k, a, b, c⟩
def blV (f x : Int) (K : Nat) : Int := if apN f x K = 0 then smN f x K / f else 0
def blE (f x : Int) (K : Nat) : Int := if apN f x K = 0 then 0 else 183

theorem Stop.ap_Num {f x : Int} {K : Nat} (s : Stop f x K) (hf : Word f) (hf0 : 0 < f) (hx : 0 ≤ x) : ∀ j, j ≤ K → Num (apN f x j)
  | 0, _ => by obtain ⟨_, _⟩ := hf; unfold apN; exact ⟨by omega, by omega⟩
  | j + 1, h => ⟨apN_nonneg hf0 hx _, (s.goes j (by omega)).2.2⟩
theorem Stop.sm_Num {f x : Int} {K : Nat} (s : Stop f x K) (hf0 : 0 < f) (hx : 0 ≤ x) : ∀ j, j ≤ K → Num (smN f x j)
  | 0, _ => by unfold smN; exact ⟨by omega, by omega⟩
  | j + 1, h => ⟨smN_nonneg hf0 hx _, (s.goes j (by omega)).2.1⟩

theorem ap_mono {f x y : Int} (hf : 0 < f) (hx : 0 ≤ x) (h : x ≤ y) : ∀ k, apN f x k ≤ apN f y k
  | 0 => by unfold apN; omega
  | k + 1 => by
    have ih := ap_mono hf hx h k
    unfold apN
    refine Int.ediv_le_ediv (den_pos hf k) ?_
    exact Int.mul_le_mul ih h hx (apN_nonneg hf (by omega) k)
theorem sm_mono {f x y : Int} (hf : 0 < f) (hx : 0 ≤ x) (h : x ≤ y) : ∀ k, smN f x k ≤ smN f y k
  | 0 => by unfold smN; omega
  | k + 1 => by
    have := sm_mono hf hx h k; have := ap_mono hf hx h k
    unfold smN; omega
theorem sm_up {f x : Int} (hf : 0 < f) (hx : 0 ≤ x) {j : Nat} : ∀ {k : Nat}, j ≤ k → smN f x j ≤ smN f x k
  | 0, h => by obtain rfl : j = 0 := by omega
               omega
  | k + 1, h => by
    by_cases e : j = k + 1
    · subst e; omega
    · have := sm_up hf hx (k := k) (show j ≤ k by omega)
      have := apN_nonneg hf hx k
      have e : smN f x (k + 1) = smN f x k + apN f x k := rfl
      omega
/-- The price never falls if the excess rises. -/
theorem bl_mono {f x y : Int} {K L : Nat} (hf : 0 < f) (hx : 0 ≤ x) (h : x ≤ y) (sx : Stop f x K) (sy : Stop f y L) (hy : apN f y L = 0) : apN f x K = 0 ∧ smN f x K / f ≤ smN f y L / f := by
  have zx : apN f x L = 0 := by have := ap_mono hf hx h L; have := apN_nonneg hf hx L; omega
  have le : K ≤ L := by
    refine Classical.byContradiction fun c => ?_
    exact (sx.goes L (by omega)).1 zx
  refine ⟨?_, Int.ediv_le_ediv hf (Int.le_trans (sm_mono hf hx h K) (sm_up hf (by omega) le))⟩
  by_cases e : K = L
  · subst e; exact zx
  · have g := sy.goes K (by omega)
    refine Classical.byContradiction fun c => sx.stop ⟨c, ?_, ?_⟩
    · have := sm_mono hf hx h (K + 1); have := g.2.1; omega
    · have := ap_mono hf hx h (K + 1); have := g.2.2; omega
theorem bl_none {f : Int} {K : Nat} (hf : Word f) (h0 : 0 < f) (s : Stop f 0 K) : apN f 0 K = 0 ∧ smN f 0 K / f = 1 := by
  have e1 : apN f 0 1 = 0 := by simp [apN]
  have s1 : smN f 0 1 = f := by simp [smN, apN]
  have hk : K = 1 := by
    refine Classical.byContradiction fun c => ?_
    by_cases k0 : K = 0
    · subst k0
      refine s.stop ⟨?_, ?_, ?_⟩
      · show f ≠ 0; omega
      · rw [s1]; obtain ⟨_, _⟩ := hf; omega
      · rw [e1]; decide
    · exact (s.goes 1 (by omega)).1 e1
  subst hk
  rw [s1]
  exact ⟨e1, Int.ediv_self (by omega)⟩
end Go.Proofs.Ytmegdnalpaddmaa

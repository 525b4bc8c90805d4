import Derived.Test.YtdehcohfcbopkaaBmA
/- Filters as sets of bits. -/
namespace Go.Proofs.Ytdehcohfcbopkaa
open Go.RowKit Go.Sort

/-- Is the bit set? -/
def tF (F : List (BitVec 8)) (j : Nat) : Bool := (F.getD (atF j) 0).getLsbD (j % 8)
theorem wt_bit {k i : Nat} (hk : k < 8) : (1#8 <<< k).getLsbD i = decide (i = k) := by
  rw [BitVec.getLsbD_shiftLeft]
  by_cases h : i = k
  · subst h; simp [hk]
  · by_cases h8 : i < 8
    · by_cases hl : i < k
      · simp [h, hl]
      · have : i - k ≠ 0 := by omega
        simp [h, this]
    · simp [h, h8]
theorem setF_getD {F : List (BitVec 8)} (hl : F.length = 256) (j i : Nat) : (setF F j).getD i 0 = if i = atF j then F.getD i 0 ||| wtF j else F.getD i 0 := by
  unfold setF
  by_cases e : i = atF j
  · subst e
    rw [if_pos rfl, List.getD, List.getElem?_set_self (by rw [hl]; exact atF_lt j)]; rfl
  · rw [if_neg e, List.getD, List.getElem?_set_ne (Ne.symm e), ← List.getD]
theorem tF_set {F : List (BitVec 8)} (hl : F.length = 256) {j k : Nat} (hj : j < 2048) (hk : k < 2048) : tF (setF F k) j = (tF F j || decide (j = k)) := by
  unfold tF
  rw [setF_getD hl]
  by_cases e : atF j = atF k
  · rw [if_pos e, BitVec.getLsbD_or]
    have h1 : (wtF k).getLsbD (j % 8) = decide (j = k) := by
      rw [wtF, wt_bit (by omega)]
      unfold atF at e
      by_cases h : j = k
      · simp [h]
      · have : j % 8 ≠ k % 8 := by omega
        simp [h, this]
    rw [h1]
  · rw [if_neg e]
    have : j ≠ k := fun h => e (by rw [h])
    simp [this]
theorem tF_zero (j : Nat) : tF zF j = false := by
  have : zF.getD (atF j) 0 = 0#8 := by
    rw [zF, List.getD, List.getElem?_replicate]
    split <;> rfl
  rw [tF, this]; simp
theorem at_of {i k : Nat} (hi : i < 256) (hk : k < 8) : atF (8 * (255 - i) + k) = i ∧ (8 * (255 - i) + k) % 8 = k ∧ 8 * (255 - i) + k < 2048 := by
  unfold atF; omega
/-- Filters with the same bits are the same. -/
theorem ext_F {F G : List (BitVec 8)} (hF : F.length = 256) (hG : G.length = 256) (h : ∀ j, j < 2048 → tF F j = tF G j) : F = G := by
  apply List.ext_getElem (by omega)
  intro i h1 h2
  apply BitVec.eq_of_getLsbD_eq
  intro k hk
  obtain ⟨e1, e2, e3⟩ := at_of (i := i) (k := k) (by omega) hk
  have := h _ e3
  unfold tF at this
  rw [e1, e2, List.getD, List.getElem?_eq_getElem h1, List.getD, List.getElem?_eq_getElem h2] at this
  simpa using this
/-- Several bits set. -/
def setsF (F : List (BitVec 8)) (l : List Nat) : List (BitVec 8) := l.foldl setF F
theorem setsF_len : ∀ (l : List Nat) {F : List (BitVec 8)}, F.length = 256 → (setsF F l).length = 256
  | [], _, h => h
  | x :: l, F, h => setsF_len l (by rw [setF_len]; exact h)
theorem tF_sets : ∀ (l : List Nat) {F : List (BitVec 8)}, F.length = 256 → (∀ x ∈ l, x < 2048) → ∀ j, j < 2048 → tF (setsF F l) j = (tF F j || decide (j ∈ l))
  | [], F, _, _, j, _ => by simp [setsF]
  | x :: l, F, h, hl, j, hj => by
    have := tF_sets l (F := setF F x) (by rw [setF_len]; exact h) (fun y hy => hl y (by simp [hy])) j hj
    rw [setsF, List.foldl_cons, ← setsF, this, tF_set h hj (hl x (by simp))]
    by_cases e : j = x <;> by_cases e2 : j ∈ l <;> simp [e, e2]
theorem mkF_sets : ∀ (l : List Nat) {F : List (BitVec 8)}, (∀ x ∈ l, x < 2048) → mkF (l.map fun n : Nat => (n : Int)) F = (setsF F l, 0)
  | [], F, _ => rfl
  | x :: l, F, hl => by
    have hx := hl x (by simp)
    rw [List.map_cons, mkF, if_pos ⟨by omega, by omega⟩, mkF_sets l fun y hy => hl y (by simp [hy])]
    rfl
/-- The bits that are set, rising. -/
def bitsF (F : List (BitVec 8)) : List Nat := (List.range 2048).filter (tF F)
theorem bitsF_lt {F : List (BitVec 8)} {x : Nat} (h : x ∈ bitsF F) : x < 2048 := by
  have := (List.mem_filter.1 h).1
  simpa using this
theorem setsF_bits {F : List (BitVec 8)} (hF : F.length = 256) : setsF zF (bitsF F) = F := by
  refine ext_F (setsF_len _ zF_len) hF fun j hj => ?_
  rw [tF_sets _ zF_len (fun x hx => bitsF_lt hx) j hj, tF_zero]
  by_cases e : tF F j = true
  · have : j ∈ bitsF F := List.mem_filter.2 ⟨by simpa using hj, e⟩
    simp [this, e]
  · have : j ∉ bitsF F := fun h => e (List.mem_filter.1 h).2
    simp only [this, decide_false, Bool.or_false]
    simpa using e
/-- All bits of both. -/
def orF (A B : List (BitVec 8)) : List (BitVec 8) := List.zipWith (· ||| ·) A B
theorem orF_len {A B : List (BitVec 8)} (hA : A.length = 256) (hB : B.length = 256) : (orF A B).length = 256 := by simp [orF, hA, hB]
theorem orF_getD {A B : List (BitVec 8)} (hA : A.length = 256) (hB : B.length = 256) {i : Nat} (hi : i < 256) : (orF A B).getD i 0 = A.getD i 0 ||| B.getD i 0 := by
  rw [orF, List.getD, List.getElem?_zipWith, List.getD, List.getElem?_eq_getElem (by omega), List.getD, List.getElem?_eq_getElem (by omega)]
  rfl
theorem tF_or {A B : List (BitVec 8)} (hA : A.length = 256) (hB : B.length = 256) (j : Nat) : tF (orF A B) j = (tF A j || tF B j) := by
  unfold tF
  rw [orF_getD hA hB (atF_lt j), BitVec.getLsbD_or]
theorem orF_comm {A B : List (BitVec 8)} (hA : A.length = 256) (hB : B.length = 256) : orF A B = orF B A :=
  ext_F (orF_len hA hB) (orF_len hB hA) fun j _ => by rw [tF_or hA hB, tF_or hB hA, Bool.or_comm]
theorem orF_zero {A : List (BitVec 8)} (hA : A.length = 256) : orF zF A = A :=
  ext_F (orF_len zF_len hA) hA fun j _ => by rw [tF_or zF_len hA, tF_zero]; simp
/-- Are all bits of A set in B? -/
def inF (A B : List (BitVec 8)) : Bool := decide (orF A B = B)
theorem and_not_or (x y : BitVec 8) : (x &&& ~~~ y = 0) ↔ x ||| y = y := by
  constructor
  · intro h
    apply BitVec.eq_of_getLsbD_eq
    intro k hk
    have := congrArg (fun z => z.getLsbD k) h
    simp [hk] at this ⊢
    exact this
  · intro h
    apply BitVec.eq_of_getLsbD_eq
    intro k hk
    have := congrArg (fun z => z.getLsbD k) h
    simp [hk] at this ⊢
    exact this
theorem inF_or {A B : List (BitVec 8)} (_ : A.length = 256) (_ : B.length = 256) : inF A B = decide (orF A B = B) := rfl
theorem inF_iff {A B : List (BitVec 8)} (hA : A.length = 256) (hB : B.length = 256) : inF A B = true ↔ ∀ i, i < 256 → A.getD i 0 &&& ~~~ B.getD i 0 = 0 := by
  rw [inF, decide_eq_true_eq]
  constructor
  · intro h i hi
    rw [and_not_or, ← orF_getD hA hB hi, h]
  · intro h
    apply List.ext_getElem (by rw [orF_len hA hB, hB])
    intro i h1 h2
    have hi : i < 256 := by omega
    have e := orF_getD hA hB hi
    rw [(and_not_or _ _).1 (h i hi), List.getD, List.getElem?_eq_getElem h1, List.getD, List.getElem?_eq_getElem h2] at e
    simpa using e
theorem inF_self {A : List (BitVec 8)} (hA : A.length = 256) : inF A A = true := by
  rw [inF_or hA hA]
  exact decide_eq_true (ext_F (orF_len hA hA) hA fun j _ => by rw [tF_or hA hA, Bool.or_self])
theorem inF_right {A B : List (BitVec 8)} (hA : A.length = 256) (hB : B.length = 256) : inF B (orF A B) = true := by
  rw [inF_or hB (orF_len hA hB)]
  exact decide_eq_true (ext_F (orF_len hB (orF_len hA hB)) (orF_len hA hB) fun j _ => by rw [tF_or hB (orF_len hA hB), tF_or hA hB]; cases tF A j <;> cases tF B j <;> rfl)
theorem inF_left {A B : List (BitVec 8)} (hA : A.length = 256) (hB : B.length = 256) : inF A (orF A B) = true := by
  rw [orF_comm hA hB]; exact inF_right hB hA
/-- How many bits are set. -/
def cntF (F : List (BitVec 8)) : Nat := (bitsF F).length
theorem filter_or {α : Type} (p q : α → Bool) : ∀ l : List α, (l.filter fun x => p x || q x).length ≤ (l.filter p).length + (l.filter q).length
  | [] => by simp
  | a :: l => by
    have := filter_or p q l
    cases hp : p a <;> cases hq : q a <;> simp [hp, hq] <;> omega
theorem cntF_or {A B : List (BitVec 8)} (hA : A.length = 256) (hB : B.length = 256) : cntF (orF A B) ≤ cntF A + cntF B := by
  have e : bitsF (orF A B) = (List.range 2048).filter fun j => tF A j || tF B j := by
    unfold bitsF
    congr 1
    funext j
    exact tF_or hA hB j
  rw [cntF, e]
  exact filter_or _ _ _
/-- The sum of the first n. -/
def sumN (f : Nat → Nat) : Nat → Nat
  | 0 => 0
  | n + 1 => sumN f n + f n
theorem sumN_front (f : Nat → Nat) : ∀ n, sumN f (n + 1) = f 0 + sumN (fun i => f (i + 1)) n
  | 0 => by simp [sumN]
  | n + 1 => by rw [sumN, sumN_front f n, sumN]; omega
theorem sumN_congr {f g : Nat → Nat} : ∀ n, (∀ i, i < n → f i = g i) → sumN f n = sumN g n
  | 0, _ => rfl
  | n + 1, h => by rw [sumN, sumN, sumN_congr n fun i hi => h i (by omega), h n (by omega)]
theorem sumN_rev (f : Nat → Nat) : ∀ n, sumN (fun i => f (n - 1 - i)) n = sumN f n
  | 0 => rfl
  | n + 1 => by
    rw [sumN_front, sumN]
    have e : sumN (fun i => f (n + 1 - 1 - (i + 1))) n = sumN (fun i => f (n - 1 - i)) n := sumN_congr n fun i hi => by congr 1; omega
    rw [e, sumN_rev f n, show n + 1 - 1 - 0 = n by omega]
    omega
/-- How many bits of a byte are set. -/
def popB (b : BitVec 8) : Nat := ((List.range 8).filter fun k => b.getLsbD k).length
theorem cnt_part (F : List (BitVec 8)) : ∀ n, ((List.range (8 * n)).filter (tF F)).length = sumN (fun b => popB (F.getD (255 - b) 0)) n
  | 0 => rfl
  | n + 1 => by
    rw [show 8 * (n + 1) = 8 * n + 8 by omega, List.range_add, List.filter_append, List.length_append, cnt_part F n, sumN, List.filter_map, List.length_map]
    congr 1
    unfold popB
    congr 1
    apply List.filter_congr
    intro k hk
    have hk8 : k < 8 := by simpa using hk
    simp only [Function.comp, tF, atF]
    rw [show (8 * n + k) / 8 = n by omega, show (8 * n + k) % 8 = k by omega]
theorem cnt_sum (F : List (BitVec 8)) : cntF F = sumN (fun i => popB (F.getD i 0)) 256 := by
  have h := cnt_part F 256
  rw [show 8 * 256 = 2048 from rfl] at h
  rw [cntF, bitsF, h]
  exact sumN_rev (fun i => popB (F.getD i 0)) 256
theorem popB_le (b : BitVec 8) : popB b ≤ 8 := by
  unfold popB
  have := List.length_filter_le (fun k => b.getLsbD k) (List.range 8)
  simpa using this
theorem sumN_le {f : Nat → Nat} (h : ∀ i, f i ≤ 8) : ∀ n, sumN f n ≤ 8 * n
  | 0 => by simp [sumN]
  | n + 1 => by have := sumN_le h n; have := h n; rw [sumN]; omega
/-- A filter's byte. -/
theorem index_bloom {F : List (BitVec 8)} (hF : F.length = 256) {i : Nat} (hi : i < 256) (w : World) : (Instr.index 24 (.agg (byts F).toArray) (.int .i64 (i : Int))).run Try.prog w = .ok (.int .u8 (Y (F.getD i 0))) w := by
  have tz : (sizeOf 5).run Try.prog w = .ok 1 w := by have := Try.sizeOf5; simp [go_sem, this]
  have pb := part_byte (X := F) (i := i) (by omega) w
  have h0 : (0 : Int) ≤ (i : Int) ∧ (i : Int) < ((256 : Nat) : Int) := by omega
  unfold Instr.index
  simp only [Sem.run_bind, asIntOf, Sem.run_pure, Result.andThen_ok, run_underlying Try.underlying24]
  rw [if_pos h0]
  simp only [Sem.run_bind, tz, Result.andThen_ok, Int.toNat_natCast]
  exact pb
end Go.Proofs.Ytdehcohfcbopkaa

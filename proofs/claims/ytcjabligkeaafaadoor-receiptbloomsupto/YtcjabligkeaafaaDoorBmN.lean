import Derived.Test.YtcjabligkeaafaaDoorBmA
/- Filters as sets of bits. -/
namespace Go.Proofs.YtcjabligkeaafaaDoor.S
open Go.RowKit Go.Sort

/-- Is the bit set? -/
def tF (F : List (BitVec 8)) (j : Nat) : Bool := (F.getD (atF j) 0).getLsbD (j % 8)
theorem wt_bit {k i : Nat} (hk : k < 8) : (1#8 <<< k).getLsbD i = decide (i = k) := by
  rw [BitVec.getLsbD_shiftLeft]
  by_cases h : i = k
  · subst h; simp [hk]
  · by_cases h8 : i < 8
    · by_cases hl : i < k
      · simp [h, hl]
      · have : i - k ≠ 0 := by omega
        simp [h, this]
    · simp [h, h8]
theorem setF_getD {F : List (BitVec 8)} (hl : F.length = 256) (j i : Nat) : (setF F j).getD i 0 = if i = atF j then F.getD i 0 ||| wtF j else F.getD i 0 := by
  unfold setF
  by_cases e : i = atF j
  · subst e
    rw [if_pos rfl, List.getD, List.getElem?_set_self (by rw [hl]; exact atF_lt j)]; rfl
  · rw [if_neg e, List.getD, List.getElem?_set_ne (Ne.symm e), ← List.getD]
theorem tF_set {F : List (BitVec 8)} (hl : F.length = 256) {j k : Nat} (hj : j < 2048) (hk : k < 2048) : tF (setF F k) j = (tF F j || decide (j = k)) := by
  unfold tF
  rw [setF_getD hl]
  by_cases e : atF j = atF k
  · rw [if_pos e, BitVec.getLsbD_or]
    have h1 : (wtF k).getLsbD (j % 8) = decide (j = k) := by
      rw [wtF, wt_bit (by omega)]
      unfold atF at e
      by_cases h : j = k
      · simp [h]
      · have : j % 8 ≠ k % 8 := by omega
        simp [h, this]
    rw [h1]
  · rw [if_neg e]
    have : j ≠ k := fun h => e (by rw [h])
    simp [this]
theorem tF_zero (j : Nat) : tF zF j = false := by
  have : zF.getD (atF j) 0 = 0#8 := by
    rw [zF, List.getD, List.getElem?_replicate]
    split <;> rfl
  rw [tF, this]; simp
theorem at_of {i k : Nat} (hi : i < 256) (hk : k < 8) : atF (8 * (255 - i) + k) = i ∧ (8 * (255 - i) + k) % 8 = k ∧ 8 * (255 - i) + k < 2048 := by
  unfold atF; omega
/-- Filters with the same bits are the same. -/
theorem ext_F {F G : List (BitVec 8)} (hF : F.length = 256) (hG : G.length = 256) (h : ∀ j, j < 2048 → tF F j = tF G j) : F = G := by
  apply List.ext_getElem (by omega)
  intro i h1 h2
  apply BitVec.eq_of_getLsbD_eq
  intro k hk
  obtain ⟨e1, e2, e3⟩ := at_of (i := i) (k := k) (by omega) hk
  have := h _ e3
  unfold tF at this
  rw [e1, e2, List.getD, List.getElem?_eq_getElem h1, List.getD, List.getElem?_eq_getElem h2] at this
  simpa using this
/-- Several bits set. -/
def setsF (F : List (BitVec 8)) (l : List Nat) : List (BitVec 8) := l.foldl setF F
theorem setsF_len : ∀ (l : List Nat) {F : List (BitVec 8)}, F.length = 256 → (setsF F l).length = 256
  | [], _, h => h
  | x :: l, F, h => setsF_len l (by rw [setF_len]; exact h)
theorem tF_sets : ∀ (l : List Nat) {F : List (BitVec 8)}, F.length = 256 → (∀ x ∈ l, x < 2048) → ∀ j, j < 2048 → tF (setsF F l) j = (tF F j || decide (j ∈ l))
  | [], F, _, _, j, _ => by simp [setsF]
  | x :: l, F, h, hl, j, hj => by
    have := tF_sets l (F := setF F x) (by rw [setF_len]; exact h) (fun y hy => hl y (by simp [hy])) j hj
    rw [setsF, List.foldl_cons, ← setsF, this, tF_set h hj (hl x (by simp))]
    by_cases e : j = x <;> by_cases e2 : j ∈ l <;> simp [e, e2]
/-- All bits of both. -/
def orF (A B : List (BitVec 8)) : List (BitVec 8) := List.zipWith (· ||| ·) A B
theorem orF_len {A B : List (BitVec 8)} (hA : A.length = 256) (hB : B.length = 256) : (orF A B).length = 256 := by simp [orF, hA, hB]
theorem orF_getD {A B : List (BitVec 8)} (hA : A.length = 256) (hB : B.length = 256) {i : Nat} (hi : i < 256) : (orF A B).getD i 0 = A.getD i 0 ||| B.getD i 0 := by
  rw [orF, List.getD, List.getElem?_zipWith, List.getD, List.getElem?_eq_getElem (by omega), List.getD, List.getElem?_eq_getElem (by omega)]
  rfl
theorem tF_or {A B : List (BitVec 8)} (hA : A.length = 256) (hB : B.length = 256) (j : Nat) : tF (orF A B) j = (tF A j || tF B j) := by
  unfold tF
  rw [orF_getD hA hB (atF_lt j), BitVec.getLsbD_or]
theorem orF_zero {A : List (BitVec 8)} (hA : A.length = 256) : orF zF A = A :=
  ext_F (orF_len zF_len hA) hA fun j _ => by rw [tF_or zF_len hA, tF_zero]; simp
/-- A filter's byte. -/
theorem index_bloom {F : List (BitVec 8)} (hF : F.length = 256) {i : Nat} (hi : i < 256) (w : World) : (Instr.index 28 (.agg (byts F).toArray) (.int .i64 (i : Int))).run Tryd.prog w = .ok (.int .u8 (Y (F.getD i 0))) w := by
  have tz : (sizeOf 5).run Tryd.prog w = .ok 1 w := by have := Tryd.sizeOf5; simp [go_sem, this]
  have pb := part_byte (X := F) (i := i) (by omega) w
  have h0 : (0 : Int) ≤ (i : Int) ∧ (i : Int) < ((256 : Nat) : Int) := by omega
  unfold Instr.index
  simp only [Sem.run_bind, asIntOf, Sem.run_pure, Result.andThen_ok, run_underlying Tryd.underlying28]
  rw [if_pos h0]
  simp only [Sem.run_bind, tz, Result.andThen_ok, Int.toNat_natCast]
  exact pb
end Go.Proofs.YtcjabligkeaafaaDoor.S

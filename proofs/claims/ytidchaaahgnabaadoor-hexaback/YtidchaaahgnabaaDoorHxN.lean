import Derived.Test.YtidchaaahgnabaaDoorHxRd
/- Layer 8: texts of addresses, in plain numbers. -/
namespace Go.Proofs.YtidchaaahgnabaaDoor
open Go.RowKit Go.Sort
/-- The byte at a place of a text. -/
def tb (T : List UInt8) (i : Nat) : Int := ((T.getD i 0).toNat : Int)
/-- A text of 42 bytes that reads as the address A. -/
def Rds (T : List UInt8) (A : List Int) : Prop := T.length = 42 ∧ tb T 0 = 48 ∧ tb T 1 = 120 ∧ ∀ i, i < 20 → dv (tb T (2 + 2 * i)) = A.getD i 0 / 16 ∧ dv (tb T (2 + 2 * i + 1)) = A.getD i 0 % 16
theorem bt_list (T : List UInt8) (i : Nat) : bt ⟨T.toArray⟩ i = tb T i := by unfold bt tb; rfl
theorem size_list (T : List UInt8) : (⟨T.toArray⟩ : ByteArray).size = T.length := by simp [ByteArray.size]
theorem Rds.digit {T : List UInt8} {A : List Int} (hb : ∀ i, 0 ≤ A.getD i 0 ∧ A.getD i 0 < 256) (h : Rds T A) {j : Nat} (hj : j < 40) : 0 ≤ dv (tb T (2 + j)) := by
  obtain ⟨_, _, _, h4⟩ := h
  obtain ⟨a, b⟩ := h4 (j / 2) (by omega)
  have c := hb (j / 2)
  by_cases k : j % 2 = 0
  · rw [show 2 + j = 2 + 2 * (j / 2) by omega, a]; omega
  · rw [show 2 + j = 2 + 2 * (j / 2) + 1 by omega, b]; omega
theorem Rds.ok {T : List UInt8} {A : List Int} (hA : A.length = 20) (hb : ∀ i, 0 ≤ A.getD i 0 ∧ A.getD i 0 < 256) (h : Rds T A) : okP ⟨T.toArray⟩ ∧ (tl ⟨T.toArray⟩).size = 40 ∧ pk (tl ⟨T.toArray⟩) 20 = A := by
  have sz := size_list T
  obtain ⟨h1, h2, h3, h4⟩ := id h
  have tz : (tl ⟨T.toArray⟩).size = 40 := by rw [tl_size, sz]; omega
  refine ⟨⟨by omega, ?_, fun i hi => ?_⟩, tz, ?_⟩
  · exact (frB_bt (by omega)).2 ⟨by rw [bt_list]; exact h2, by rw [bt_list]; exact h3⟩
  · rw [tl_bt, bt_list, Nat.add_comm]
    exact h.digit hb (by omega)
  · apply List.ext_getElem
    · rw [pk_len, hA]
    · intro i hi1 hi2
      obtain ⟨a, b⟩ := h4 i (by omega)
      have e : A[i] = A.getD i 0 := by rw [List.getD, List.getElem?_eq_getElem hi2]; rfl
      have g : (pk (tl ⟨T.toArray⟩) 20)[i] = 16 * dv (bt (tl ⟨T.toArray⟩) (2 * i)) + dv (bt (tl ⟨T.toArray⟩) (2 * i + 1)) := by simp [pk]
      rw [g, tl_bt, tl_bt, bt_list, bt_list, e, show 2 * i + 2 = 2 + 2 * i by omega, show 2 * i + 1 + 2 = 2 + 2 * i + 1 by omega, a, b]
      have := hb i
      omega
theorem hd_dv {k : Nat} (h : k < 16) : dv ((hd k).toNat : Int) = k := by
  have : k = 0 ∨ k = 1 ∨ k = 2 ∨ k = 3 ∨ k = 4 ∨ k = 5 ∨ k = 6 ∨ k = 7 ∨ k = 8 ∨ k = 9 ∨ k = 10 ∨ k = 11 ∨ k = 12 ∨ k = 13 ∨ k = 14 ∨ k = 15 := by omega
  rcases this with rfl | rfl | rfl | rfl | rfl | rfl | rfl | rfl | rfl | rfl | rfl | rfl | rfl | rfl | rfl | rfl <;> decide
theorem ck1_dv {u : UInt8} {h : Int} : dv ((ck1 u h).toNat : Int) = dv (u.toNat : Int) := by
  unfold ck1
  by_cases k : smB (u.toNat : Int) = true ∧ 8 ≤ h
  · have e := ck1_turned k.1 k.2
    unfold ck1 at e
    rw [e]
    have q : 97 ≤ (u.toNat : Int) ∧ (u.toNat : Int) ≤ 102 := by simpa [smB] using k.1
    unfold dv
    rw [if_neg (by omega), if_neg (by omega), if_pos (by omega), if_neg (by omega), if_pos (by omega)]
    omega
  · rw [if_neg k]
theorem hexB_at : ∀ (X : List Int) (i : Nat), i < X.length → (hexB X).getD (2 * i) 0 = hd (X.getD i 0 / 16).toNat ∧ (hexB X).getD (2 * i + 1) 0 = hd (X.getD i 0 % 16).toNat
  | [], i, h => by simp at h
  | x :: X, 0, _ => by constructor <;> rfl
  | x :: X, i + 1, h => by
    have r := hexB_at X i (by simpa using h)
    have e1 : (hexB (x :: X)).getD (2 * (i + 1)) 0 = (hexB X).getD (2 * i) 0 := rfl
    have e2 : (hexB (x :: X)).getD (2 * (i + 1) + 1) 0 = (hexB X).getD (2 * i + 1) 0 := rfl
    rw [e1, e2]
    exact r
theorem ckS_len (A : List Int) : (ckS A).length = 42 := by simp [ckS]
theorem ckS_at (A : List Int) {j : Nat} (h : j < 42) : (ckS A).getD j 0 = tx ([48, 120] ++ hexB A) (kecL (([48, 120] ++ hexB A).drop 2)) 40 j := by
  unfold ckS
  rw [List.getD, List.getElem?_map, List.getElem?_range h]; rfl
theorem ckS_rds {A : List Int} (hA : A.length = 20) (hb : ∀ i, 0 ≤ A.getD i 0 ∧ A.getD i 0 < 256) : Rds (ckS A) A := by
  refine ⟨ckS_len A, ?_, ?_, fun i hi => ?_⟩
  · unfold tb
    rw [ckS_at A (by decide), tx, if_neg (by decide)]; rfl
  · unfold tb
    rw [ckS_at A (by decide), tx, if_neg (by decide)]; rfl
  · obtain ⟨a, b⟩ := hexB_at A i (by omega)
    have c := hb i
    have g : ∀ j, ([48, 120] ++ hexB A).getD (2 + j) 0 = (hexB A).getD j 0 := fun j => by
      rw [show 2 + j = j + 2 by omega]; rfl
    have d1 := hd_dv (k := (A.getD i 0 / 16).toNat) (by omega)
    have d2 := hd_dv (k := (A.getD i 0 % 16).toNat) (by omega)
    unfold tb
    rw [ckS_at A (by omega), ckS_at A (by omega), tx, tx, if_pos (by omega), if_pos (by omega), g, Nat.add_assoc, g, a, b]
    rw [ck1_dv, ck1_dv, d1, d2]
    omega
/-- A small letter for a great one. -/
def lw (u : UInt8) : UInt8 := if 65 ≤ (u.toNat : Int) ∧ (u.toNat : Int) ≤ 90 then u + 32 else u
theorem lw_num (u : UInt8) : ((lw u).toNat : Int) = if 65 ≤ (u.toNat : Int) ∧ (u.toNat : Int) ≤ 90 then (u.toNat : Int) + 32 else (u.toNat : Int) := by
  unfold lw
  split
  · rename_i h
    rw [UInt8.toNat_add]
    show (((u.toNat + 32) % 256 : Nat) : Int) = _
    omega
  · rfl
theorem lw_dv {u : UInt8} (h : 0 ≤ dv (u.toNat : Int)) : dv ((lw u).toNat : Int) = dv (u.toNat : Int) := by
  rw [lw_num]
  split
  · rename_i q
    unfold dv at h ⊢
    split at h
    · omega
    · split at h
      · omega
      · split at h
        · rename_i a b c
          rw [if_neg (by omega), if_pos (by omega), if_neg a, if_neg b, if_pos c]; omega
        · omega
  · rfl
def lowT (T : List UInt8) : List UInt8 := T.map lw
theorem lowT_at {T : List UInt8} {j : Nat} (h : j < T.length) : (lowT T).getD j 0 = lw (T.getD j 0) := by
  unfold lowT
  rw [List.getD, List.getElem?_map, List.getElem?_eq_getElem h, List.getD, List.getElem?_eq_getElem h]; rfl
theorem Rds.low {T : List UInt8} {A : List Int} (hb : ∀ i, 0 ≤ A.getD i 0 ∧ A.getD i 0 < 256) (h : Rds T A) : Rds (lowT T) A := by
  obtain ⟨h1, h2, h3, h4⟩ := id h
  refine ⟨by simp [lowT, h1], ?_, ?_, fun i hi => ?_⟩
  · unfold tb at h2 ⊢
    rw [lowT_at (by omega), lw_num, h2]; rfl
  · unfold tb at h3 ⊢
    rw [lowT_at (by omega), lw_num, h3]; rfl
  · obtain ⟨a, b⟩ := h4 i hi
    have c1 := h.digit hb (j := 2 * i) (by omega)
    have c2 := h.digit hb (j := 2 * i + 1) (by omega)
    rw [← Nat.add_assoc] at c2
    unfold tb at a b c1 c2 ⊢
    rw [lowT_at (by omega), lowT_at (by omega), lw_dv c1, lw_dv c2]
    exact ⟨a, b⟩
theorem dv_cases {c : Int} (h : 0 ≤ dv c) : (48 ≤ c ∧ c ≤ 57) ∨ (97 ≤ c ∧ c ≤ 102) ∨ (65 ≤ c ∧ c ≤ 70) := by
  unfold dv at h
  split at h
  · rename_i a; exact .inl a
  · split at h
    · rename_i a; exact .inr (.inl a)
    · split at h
      · rename_i a; exact .inr (.inr a)
      · omega
/-- A letter of the other case. -/
def tn (u : UInt8) : UInt8 := if 97 ≤ (u.toNat : Int) then u - 32 else u + 32
theorem tn_num {u : UInt8} (h : 65 ≤ (u.toNat : Int)) (h1 : (u.toNat : Int) ≤ 102) : ((tn u).toNat : Int) = if 97 ≤ (u.toNat : Int) then (u.toNat : Int) - 97 + 65 else (u.toNat : Int) - 65 + 97 := by
  unfold tn
  split
  · rw [UInt8.toNat_sub_of_le _ _ (by rw [UInt8.le_iff_toNat_le]; show 32 ≤ u.toNat; omega)]
    show ((u.toNat - 32 : Nat) : Int) = _
    omega
  · rw [UInt8.toNat_add]
    show (((u.toNat + 32) % 256 : Nat) : Int) = _
    omega
theorem tn_dv {u : UInt8} (h : 0 ≤ dv (u.toNat : Int)) (h65 : 65 ≤ (u.toNat : Int)) : dv ((tn u).toNat : Int) = dv (u.toNat : Int) := by
  have q := dv_cases h
  rw [tn_num h65 (by omega)]
  split
  · unfold dv
    rw [if_neg (by omega), if_neg (by omega), if_pos (by omega), if_neg (by omega), if_pos (by omega)]; omega
  · unfold dv
    rw [if_neg (by omega), if_pos (by omega), if_neg (by omega), if_neg (by omega), if_pos (by omega)]; omega
theorem set_at (T : List UInt8) (j i : Nat) (u : UInt8) (hj : j < T.length) : (T.set j u).getD i 0 = if i = j then u else T.getD i 0 := by
  rw [List.getD, List.getElem?_set]
  by_cases k : j = i
  · subst k; rw [if_pos rfl, if_pos hj, if_pos rfl]; rfl
  · rw [if_neg k, if_neg (fun e => k e.symm)]; rfl
theorem Rds.turn {T : List UInt8} {A : List Int} (hb : ∀ i, 0 ≤ A.getD i 0 ∧ A.getD i 0 < 256) (h : Rds T A) {k : Nat} (hk : k < 40) (h65 : 65 ≤ tb T (2 + k)) : Rds (T.set (2 + k) (tn (T.getD (2 + k) 0))) A := by
  obtain ⟨h1, h2, h3, h4⟩ := id h
  have d : ∀ i, i < 40 → dv (tb (T.set (2 + k) (tn (T.getD (2 + k) 0))) (2 + i)) = dv (tb T (2 + i)) := fun i hi => by
    unfold tb
    rw [set_at _ _ _ _ (by omega)]
    by_cases e : i = k
    · subst e
      rw [if_pos rfl]
      exact tn_dv (h.digit hb hi) h65
    · rw [if_neg (by omega)]
  refine ⟨by simp [h1], ?_, ?_, fun i hi => ?_⟩
  · unfold tb; rw [set_at _ _ _ _ (by omega), if_neg (by omega)]; exact h2
  · unfold tb; rw [set_at _ _ _ _ (by omega), if_neg (by omega)]; exact h3
  · have a := d (2 * i) (by omega)
    have b := d (2 * i + 1) (by omega)
    rw [← Nat.add_assoc] at b
    rw [a, b]
    exact h4 i hi
end Go.Proofs.YtidchaaahgnabaaDoor

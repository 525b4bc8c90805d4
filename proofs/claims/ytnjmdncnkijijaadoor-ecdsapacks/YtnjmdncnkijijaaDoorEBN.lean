import Derived.Test.YtnjmdncnkijijaaDoorUbD
import Derived.Test.YtnjmdncnkijijaaDoorEConc
/- The 64 bytes of a signature, as numbers. -/
namespace Go.Proofs.YtnjmdncnkijijaaDoor
open Go.RowKit Go.Sort

/-- 32 bytes are the bytes of their number. -/
theorem put_suf {A : List Int} (hA : Byts A) (hl : A.length = 32) : putL (sufN A 32) = A := by
  apply extB
  · rw [putL_len, hl]
  · intro t ht
    rw [putL_len] at ht
    have h := suf_digit hA 32 (31 - t) (by omega) (by omega)
    rw [putL_getD _ ht, h, hl]
    congr 1; omega
theorem num_suf {A : List Int} (hA : Byts A) (hl : A.length = 32) : Num (sufN A 32) := by
  have := suf_numU hA (by omega)
  rwa [hl] at this
theorem bits_off : ∀ y : Fin 256, 0 ≤ bits .andNot .u8 (y.val : Int) 128 ∧ bits .andNot .u8 (y.val : Int) 128 < 256 ∧ (if (bits .and .u8 (y.val : Int) 128 != 0) = true then bits .or .u8 (bits .andNot .u8 (y.val : Int) 128) 128 else bits .andNot .u8 (y.val : Int) 128) = (y.val : Int) := by decide +kernel
theorem off_num {y : Int} (h0 : 0 ≤ y) (h1 : y < 256) : 0 ≤ bits .andNot .u8 y 128 ∧ bits .andNot .u8 y 128 < 256 ∧ (if (bits .and .u8 y 128 != 0) = true then bits .or .u8 (bits .andNot .u8 y 128) 128 else bits .andNot .u8 y 128) = y := by
  obtain ⟨m, rfl⟩ := Int.eq_ofNat_of_zero_le h0
  exact bits_off ⟨m, by omega⟩
/-- The second half without its mark. -/
def offL (A : List Int) : List Int := A.set 0 (bits .andNot .u8 (A.getD 0 0) 128)
def offB (A : List Int) : Bool := bits .and .u8 (A.getD 0 0) 128 != 0
theorem offL_len (A : List Int) : (offL A).length = A.length := by simp [offL]
theorem getD_set0 {A : List Int} {v : Int} (i : Nat) (h : 0 < A.length) : (A.set 0 v).getD i 0 = if i = 0 then v else A.getD i 0 := by
  cases A with
  | nil => simp at h
  | cons a t => cases i <;> rfl
theorem offL_byts {A : List Int} (hA : Byts A) (hl : 0 < A.length) : Byts (offL A) := fun i => by
  obtain ⟨a, b⟩ := hA 0
  obtain ⟨c, d, _⟩ := off_num a b
  rw [offL, getD_set0 i hl]
  by_cases e : i = 0
  · rw [if_pos e]; exact ⟨c, d⟩
  · rw [if_neg e]; exact hA i
theorem mark_offL {A : List Int} (hA : Byts A) (hl : 0 < A.length) : markL (offB A) (offL A) = A := by
  obtain ⟨a, b⟩ := hA 0
  obtain ⟨_, _, e⟩ := off_num a b
  unfold markL offB
  cases A with
  | nil => simp at hl
  | cons y t =>
    have ey : (y :: t).getD 0 0 = y := rfl
    rw [ey] at e
    simp only [offL, ey, List.set_cons_zero]
    by_cases h : (bits .and .u8 y 128 != 0) = true
    · rw [if_pos h] at e
      rw [if_pos h]
      show (bits .or .u8 ((bits .andNot .u8 y 128 :: t).getD 0 0) 128 :: t) = y :: t
      rw [show (bits .andNot .u8 y 128 :: t).getD 0 0 = bits .andNot .u8 y 128 from rfl, e]
    · rw [if_neg h] at e
      rw [if_neg h, e]
/-- r, s and Odd of 64 bytes. -/
def rN (X : List Int) : Int := sufN (X.take 32) 32
def sN (X : List Int) : Int := sufN (offL (X.drop 32)) 32
def oB (X : List Int) : Bool := offB (X.drop 32)
theorem byts_take {X : List Int} (h : Byts X) (n : Nat) : Byts (X.take n) := fun i => by
  by_cases k : i < n
  · have := h i
    simpa [List.getD, List.getElem?_take, k] using this
  · rw [List.getD, List.getElem?_eq_none (by rw [List.length_take]; omega)]
    exact ⟨by decide, by decide⟩
theorem sig_num {X : List Int} (hX : Byts X) (hl : X.length = 64) : Num (rN X) ∧ Num (sN X) ∧ putL (rN X) ++ markL (oB X) (putL (sN X)) = X := by
  have l1 : (X.take 32).length = 32 := by rw [List.length_take]; omega
  have l2 : (X.drop 32).length = 32 := by rw [List.length_drop]; omega
  have b1 := byts_take hX 32
  have b2 := drop_bytsU hX 32
  have b3 := offL_byts b2 (by omega)
  have l3 : (offL (X.drop 32)).length = 32 := by rw [offL_len, l2]
  refine ⟨num_suf b1 l1, num_suf b3 l3, ?_⟩
  unfold rN sN oB
  rw [put_suf b1 l1, put_suf b3 l3, mark_offL b2 (by omega), List.take_append_drop]
end Go.Proofs.YtnjmdncnkijijaaDoor

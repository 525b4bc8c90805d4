import Derived.Test.YtncpjgpioajbeaaGreatDoorSTx
import Derived.Test.YtncpjgpioajbeaaGreatDoorENum
/- Nonces by plain numbers: the state, the candidates, which one is chosen. -/
namespace Go.Proofs.YtncpjgpioajbeaaGreatDoor
open Go.RowKit Go.Sort

/-- Bytes as the other texts' numbers. -/
noncomputable def ivZ (M : List (BitVec 8)) : List Int := M.map S.Y
theorem ivZ_len (M : List (BitVec 8)) : (ivZ M).length = M.length := by simp [ivZ]
theorem ivZ_at {M : List (BitVec 8)} {i : Nat} (h : i < M.length) : (ivZ M).getD i 0 = S.Y (M.getD i 0) := by
  simp [ivZ, List.getD, h]
theorem ivZ_byts (M : List (BitVec 8)) : Byts (ivZ M) := fun i => by
  by_cases h : i < M.length
  · rw [ivZ_at h]; exact ⟨S.Y_lo _, S.Y_hi _⟩
  · have : (ivZ M).getD i 0 = 0 := by simp [ivZ, List.getD, List.getElem?_eq_none (Nat.le_of_not_lt h)]
    rw [this]; decide
def bvZ (l : List Int) : List (BitVec 8) := l.map (BitVec.ofInt 8)
theorem bvZ_len (l : List Int) : (bvZ l).length = l.length := by simp [bvZ]
theorem Y_ofZ {z : Int} (h0 : 0 ≤ z) (h1 : z < 256) : S.Y (BitVec.ofInt 8 z) = z := by
  rw [S.Y_eq, BitVec.toNat_ofInt]
  omega
theorem bvZ_Y {l : List Int} (h : Byts l) {i : Nat} (hi : i < l.length) : S.Y ((bvZ l).getD i 0) = l.getD i 0 := by
  have hm := h i
  rw [List.getD, List.getElem?_eq_getElem hi] at hm
  rw [bvZ, List.getD, List.getElem?_map, List.getElem?_eq_getElem hi, List.getD, List.getElem?_eq_getElem hi]
  exact Y_ofZ hm.1 hm.2
theorem byts_bvZ {l : List Int} (h : Byts l) : S.byts (bvZ l) = l.map fun z => Value.int .u8 z := by
  apply List.ext_getElem? fun i => ?_
  by_cases hi : i < l.length
  · have := bvZ_Y h hi
    rw [List.getD, List.getD, List.getElem?_eq_getElem hi, bvZ, List.getElem?_map, List.getElem?_eq_getElem hi] at this
    rw [S.byts, bvZ, List.getElem?_map, List.getElem?_map, List.getElem?_map, List.getElem?_eq_getElem hi]
    simpa using this
  · simp [S.byts, bvZ, List.getElem?_eq_none (Nat.le_of_not_lt hi)]
theorem hmacL_len (X T : List (BitVec 8)) : (S.hmacL X T).length = 32 := by rw [S.hmacL, S.shaL_len]

/-- K and V. -/
structure KvZ where
  k : List (BitVec 8)
  v : List (BitVec 8)
def stirZ (s : KvZ) (T : List (BitVec 8)) : KvZ := ⟨S.hmacL s.k (s.v ++ T), S.hmacL (S.hmacL s.k (s.v ++ T)) s.v⟩
def drawZ (s : KvZ) : KvZ := ⟨s.k, S.hmacL s.k s.v⟩
/-- What both are behind so many candidates. -/
def kvZ (s : KvZ) : Nat → KvZ
  | 0 => s
  | 1 => drawZ s
  | i + 2 => drawZ (stirZ (kvZ s (i + 1)) [0])
/-- What both are ahead of the next candidate's draw. -/
def aheadZ (s : KvZ) (i : Nat) : KvZ := if i = 0 then s else stirZ (kvZ s i) [0]
theorem kvZ_next (s : KvZ) (i : Nat) : kvZ s (i + 1) = drawZ (aheadZ s i) := by
  cases i with
  | zero => rfl
  | succ i => rfl
def KvZ.ok (s : KvZ) : Prop := s.k.length = 32 ∧ s.v.length = 32
theorem stirZ_ok (s : KvZ) (T : List (BitVec 8)) : (stirZ s T).ok := ⟨hmacL_len _ _, hmacL_len _ _⟩
/-- The candidate with this number. -/
noncomputable def cndZ (s : KvZ) (i : Nat) : Int := sufN (ivZ (kvZ s (i + 1)).v) 32
theorem sufZ_num (M : List (BitVec 8)) : Num (sufN (ivZ M) 32) := by
  have := sufN_bound (ivZ_byts M) 32
  exact ⟨this.1, by have := this.2; simpa using this⟩
theorem cndZ_num (s : KvZ) (i : Nat) : Num (cndZ s i) := sufZ_num _
/-- The state that key and digest make. -/
def begZ (d e : List (BitVec 8)) : KvZ := stirZ (stirZ ⟨List.replicate 32 0, List.replicate 32 1⟩ ([0] ++ d ++ e)) ([1] ++ d ++ e)
theorem begZ_ok (d e : List (BitVec 8)) : (begZ d e).ok := stirZ_ok _ _
/-- How many of the first so many are fit. -/
def cntZ (C : Nat → Int) : Nat → Nat
  | 0 => 0
  | n + 1 => if fitN (C n) then cntZ C n + 1 else cntZ C n
theorem cntZ_le (C : Nat → Int) : ∀ n, cntZ C n ≤ n
  | 0 => Nat.le_refl _
  | n + 1 => by
    have := cntZ_le C n
    rw [cntZ]
    split <;> omega
/-- The fit one with the number w among the first n. -/
def pkZ (C : Nat → Int) (w : Nat) : Nat → Option Int
  | 0 => none
  | n + 1 => (pkZ C w n).or (if fitN (C n) = true ∧ cntZ C n = w then some (C n) else none)
theorem pkZ_step {C : Nat → Int} {w n : Nat} {x : Int} (h : pkZ C w n = some x) : pkZ C w (n + 1) = some x := by rw [pkZ, h]; rfl
theorem pkZ_mono {C : Nat → Int} {w n : Nat} {x : Int} (h : pkZ C w n = some x) : ∀ d, pkZ C w (n + d) = some x
  | 0 => h
  | d + 1 => pkZ_step (pkZ_mono h d)
theorem pkZ_here {C : Nat → Int} {w n : Nat} (h : pkZ C w n = none) (hf : fitN (C n) = true) (hc : cntZ C n = w) : pkZ C w (n + 1) = some (C n) := by
  rw [pkZ, h, if_pos ⟨hf, hc⟩]; rfl
theorem pkZ_unfit {C : Nat → Int} {w n : Nat} (h : pkZ C w n = none) (hf : fitN (C n) = false) : pkZ C w (n + 1) = none := by
  rw [pkZ, h, if_neg (fun k => by rw [hf] at k; exact absurd k.1 (by decide))]; rfl
theorem pkZ_other {C : Nat → Int} {w n : Nat} (h : pkZ C w n = none) (hc : cntZ C n ≠ w) : pkZ C w (n + 1) = none := by
  rw [pkZ, h, if_neg (fun k => hc k.2)]; rfl
theorem pkZ_num {C : Nat → Int} (hC : ∀ i, Num (C i)) {w : Nat} {x : Int} : ∀ {n : Nat}, pkZ C w n = some x → Num x
  | 0, h => by simp [pkZ] at h
  | n + 1, h => by
    rw [pkZ] at h
    cases e : pkZ C w n with
    | some y => rw [e] at h; exact pkZ_num hC (n := n) (by rw [e]; exact h)
    | none =>
      rw [e] at h
      by_cases k : fitN (C n) = true ∧ cntZ C n = w
      · rw [if_pos k] at h
        have : C n = x := by simpa using h
        rw [← this]; exact hC n
      · rw [if_neg k] at h
        simp at h
end Go.Proofs.YtncpjgpioajbeaaGreatDoor

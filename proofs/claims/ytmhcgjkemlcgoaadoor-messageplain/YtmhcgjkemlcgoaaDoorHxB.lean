import Derived.Test.YtmhcgjkemlcgoaaDoorRows
import Derived.Test.YtmhcgjkemlcgoaaDoorNum
import Derived.WalkKit
import Derived.WalkSpells
import Derived.WalkLawsBesides
import Derived.Laws.Externs
import Derived.Shelf.Spec.BitsCarry
import Derived.Lib.Mul64
import Derived.Laws.Bits64b
import Derived.Deep.LoopGhost
import Derived.Laws.IdiomStrings
namespace Go.Proofs.YtmhcgjkemlcgoaaDoor
open Go.RowKit

/-- A text's byte. -/
def bt (s : ByteArray) (i : Nat) : Int := ((s.data.toList.getD i 0).toNat : Int)
/-- What follows. -/
def tl (s : ByteArray) : ByteArray := s.extract 2 s.size
end Go.Proofs.YtmhcgjkemlcgoaaDoor

/- Decimal texts: plain numbers. -/
namespace Go.Proofs.YtmhcgjkemlcgoaaDoor

/-- The number of n digits from a place on. -/
def dc (s : ByteArray) (o : Nat) : Nat → Int
  | 0 => 0
  | n + 1 => dc s o n * 10 + (bt s (o + n) - 48)
theorem dc_split (s : ByteArray) (o m : Nat) : ∀ n, dc s o (m + n) = dc s o m * 10 ^ n + dc s (o + m) n
  | 0 => by simp [dc]
  | n + 1 => by
    rw [← Nat.add_assoc, dc, dc_split s o m n, dc, Int.pow_succ, Nat.add_assoc]
    generalize bt s (o + (m + n)) = b
    generalize dc s (o + m) n = c
    rw [Int.add_mul, Int.mul_assoc]
    omega
theorem pow_pos10 (n : Nat) : (1 : Int) ≤ 10 ^ n := by
  induction n with
  | zero => decide
  | succ n ih => rw [Int.pow_succ]; omega
/-- A digit as a byte. -/
def db (v : Int) : UInt8 := UInt8.ofNat (48 + v.toNat)
theorem db_nat {v : Int} (h0 : 0 ≤ v) (h1 : v < 10) : ((db v).toNat : Int) = 48 + v := by
  unfold db
  have e : (48 + v.toNat) % 256 = 48 + v.toNat := Nat.mod_eq_of_lt (by omega)
  rw [UInt8.toNat_ofNat', show 2 ^ 8 = 256 from rfl, e]
  omega
/-- The last k digits. -/
def tx (x : Int) : Nat → List UInt8
  | 0 => []
  | k + 1 => db (x / 10 ^ k % 10) :: tx x k
theorem tx_len (x : Int) : ∀ k, (tx x k).length = k
  | 0 => rfl
  | k + 1 => by rw [tx, List.length_cons, tx_len x k]
theorem tx_get (x : Int) : ∀ {k i : Nat}, i < k → (tx x k).getD i 0 = db (x / 10 ^ (k - 1 - i) % 10)
  | k + 1, 0, _ => by simp [tx]
  | k + 1, i + 1, h => by
    rw [tx, List.getD_cons_succ, tx_get x (by omega)]
    congr 4; omega
/-- So many digits a number has. -/
def IsLen (x : Int) (k : Nat) : Prop := 1 ≤ k ∧ x / 10 ^ k = 0 ∧ (k = 1 ∨ x / 10 ^ (k - 1) ≠ 0)
theorem div_le {x : Int} {m n : Nat} (h : m ≤ n) (hz : x / 10 ^ m = 0) : x / 10 ^ n = 0 := by
  obtain ⟨k, rfl⟩ : ∃ k, n = m + k := ⟨n - m, by omega⟩
  have p := pow_pos10 m
  have q := pow_pos10 k
  rw [Int.pow_add, ← Int.ediv_ediv_of_nonneg (by omega), hz]
  simp
theorem len_le {x : Int} {k n : Nat} (h : IsLen x k) (hn : 1 ≤ n) (hz : x / 10 ^ n = 0) : k ≤ n := by
  obtain ⟨_, _, h3⟩ := h
  rcases h3 with h3 | h3
  · omega
  · by_cases c : k ≤ n
    · exact c
    · exact absurd (div_le (show n ≤ k - 1 by omega) hz) h3
theorem len_some {x : Int} : ∀ n : Nat, x / 10 ^ (n + 1) = 0 → ∃ k, IsLen x k ∧ k ≤ n + 1
  | 0, h => ⟨1, ⟨Nat.le_refl _, h, .inl rfl⟩, Nat.le_refl _⟩
  | n + 1, h => by
    by_cases c : x / 10 ^ (n + 1) = 0
    · obtain ⟨k, h1, h2⟩ := len_some n c
      exact ⟨k, h1, by omega⟩
    · exact ⟨n + 2, ⟨by omega, h, .inr c⟩, Nat.le_refl _⟩
theorem len_num {x : Int} (h : Num x) : ∃ k, IsLen x k ∧ k ≤ 78 := by
  refine len_some 77 (Int.ediv_eq_zero_of_lt h.1 (Int.lt_trans h.2 (by decide)))
end Go.Proofs.YtmhcgjkemlcgoaaDoor

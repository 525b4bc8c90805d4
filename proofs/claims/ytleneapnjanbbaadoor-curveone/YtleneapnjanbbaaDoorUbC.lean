import Derived.Test.YtleneapnjanbbaaDoorUbA
/- Layer 1: slices.Clone, Bytes. -/
namespace Go.Proofs.YtleneapnjanbbaaDoor
open Go.RowKit Go.Sort

end Go.Proofs.YtleneapnjanbbaaDoor

/- Layer 1: Get, Strict of any list; '==' of 32 bytes. -/
namespace Go.Proofs.YtleneapnjanbbaaDoor
open Go.RowKit Go.Sort

theorem Bts.bz {W : World} {b : Nat} {l : List Int} (h : Bts W b l) : Bz W b 0 l := fun i hi => by rw [Nat.zero_add]; exact h.1 i hi
end Go.Proofs.YtleneapnjanbbaaDoor

/- Bytes there and back: plain numbers; Get and Strict of any slice. -/
namespace Go.Proofs.YtleneapnjanbbaaDoor
open Go.RowKit Go.Sort

theorem p256 (k : Nat) : (1 : Int) ≤ 256 ^ k := by
  induction k with
  | zero => decide
  | succ k ih => rw [Int.pow_succ]; omega
theorem drop_bytsU {l : List Int} (h : Byts l) (k : Nat) : Byts (l.drop k) := fun i => by
  have := h (k + i)
  simpa [List.getD, List.getElem?_drop] using this
theorem suf_digit {X : List Int} (hX : Byts X) : ∀ (i j : Nat), i ≤ X.length → j < i → sufN X i / 256 ^ j % 256 = X.getD (X.length - 1 - j) 0
  | i + 1, j, hi, hj => by
    obtain ⟨a, b⟩ := sufN_bound hX i
    obtain ⟨c, d⟩ := hX (X.length - 1 - i)
    have p := p256 j
    rw [sufN]
    by_cases e : j = i
    · subst e
      rw [Int.add_mul_ediv_right _ _ (by omega), Int.ediv_eq_zero_of_lt a b, Int.zero_add]
      exact Int.emod_eq_of_lt c d
    · have e2 : (256 : Int) ^ i = 256 ^ j * (256 * 256 ^ (i - 1 - j)) := by
        rw [Int.mul_comm 256, ← Int.pow_succ, ← Int.pow_add]; congr 1; omega
      rw [e2, ← Int.mul_assoc, Int.mul_comm _ (256 ^ j), Int.mul_assoc, Int.add_mul_ediv_left _ _ (by omega), ← Int.mul_assoc, Int.mul_comm _ 256, Int.mul_assoc, Int.add_mul_emod_self_left]
      exact suf_digit hX i j (by omega) (by omega)
theorem suf_numU {X : List Int} (hX : Byts X) (hl : X.length ≤ 32) : Num (sufN X X.length) := by
  obtain ⟨a, b⟩ := sufN_bound hX X.length
  refine ⟨a, Int.lt_of_lt_of_le b ?_⟩
  have e : (256 : Int) ^ 32 = 115792089237316195423570985008687907853269984665640564039457584007913129639936 := by decide +kernel
  rw [← e]
  obtain ⟨k, hk⟩ : ∃ k, 32 = X.length + k := ⟨32 - X.length, by omega⟩
  rw [hk, Int.pow_add]
  have p := p256 X.length
  have q := p256 k
  have : (256 : Int) ^ X.length * 1 ≤ 256 ^ X.length * 256 ^ k := Int.mul_le_mul_of_nonneg_left q (by omega)
  omega
end Go.Proofs.YtleneapnjanbbaaDoor

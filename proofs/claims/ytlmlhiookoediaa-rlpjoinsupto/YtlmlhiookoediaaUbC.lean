import Derived.Test.YtlmlhiookoediaaUbB
/- Layer 1: slices.Clone, Bytes. -/
namespace Go.Proofs.Ytlmlhiookoediaa
open Go.RowKit Go.Sort

theorem strip_zeros : ∀ (k : Nat) (l : List Int), (∀ t, t < k → l.getD t 0 = 0) → (k < l.length → l.getD k 0 ≠ 0) → k ≤ l.length → stripL l = l.drop k
  | 0, [], _, _, _ => rfl
  | 0, x :: l, _, h, _ => by
    have := h (by simp)
    simp [stripL] at this ⊢
    simp [this]
  | k + 1, [], _, _, h => by simp at h
  | k + 1, x :: l, h0, h1, hk => by
    have e : x = 0 := by simpa using h0 0 (by omega)
    rw [stripL, if_pos e, List.drop_succ_cons]
    exact strip_zeros k l (fun t ht => by simpa using h0 (t + 1) (by omega)) (fun h => by simpa using h1 (by simpa using h)) (by simpa using hk)
end Go.Proofs.Ytlmlhiookoediaa

import Derived.Test.YtndefnomefdhoaaDoorKInj
import Derived.Test.YtndefnomefdhoaaDoorKPermutes
namespace Go.Proofs.YtndefnomefdhoaaDoor.K
open Go.RowKit Go.Sort

theorem wpList_world {P : Program} {ops : Array Oper} {Q : Exit → Act → World → Prop} {rest : List Oper} {a : Act} {w : World} (S : World → Prop) (h : S w) (k : ∀ W, S W → wpList P ops Q rest a W) : wpList P ops Q rest a w := k w h
theorem fresh_arr {W : World} {b : Nat} (e : b = W.heap.size) : Arr (W.alloc (.cells #[.int .u64 0, .int .u64 0, .int .u64 0, .int .u64 0, .int .u64 0, .int .u64 0, .int .u64 0, .int .u64 0, .int .u64 0, .int .u64 0, .int .u64 0, .int .u64 0, .int .u64 0, .int .u64 0, .int .u64 0, .int .u64 0, .int .u64 0, .int .u64 0, .int .u64 0, .int .u64 0, .int .u64 0, .int .u64 0, .int .u64 0, .int .u64 0, .int .u64 0] 58)) b (List.replicate 25 0) := Arr.zeros _ e

theorem unlike_eq {L : List (BitVec 64)} (hl : L.length = 25) {k : Nat} (hk : k < 25) (b : BitVec 64) : decide (perm L = perm (L.set k (L.getD k 0 ^^^ b))) = decide (b = 0) := by
  have l2 : (L.set k (L.getD k 0 ^^^ b)).length = 25 := by rw [List.length_set]; exact hl
  by_cases h : b = 0
  · subst h
    have e : L.set k (L.getD k 0 ^^^ 0) = L := by
      apply list_eq l2 hl
      intro p hp
      by_cases e : p = k
      · subst e; simp [List.getD, hl, hp]
      · simp [List.getD, List.getElem?_set_ne (Ne.symm e)]
    rw [e]
    simp
  · have n : perm L ≠ perm (L.set k (L.getD k 0 ^^^ b)) := by
      intro h2
      have h3 := congrArg (fun X => X.getD k 0) (perm_inj hl l2 h2)
      have h4 : (L.set k (L.getD k 0 ^^^ b)).getD k 0 = L.getD k 0 ^^^ b := by simp [List.getD, hl, hk]
      rw [h4] at h3
      have h5 := congrArg (fun z => L.getD k 0 ^^^ z) h3
      simp only [BitVec.xor_self, ← BitVec.xor_assoc, BitVec.zero_xor] at h5
      exact h h5.symm
    rw [decide_eq_false n, decide_eq_false h]

end Go.Proofs.YtndefnomefdhoaaDoor.K

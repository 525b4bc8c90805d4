import Derived.Test.YtecjfddolamknaaSCopied
import Derived.Test.YtecjfddolamknaaSPad
import Derived.Test.YtecjfddolamknaaSRRounds
/- The document's Pad. -/
namespace Go.Proofs.Ytecjfddolamknaa
open Go.RowKit Go.Sort

theorem own_oneS {W : World} {base : Nat} {x : BitVec 8} (h : base ≤ W.heap.size) {t : TypeId} (et : t = 5) : Own base (W.alloc (.cells #[.int .u8 (Y x)] t)) (.slice (some ⟨W.heap.size, 0, none⟩) 1 1) [x] := by
  subst et
  refine ⟨rfl, .inr ⟨W.heap.size, 1, #[.int .u8 (Y x)], rfl, h, ?_, Nat.le_refl _, by unfold maxLen; decide, rfl, rfl⟩⟩
  show (W.heap.push _)[W.heap.size]? = _
  simp
theorem Own.formS {B : Nat} {W : World} {v : Value} {X : List (BitVec 8)} (h : Own B W v X) : ∃ a c, v = .slice a X.length c := by
  rcases h.2 with ⟨e, hx⟩ | ⟨g, cap, cur, e, _⟩
  · exact ⟨none, 0, by rw [e, hx]⟩
  · exact ⟨_, cap, e⟩
/-- What stands of a filling: the mark and so many zeros. -/
def pz (j : Nat) : List (BitVec 8) := 128 :: List.replicate j 0
theorem pz_len (j : Nat) : (pz j).length = j + 1 := by simp [pz]
theorem pz_snoc (j : Nat) : pz (j + 1) = pz j ++ [0] := by simp [pz, List.replicate_succ']
def pb (n m : Nat) : List (BitVec 8) := pz (zn n) ++ lbs n m
theorem pb_len (n m : Nat) : (pb n m).length = zn n + 1 + m := by simp [pb, pz_len, lbs_len]
theorem pb_0 (n : Nat) : pb n 0 = pz (zn n) := by simp [pb, lbs]
theorem pb_snoc (n m : Nat) : pb n (m + 1) = pb n m ++ [lb n m] := by rw [pb, lbs_succ, ← List.append_assoc]; rfl
theorem pb_8 (n : Nat) : pb n 8 = padL n := by simp [pb, pz, padL]

end Go.Proofs.Ytecjfddolamknaa

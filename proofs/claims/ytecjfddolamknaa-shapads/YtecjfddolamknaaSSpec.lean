import Derived.Test.YtecjfddolamknaaSWord
/- What the program reckons of a block, a text, its filling: plain words. -/
namespace Go.Proofs.Ytecjfddolamknaa
open Go.RowKit Go.Sort

/-- The eight words of a state. -/
structure St where
  a : BitVec 32
  b : BitVec 32
  c : BitVec 32
  d : BitVec 32
  e : BitVec 32
  f : BitVec 32
  g : BitVec 32
  h : BitVec 32
/-- How many zeros stand in the filling of a text of n bytes. -/
def zn (n : Nat) : Nat := (119 - n % 64) % 64
/-- The i-th byte of the number of bits. -/
def lb (n i : Nat) : BitVec 8 := BitVec.ofNat 8 (8 * n % 18446744073709551616 / 2 ^ (56 - 8 * i))
def lbs (n m : Nat) : List (BitVec 8) := (List.range m).map (lb n)
theorem lbs_len (n m : Nat) : (lbs n m).length = m := by simp [lbs]
theorem lbs_succ (n m : Nat) : lbs n (m + 1) = lbs n m ++ [lb n m] := by simp [lbs, List.range_succ]
def padL (n : Nat) : List (BitVec 8) := 128 :: (List.replicate (zn n) 0 ++ lbs n 8)
theorem padL_len (n : Nat) : (padL n).length = zn n + 9 := by simp [padL, lbs_len]
end Go.Proofs.Ytecjfddolamknaa


/- The permutation, in plain words of 64 bits. -/
namespace Go.Proofs.YtcjabligkeaafaaDoor.K

def turnsN : List Nat := [0, 1, 62, 28, 27, 36, 44, 6, 55, 20, 3, 10, 43, 25, 39, 41, 45, 15, 21, 8, 18, 2, 61, 56, 14]
def srcN : List Nat := [0, 6, 12, 18, 24, 3, 9, 10, 16, 22, 1, 7, 13, 19, 20, 4, 5, 11, 17, 23, 2, 8, 14, 15, 21]
def marksN : List (BitVec 64) := [1, 32898, 9223372036854808714, 9223372039002292224, 32907, 2147483649, 9223372039002292353, 9223372036854808585, 138, 136, 2147516425, 2147483658, 2147516555, 9223372036854775947, 9223372036854808713, 9223372036854808579, 9223372036854808578, 9223372036854775936, 32778, 9223372039002259466, 9223372039002292353, 9223372036854808704, 2147483649, 9223372039002292232]

/-- A column's sum. -/
def colX (L : List (BitVec 64)) (x : Nat) : BitVec 64 := L.getD x 0 ^^^ L.getD (x + 5) 0 ^^^ L.getD (x + 10) 0 ^^^ L.getD (x + 15) 0 ^^^ L.getD (x + 20) 0
/-- What step 1 adds to the lanes of a column. -/
def addX (L : List (BitVec 64)) (x : Nat) : BitVec 64 := colX L ((x + 4) % 5) ^^^ (colX L ((x + 1) % 5)).rotateLeft 1
/-- A lane behind the steps 1 and 2. -/
def turX (L : List (BitVec 64)) (i : Nat) : BitVec 64 := (L.getD i 0 ^^^ addX L (i % 5)).rotateLeft (turnsN.getD i 0)
/-- A lane behind the step 3. -/
def movX (L : List (BitVec 64)) (p : Nat) : BitVec 64 := turX L (srcN.getD p 0)
/-- A lane behind the step 4. -/
def mixX (f : Nat → BitVec 64) (p : Nat) : BitVec 64 := f p ^^^ (~~~ f ((p % 5 + 1) % 5 + 5 * (p / 5)) &&& f ((p % 5 + 2) % 5 + 5 * (p / 5)))
/-- A round. -/
def rnd (L : List (BitVec 64)) (m : BitVec 64) : List (BitVec 64) := ((List.range 25).map (mixX (movX L))).set 0 (mixX (movX L) 0 ^^^ m)
/-- The first n rounds. -/
def rnds (L : List (BitVec 64)) : Nat → List (BitVec 64)
  | 0 => L
  | n + 1 => rnd (rnds L n) (marksN.getD n 0)
def perm (L : List (BitVec 64)) : List (BitVec 64) := rnds L 24
theorem rnd_len (L : List (BitVec 64)) (m : BitVec 64) : (rnd L m).length = 25 := by simp [rnd]
theorem rnds_len {L : List (BitVec 64)} (h : L.length = 25) : ∀ n, (rnds L n).length = 25
  | 0 => h
  | _ + 1 => rnd_len _ _
theorem perm_len {L : List (BitVec 64)} (h : L.length = 25) : (perm L).length = 25 := rnds_len h 24
theorem len25 {α : Type} {l : List α} (h : l.length = 25) : ∃ x0 x1 x2 x3 x4 x5 x6 x7 x8 x9 x10 x11 x12 x13 x14 x15 x16 x17 x18 x19 x20 x21 x22 x23 x24, l = [x0, x1, x2, x3, x4, x5, x6, x7, x8, x9, x10, x11, x12, x13, x14, x15, x16, x17, x18, x19, x20, x21, x22, x23, x24] := by
  match l, h with
  | [x0, x1, x2, x3, x4, x5, x6, x7, x8, x9, x10, x11, x12, x13, x14, x15, x16, x17, x18, x19, x20, x21, x22, x23, x24], _ => exact ⟨x0, x1, x2, x3, x4, x5, x6, x7, x8, x9, x10, x11, x12, x13, x14, x15, x16, x17, x18, x19, x20, x21, x22, x23, x24, rfl⟩

end Go.Proofs.YtcjabligkeaafaaDoor.K


/- The permutation, in plain words of 64 bits. -/
namespace Go.Proofs.YtmhcgjkemlcgoaaDoor.K

def turnsN : List Nat := [0, 1, 62, 28, 27, 36, 44, 6, 55, 20, 3, 10, 43, 25, 39, 41, 45, 15, 21, 8, 18, 2, 61, 56, 14]
def srcN : List Nat := [0, 6, 12, 18, 24, 3, 9, 10, 16, 22, 1, 7, 13, 19, 20, 4, 5, 11, 17, 23, 2, 8, 14, 15, 21]
def marksN : List (BitVec 64) := [1, 32898, 9223372036854808714, 9223372039002292224, 32907, 2147483649, 9223372039002292353, 9223372036854808585, 138, 136, 2147516425, 2147483658, 2147516555, 9223372036854775947, 9223372036854808713, 9223372036854808579, 9223372036854808578, 9223372036854775936, 32778, 9223372039002259466, 9223372039002292353, 9223372036854808704, 2147483649, 9223372039002292232]

/-- A column's sum. -/
def colX (L : List (BitVec 64)) (x : Nat) : BitVec 64 := L.getD x 0 ^^^ L.getD (x + 5) 0 ^^^ L.getD (x + 10) 0 ^^^ L.getD (x + 15) 0 ^^^ L.getD (x + 20) 0
/-- What step 1 adds to the lanes of a column. -/
def addX (L : List (BitVec 64)) (x : Nat) : BitVec 64 := colX L ((x + 4) % 5) ^^^ (colX L ((x + 1) % 5)).rotateLeft 1
/-- A lane behind the steps 1 and 2. -/
def turX (L : List (BitVec 64)) (i : Nat) : BitVec 64 := (L.getD i 0 ^^^ addX L (i % 5)).rotateLeft (turnsN.getD i 0)
/-- A lane behind the step 3. -/
def movX (L : List (BitVec 64)) (p : Nat) : BitVec 64 := turX L (srcN.getD p 0)
/-- A lane behind the step 4. -/
def mixX (f : Nat → BitVec 64) (p : Nat) : BitVec 64 := f p ^^^ (~~~ f ((p % 5 + 1) % 5 + 5 * (p / 5)) &&& f ((p % 5 + 2) % 5 + 5 * (p / 5)))
/-- A round. -/
def rnd (L : List (BitVec 64)) (m : BitVec 64) : List (BitVec 64) := ((List.range 25).map (mixX (movX L))).set 0 (mixX (movX L) 0 ^^^ m)
/-- The first n rounds. -/
def rnds (L : List (BitVec 64)) : Nat → List (BitVec 64)
  | 0 => L
  | n + 1 => rnd (rnds L n) (marksN.getD n 0)
def perm (L : List (BitVec 64)) : List (BitVec 64) := rnds L 24
theorem rnd_len (L : List (BitVec 64)) (m : BitVec 64) : (rnd L m).length = 25 := by simp [rnd]
theorem rnds_len {L : List (BitVec 64)} (h : L.length = 25) : ∀ n, (rnds L n).length = 25
  | 0 => h
  | _ + 1 => rnd_len _ _
theorem perm_len {L : List (BitVec 64)} (h : L.length = 25) : (perm L).length = 25 := rnds_len h 24
theorem len25 {α : Type} {l : List α} (h : l.length = 25) : ∃ x0 x1 x2 x3 x4 x5 x6 x7 x8 x9 x10 x11 x12 x13 x14 x15 x16 x17 x18 x19 x20 x21 x22 x23 x24, l = [x0, x1, x2, x3, x4, x5, x6, x7, x8, x9, x10, x11, x12, x13, x14, x15, x16, x17, x18, x19, x20, x21, x22, x23, x24] := by
  match l, h with
  | [x0, x1, x2, x3, x4, x5, x6, x7, x8, x9, x10, x11, x12, x13, x14, x15, x16, x17, x18, x19, x20, x21, x22, x23, x24], _ => exact ⟨x0, x1, x2, x3, x4, x5, x6, x7, x8, x9, x10, x11, x12, x13, x14, x15, x16, x17, x18, x19, x20, x21, x22, x23, x24, rfl⟩

end Go.Proofs.YtmhcgjkemlcgoaaDoor.K

/- The document's steps, list by list. -/
namespace Go.Proofs.YtmhcgjkemlcgoaaDoor.K

def mapL (F : Nat → BitVec 64) : List (BitVec 64) := (List.range 25).map F
theorem mapL_len (F : Nat → BitVec 64) : (mapL F).length = 25 := by simp [mapL]
theorem mapL_getD (F : Nat → BitVec 64) {p : Nat} (h : p < 25) : (mapL F).getD p 0 = F p := by
  simp [mapL, List.getD, List.getElem?_map, List.getElem?_range h]
theorem mapL_ext {L : List (BitVec 64)} {F : Nat → BitVec 64} (hl : L.length = 25) (h : ∀ p, p < 25 → L.getD p 0 = F p) : L = mapL F := by
  apply List.ext_getElem (by rw [hl, mapL_len])
  intro p h1 h2
  have e1 := h p (by omega)
  have e2 := mapL_getD F (p := p) (by omega)
  rw [List.getD, List.getElem?_eq_getElem h1] at e1
  rw [List.getD, List.getElem?_eq_getElem h2] at e2
  simp only [Option.getD_some] at e1 e2
  rw [e1, e2]

def colF (A : List (BitVec 64)) (p : Nat) : BitVec 64 := A.getD p 0 ^^^ addX A (p % 5)
def movF (A : List (BitVec 64)) (p : Nat) : BitVec 64 := (A.getD (srcN.getD p 0) 0).rotateLeft (turnsN.getD (srcN.getD p 0) 0)
def mixF (A : List (BitVec 64)) (p : Nat) : BitVec 64 := mixX (fun i => A.getD i 0) p

/-- When the lane p is written: the loops go over x, then y. -/
def ordA (p : Nat) : Nat := 5 * (p % 5) + p / 5
def ordB (p : Nat) : Nat := ordA (srcN.getD p 0)
theorem ordA_one {x y p : Nat} (hy : y < 5) (hp : p < 25) (h : ordA p = 5 * x + y) : p = x + 5 * y := by unfold ordA at h; omega
theorem ordA_lt (p : Nat) (h : p < 25) : ordA p < 25 := by unfold ordA; omega
theorem src_at : ∀ x, x < 5 → ∀ y, y < 5 → srcN.getD (y + 5 * ((2 * x + 3 * y) % 5)) 0 = x + 5 * y := by decide
theorem src_inv : ∀ p, p < 25 → p = srcN.getD p 0 / 5 + 5 * ((2 * (srcN.getD p 0 % 5) + 3 * (srcN.getD p 0 / 5)) % 5) := by decide
theorem src_lt : ∀ p, p < 25 → srcN.getD p 0 < 25 := by decide
theorem ordB_one {x y p : Nat} (hy : y < 5) (hp : p < 25) (h : ordB p = 5 * x + y) : p = y + 5 * ((2 * x + 3 * y) % 5) := by
  have e := src_inv p hp
  have s := ordA_one hy (src_lt p hp) h
  have h' : ordA (srcN.getD p 0) = 5 * x + y := h
  have hx : x < 5 := by have := ordA_lt _ (src_lt p hp); omega
  have h1 : srcN.getD p 0 / 5 = y := by have := src_lt p hp; omega
  have h2 : srcN.getD p 0 % 5 = x := by have := src_lt p hp; omega
  rw [h1, h2] at e
  exact e
/-- What has been written when the loops stand at n. -/
def Upto (o : Nat → Nat) (F : Nat → BitVec 64) (n : Nat) (L : List (BitVec 64)) : Prop := ∀ p, p < 25 → o p < n → L.getD p 0 = F p
theorem Upto.zero (o : Nat → Nat) (F : Nat → BitVec 64) (L : List (BitVec 64)) : Upto o F 0 L := fun _ _ h => absurd h (Nat.not_lt_zero _)
theorem Upto.step {o : Nat → Nat} {F : Nat → BitVec 64} {n q : Nat} {L : List (BitVec 64)} (h : Upto o F n L) (hl : L.length = 25) (hq : q < 25) (u : ∀ p, p < 25 → o p = n → p = q) {v : BitVec 64} (hv : v = F q) : Upto o F (n + 1) (L.set q v) := by
  intro p hp hn
  by_cases e : p = q
  · subst e
    rw [hv]
    simp [List.getD, hl, hq]
  · have : o p ≠ n := fun e' => e (u p hp e')
    have g := h p hp (by omega)
    rw [← g]
    simp [List.getD, List.getElem?_set_ne (Ne.symm e)]
theorem Upto.all {o : Nat → Nat} {F : Nat → BitVec 64} {L : List (BitVec 64)} (h : Upto o F 25 L) (hl : L.length = 25) (ho : ∀ p, p < 25 → o p < 25) : L = mapL F := mapL_ext hl fun p hp => h p hp (ho p hp)
theorem ordB_lt (p : Nat) (h : p < 25) : ordB p < 25 := ordA_lt _ (src_lt p h)

/-- The three steps and the fourth make the round. -/
theorem rnd_ref (A : List (BitVec 64)) (m : BitVec 64) : (mapL (mixF (mapL (movF (mapL (colF A)))))).set 0 ((mapL (mixF (mapL (movF (mapL (colF A)))))).getD 0 0 ^^^ m) = rnd A m := by
  have e : mapL (mixF (mapL (movF (mapL (colF A))))) = mapL (mixX (movX A)) := by
    apply mapL_ext (mapL_len _)
    intro p hp
    rw [mapL_getD _ hp]
    have k : ∀ i, i < 25 → (mapL (movF (mapL (colF A)))).getD i 0 = movX A i := by
      intro i hi
      rw [mapL_getD _ hi, movF, mapL_getD _ (src_lt i hi)]
      rfl
    unfold mixF mixX
    dsimp only
    rw [k p hp, k _ (by omega), k _ (by omega)]
  rw [e, mapL_getD _ (by decide)]
  rfl

end Go.Proofs.YtmhcgjkemlcgoaaDoor.K

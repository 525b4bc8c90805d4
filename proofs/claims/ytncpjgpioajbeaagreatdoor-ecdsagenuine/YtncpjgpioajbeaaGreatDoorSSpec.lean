import Derived.Test.YtncpjgpioajbeaaGreatDoorSWord
/- What the program reckons of a block, a text, its filling: plain words. -/
namespace Go.Proofs.YtncpjgpioajbeaaGreatDoor.S
open Go.RowKit Go.Sort

/-- The eight words of a state. -/
structure St where
  a : BitVec 32
  b : BitVec 32
  c : BitVec 32
  d : BitVec 32
  e : BitVec 32
  f : BitVec 32
  g : BitVec 32
  h : BitVec 32
def tri (x : BitVec 32) (i j k : Nat) : BitVec 32 := rotr x i ^^^ rotr x j ^^^ rotr x k
def sml (x : BitVec 32) (i j k : Nat) : BitVec 32 := rotr x i ^^^ rotr x j ^^^ x >>> k
def chs (e f g : BitVec 32) : BitVec 32 := (e &&& f) ^^^ (~~~e &&& g)
def maj (a b c : BitVec 32) : BitVec 32 := (a &&& b) ^^^ (a &&& c) ^^^ (b &&& c)
def tmp1 (s : St) (k w : BitVec 32) : BitVec 32 := s.h + tri s.e 6 11 25 + chs s.e s.f s.g + k + w
def tmp2 (s : St) : BitVec 32 := tri s.a 2 13 22 + maj s.a s.b s.c
def rnd (s : St) (k w : BitVec 32) : St := ⟨tmp1 s k w + tmp2 s, s.a, s.b, s.c, s.d + tmp1 s k w, s.e, s.f, s.g⟩
def rnds (K Wd : List (BitVec 32)) (s : St) : Nat → St
  | 0 => s
  | n + 1 => rnd (rnds K Wd s n) (K.getD n 0) (Wd.getD n 0)
/-- A byte laid into the words. -/
def putW (L : List (BitVec 32)) (i : Nat) (x : BitVec 8) : List (BitVec 32) := L.set (i / 4) (L.getD (i / 4) 0 <<< 8 ||| wide x)
theorem putW_len (L : List (BitVec 32)) (i : Nat) (x : BitVec 8) : (putW L i x).length = L.length := by simp [putW]
def puts (B : List (BitVec 8)) : Nat → List (BitVec 32)
  | 0 => List.replicate 64 0
  | n + 1 => putW (puts B n) n (B.getD n 0)
theorem puts_len (B : List (BitVec 8)) : ∀ n, (puts B n).length = 64
  | 0 => by simp [puts]
  | n + 1 => by rw [puts, putW_len, puts_len B n]
/-- The next word. -/
def nextW (M : List (BitVec 32)) (t : Nat) : BitVec 32 := sml (M.getD (t - 2) 0) 17 19 10 + M.getD (t - 7) 0 + sml (M.getD (t - 15) 0) 7 18 3 + M.getD (t - 16) 0
def exts (L : List (BitVec 32)) : Nat → List (BitVec 32)
  | 0 => L
  | n + 1 => (exts L n).set (16 + n) (nextW (exts L n) (16 + n))
theorem exts_len (L : List (BitVec 32)) : ∀ n, (exts L n).length = L.length
  | 0 => rfl
  | n + 1 => by rw [exts, List.length_set, exts_len L n]
def spreadL (B : List (BitVec 8)) : List (BitVec 32) := exts (puts B 64) 48
theorem spreadL_len (B : List (BitVec 8)) : (spreadL B).length = 64 := by rw [spreadL, exts_len, puts_len]
def hN : List (BitVec 32) := [0x6a09e667, 0xbb67ae85, 0x3c6ef372, 0xa54ff53a, 0x510e527f, 0x9b05688c, 0x1f83d9ab, 0x5be0cd19]
def kN : List (BitVec 32) := [
  0x428a2f98, 0x71374491, 0xb5c0fbcf, 0xe9b5dba5, 0x3956c25b, 0x59f111f1, 0x923f82a4, 0xab1c5ed5,
  0xd807aa98, 0x12835b01, 0x243185be, 0x550c7dc3, 0x72be5d74, 0x80deb1fe, 0x9bdc06a7, 0xc19bf174,
  0xe49b69c1, 0xefbe4786, 0x0fc19dc6, 0x240ca1cc, 0x2de92c6f, 0x4a7484aa, 0x5cb0a9dc, 0x76f988da,
  0x983e5152, 0xa831c66d, 0xb00327c8, 0xbf597fc7, 0xc6e00bf3, 0xd5a79147, 0x06ca6351, 0x14292967,
  0x27b70a85, 0x2e1b2138, 0x4d2c6dfc, 0x53380d13, 0x650a7354, 0x766a0abb, 0x81c2c92e, 0x92722c85,
  0xa2bfe8a1, 0xa81a664b, 0xc24b8b70, 0xc76c51a3, 0xd192e819, 0xd6990624, 0xf40e3585, 0x106aa070,
  0x19a4c116, 0x1e376c08, 0x2748774c, 0x34b0bcb5, 0x391c0cb3, 0x4ed8aa4a, 0x5b9cca4f, 0x682e6ff3,
  0x748f82ee, 0x78a5636f, 0x84c87814, 0x8cc70208, 0x90befffa, 0xa4506ceb, 0xbef9a3f7, 0xc67178f2]
/-- A state out of its words, and back. -/
def stOf (S : List (BitVec 32)) : St := ⟨S.getD 0 0, S.getD 1 0, S.getD 2 0, S.getD 3 0, S.getD 4 0, S.getD 5 0, S.getD 6 0, S.getD 7 0⟩
def sums (S : List (BitVec 32)) (s : St) : List (BitVec 32) := [S.getD 0 0 + s.a, S.getD 1 0 + s.b, S.getD 2 0 + s.c, S.getD 3 0 + s.d, S.getD 4 0 + s.e, S.getD 5 0 + s.f, S.getD 6 0 + s.g, S.getD 7 0 + s.h]
/-- The state behind a block. -/
def compL (S : List (BitVec 32)) (B : List (BitVec 8)) : List (BitVec 32) := sums S (rnds kN (spreadL B) (stOf S) 64)
theorem compL_len (S : List (BitVec 32)) (B : List (BitVec 8)) : (compL S B).length = 8 := rfl
/-- The n-th block of a text. -/
def blk (X : List (BitVec 8)) (n : Nat) : List (BitVec 8) := (X.drop (64 * n)).take 64
/-- The state behind so many blocks of a text. -/
def stAt (X : List (BitVec 8)) : Nat → List (BitVec 32)
  | 0 => hN
  | n + 1 => compL (stAt X n) (blk X n)
theorem stAt_len (X : List (BitVec 8)) : ∀ n, (stAt X n).length = 8
  | 0 => rfl
  | _ + 1 => rfl
theorem blk_app {X Z : List (BitVec 8)} {n : Nat} (h : 64 * n + 64 ≤ X.length) : blk (X ++ Z) n = blk X n := by
  rw [blk, blk, List.drop_append_of_le_length (by omega), List.take_append_of_le_length (by rw [List.length_drop]; omega)]
theorem stAt_app {X Z : List (BitVec 8)} : ∀ n, 64 * n ≤ X.length → stAt (X ++ Z) n = stAt X n
  | 0, _ => rfl
  | n + 1, h => by rw [stAt, stAt, stAt_app n (by omega), blk_app (by omega)]
/-- The digest that stands in a state. -/
def hashS (S : List (BitVec 32)) : List (BitVec 8) := (List.range 32).map fun i => cut8 (S.getD (i / 4) 0) (24 - i % 4 * 8)
theorem hashS_len (S : List (BitVec 32)) : (hashS S).length = 32 := by simp [hashS]
theorem hashS_getD (S : List (BitVec 32)) {i : Nat} (h : i < 32) : (hashS S).getD i 0 = cut8 (S.getD (i / 4) 0) (24 - i % 4 * 8) := by
  simp [hashS, List.getD, List.getElem?_map, List.getElem?_range h]
theorem hashS_ext {M : List (BitVec 8)} {S : List (BitVec 32)} (hl : M.length = 32) (h : ∀ i, i < 32 → M.getD i 0 = cut8 (S.getD (i / 4) 0) (24 - i % 4 * 8)) : M = hashS S := by
  apply List.ext_getElem (by rw [hl, hashS_len])
  intro p h1 h2
  have e1 := h p (by omega)
  have e2 := hashS_getD S (i := p) (by omega)
  rw [List.getD, List.getElem?_eq_getElem h1] at e1
  rw [List.getD, List.getElem?_eq_getElem h2] at e2
  simp only [Option.getD_some] at e1 e2
  rw [e1, e2]

/-- How many zeros stand in the filling of a text of n bytes. -/
def zn (n : Nat) : Nat := (119 - n % 64) % 64
/-- The i-th byte of the number of bits. -/
def lb (n i : Nat) : BitVec 8 := BitVec.ofNat 8 (8 * n % 18446744073709551616 / 2 ^ (56 - 8 * i))
def lbs (n m : Nat) : List (BitVec 8) := (List.range m).map (lb n)
theorem lbs_len (n m : Nat) : (lbs n m).length = m := by simp [lbs]
theorem lbs_succ (n m : Nat) : lbs n (m + 1) = lbs n m ++ [lb n m] := by simp [lbs, List.range_succ]
def padL (n : Nat) : List (BitVec 8) := 128 :: (List.replicate (zn n) 0 ++ lbs n 8)
theorem padL_len (n : Nat) : (padL n).length = zn n + 9 := by simp [padL, lbs_len]
theorem pad_whole (n : Nat) : (n + (padL n).length) % 64 = 0 := by rw [padL_len, zn]; omega
/-- The text and its filling; its digest. -/
def fullX (X : List (BitVec 8)) : List (BitVec 8) := X ++ padL X.length
theorem fullX_len (X : List (BitVec 8)) : (fullX X).length = X.length + (padL X.length).length := by rw [fullX, List.length_append]
def shaL (X : List (BitVec 8)) : List (BitVec 8) := hashS (stAt (fullX X) ((fullX X).length / 64))
theorem shaL_len (X : List (BitVec 8)) : (shaL X).length = 32 := hashS_len _

end Go.Proofs.YtncpjgpioajbeaaGreatDoor.S

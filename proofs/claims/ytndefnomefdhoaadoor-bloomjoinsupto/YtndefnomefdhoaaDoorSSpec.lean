import Derived.Test.YtndefnomefdhoaaDoorSWord
/- What the program reckons of a block, a text, its filling: plain words. -/
namespace Go.Proofs.YtndefnomefdhoaaDoor
open Go.RowKit Go.Sort

/-- The eight words of a state. -/
structure St where
  a : BitVec 32
  b : BitVec 32
  c : BitVec 32
  d : BitVec 32
  e : BitVec 32
  f : BitVec 32
  g : BitVec 32
  h : BitVec 32
def tri (x : BitVec 32) (i j k : Nat) : BitVec 32 := rotr x i ^^^ rotr x j ^^^ rotr x k
def chs (e f g : BitVec 32) : BitVec 32 := (e &&& f) ^^^ (~~~e &&& g)
def maj (a b c : BitVec 32) : BitVec 32 := (a &&& b) ^^^ (a &&& c) ^^^ (b &&& c)
def tmp1 (s : St) (k w : BitVec 32) : BitVec 32 := s.h + tri s.e 6 11 25 + chs s.e s.f s.g + k + w
def tmp2 (s : St) : BitVec 32 := tri s.a 2 13 22 + maj s.a s.b s.c
def rnd (s : St) (k w : BitVec 32) : St := ⟨tmp1 s k w + tmp2 s, s.a, s.b, s.c, s.d + tmp1 s k w, s.e, s.f, s.g⟩
def rnds (K Wd : List (BitVec 32)) (s : St) : Nat → St
  | 0 => s
  | n + 1 => rnd (rnds K Wd s n) (K.getD n 0) (Wd.getD n 0)
def hN : List (BitVec 32) := [0x6a09e667, 0xbb67ae85, 0x3c6ef372, 0xa54ff53a, 0x510e527f, 0x9b05688c, 0x1f83d9ab, 0x5be0cd19]
def sums (S : List (BitVec 32)) (s : St) : List (BitVec 32) := [S.getD 0 0 + s.a, S.getD 1 0 + s.b, S.getD 2 0 + s.c, S.getD 3 0 + s.d, S.getD 4 0 + s.e, S.getD 5 0 + s.f, S.getD 6 0 + s.g, S.getD 7 0 + s.h]
/-- The i-th byte of the number of bits. -/
def lb (n i : Nat) : BitVec 8 := BitVec.ofNat 8 (8 * n % 18446744073709551616 / 2 ^ (56 - 8 * i))
end Go.Proofs.YtndefnomefdhoaaDoor

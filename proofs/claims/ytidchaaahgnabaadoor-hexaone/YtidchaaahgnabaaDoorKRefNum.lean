import Derived.Test.YtidchaaahgnabaaDoorNum
/- The document's steps, list by list. -/
namespace Go.Proofs.YtidchaaahgnabaaDoor

def mapL (F : Nat → BitVec 64) : List (BitVec 64) := (List.range 25).map F
theorem mapL_len (F : Nat → BitVec 64) : (mapL F).length = 25 := by simp [mapL]
theorem mapL_getD (F : Nat → BitVec 64) {p : Nat} (h : p < 25) : (mapL F).getD p 0 = F p := by
  simp [mapL, List.getD, List.getElem?_map, List.getElem?_range h]
theorem mapL_ext {L : List (BitVec 64)} {F : Nat → BitVec 64} (hl : L.length = 25) (h : ∀ p, p < 25 → L.getD p 0 = F p) : L = mapL F := by
  apply List.ext_getElem (by rw [hl, mapL_len])
  intro p h1 h2
  have e1 := h p (by omega)
  have e2 := mapL_getD F (p := p) (by omega)
  rw [List.getD, List.getElem?_eq_getElem h1] at e1
  rw [List.getD, List.getElem?_eq_getElem h2] at e2
  simp only [Option.getD_some] at e1 e2
  rw [e1, e2]

/-- What has been written when the loops stand at n. -/
def Upto (o : Nat → Nat) (F : Nat → BitVec 64) (n : Nat) (L : List (BitVec 64)) : Prop := ∀ p, p < 25 → o p < n → L.getD p 0 = F p
theorem Upto.zero (o : Nat → Nat) (F : Nat → BitVec 64) (L : List (BitVec 64)) : Upto o F 0 L := fun _ _ h => absurd h (Nat.not_lt_zero _)
theorem Upto.step {o : Nat → Nat} {F : Nat → BitVec 64} {n q : Nat} {L : List (BitVec 64)} (h : Upto o F n L) (hl : L.length = 25) (hq : q < 25) (u : ∀ p, p < 25 → o p = n → p = q) {v : BitVec 64} (hv : v = F q) : Upto o F (n + 1) (L.set q v) := by
  intro p hp hn
  by_cases e : p = q
  · subst e
    rw [hv]
    simp [List.getD, hl, hq]
  · have : o p ≠ n := fun e' => e (u p hp e')
    have g := h p hp (by omega)
    rw [← g]
    simp [List.getD, List.getElem?_set_ne (Ne.symm e)]
theorem Upto.all {o : Nat → Nat} {F : Nat → BitVec 64} {L : List (BitVec 64)} (h : Upto o F 25 L) (hl : L.length = 25) (ho : ∀ p, p < 25 → o p < 25) : L = mapL F := mapL_ext hl fun p hp => h p hp (ho p hp)
end Go.Proofs.YtidchaaahgnabaaDoor

/- The school's product of two numbers of four limbs. -/
namespace Go.Proofs.YtidchaaahgnabaaDoor

/-- A number below 2^512, by its halves. -/
theorem halves {n m h l : Int} (hl : Num l) (e : l + 115792089237316195423570985008687907853269984665640564039457584007913129639936 * h = n * m) : hiN n m = h ∧ loN n m = l := by
  obtain ⟨_, _⟩ := hl
  unfold hiN loN
  generalize n * m = p at *
  omega

end Go.Proofs.YtidchaaahgnabaaDoor

/- The permutation is one to one. -/
namespace Go.Proofs.YtidchaaahgnabaaDoor

end Go.Proofs.YtidchaaahgnabaaDoor

/- The numbers modulo 2^256 are a ring. -/
namespace Go.Proofs.YtidchaaahgnabaaDoor

end Go.Proofs.YtidchaaahgnabaaDoor

import Derived.Test.YtecjfddolamknaaSRBits
import Derived.Laws.OwnMore
/- The document's primes and the first bits of their roots. -/
namespace Go.Proofs.Ytecjfddolamknaa
open Go.RowKit Go.Sort

/-- A list of words of one's own. -/
def OwW (B : Nat) (W : World) (v : Value) (L : List (BitVec 32)) : Prop := W.ownsRow B 42 1 v L.length (wrds L)
theorem OwW.nil {B : Nat} {W : World} : OwW B W (.slice none 0 0) [] := ⟨by simp [wrds], .inl ⟨rfl, by simp⟩⟩
theorem grown_of_belowW {W W' : World} (h : Below W.heap.size W W') (row : Option Nat) : W.grownBy W' row := ⟨h.os, h.tape, h.output, h.size, fun k hk _ => h.block k hk⟩
theorem OwW.keep {B : Nat} {W W' : World} {v : Value} {L : List (BitVec 32)} (h : OwW B W v L) (hb : Below W.heap.size W W') : OwW B W' v L :=
  World.ownsRow.kept h (grown_of_belowW hb Option.none) (by cases v.ownBlock <;> simp)
theorem OwW.form {B : Nat} {W : World} {v : Value} {L : List (BitVec 32)} (h : OwW B W v L) : ∃ a c, v = .slice a L.length c := by
  rcases h.2 with ⟨e, hx⟩ | ⟨g, cap, cur, e, _⟩
  · exact ⟨none, 0, by rw [e, hx]⟩
  · exact ⟨_, cap, e⟩
end Go.Proofs.Ytecjfddolamknaa

import Derived.Test.YtnokgnhcnhfkpaaDoorUbA
/- Layer 1: the document's Bytes. -/
namespace Go.Proofs.YtnokgnhcnhfkpaaDoor
open Go.RowKit

/-- A list of bytes without the zeros ahead. -/
def stripL : List Int → List Int
  | [] => []
  | x :: xs => if x = 0 then stripL xs else x :: xs
theorem bts_setCells {W : World} {b : Nat} {l : List Int} (ht : W.there b 0 (l.map (Value.int .u8)).length) : Bts (W.setCells b 0 (l.map (Value.int .u8))) b l := by
  have h1 := World.rangeAt_setCells_same W b 0 (l.map (Value.int .u8)) ht
  refine ⟨fun i hi => ?_, fun i hi => ?_⟩
  · have := h1 i (.int .u8 (l.getD i 0)) (by simp [List.getD, List.getElem?_eq_getElem hi])
    rw [Nat.zero_add] at this
    exact this
  · have := (ht i (by simpa using hi)).2
    rw [Nat.zero_add] at this
    rw [World.frozen?_setCells]
    exact this

end Go.Proofs.YtnokgnhcnhfkpaaDoor

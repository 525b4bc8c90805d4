import Derived.Test.YtncpjgpioajbeaaGreatDoorFApp
/- Lists of numbers of one's own: what they keep, what an append asks for. -/
namespace Go.Proofs.YtncpjgpioajbeaaGreatDoor
open Go.RowKit Go.Sort

theorem cells_four (W : World) (a b c d : Value) (t : TypeId) {s : Nat} (e : s = W.heap.size) : ∀ j x, [a, b, c, d][j]? = some x → (W.alloc (.cells #[a, b, c, d] t)).cell? ((⟨s, 0, none⟩ : Addr).add j) = some x := fun j x h => by
  subst e
  rw [Addr.add_lit, Nat.zero_add, World.cell?_alloc_mark]
  simpa using h
theorem OwnU.keep {B : Nat} {W W' : World} {v : Value} {L : List Int} (h : OwnU B W v L) (hb : Below W.heap.size W W') : OwnU B W' v L :=
  World.ownsRow.kept h ⟨hb.os, hb.tape, hb.output, hb.size, fun k hk _ => hb.block k hk⟩ (row := Option.none) (by cases v.ownBlock <;> simp)
theorem getD_in {L : List Int} {i : Nat} (h : i < L.length) : L.getD i 0 = L[i] := by
  rw [List.getD, List.getElem?_eq_getElem h]; rfl
theorem one_four (y : Int) : ∀ u ∈ [Value.int .u64 (l0 y), .int .u64 (l1 y), .int .u64 (l2 y), .int .u64 (l3 y)], u.oneCell' = true := fun u hu => by
  simp at hu
  rcases hu with rfl | rfl | rfl | rfl <;> rfl
end Go.Proofs.YtncpjgpioajbeaaGreatDoor

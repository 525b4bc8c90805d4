import Derived.Test.YtahekhamhdfkdaaRxS
import Derived.ArgAppend
/- Layer 7: a head, put into an array of nine bytes. -/
namespace Go.Proofs.Ytahekhamhdfkdaa
open Go.RowKit Go.Sort
/-- The first bytes of an array of nine. -/
def OwA (W : World) (g : Nat) (P : List Int) : Prop := P.length ≤ 9 ∧ W.rangeAt g 0 (P.map (Value.int .u8)) ∧ W.there g 0 9
theorem OwA.lt {W : World} {g : Nat} {P : List Int} (h : OwA W g P) : g < W.heap.size := by
  obtain ⟨v, hv⟩ := Option.isSome_iff_exists.1 (h.2.2 0 (by omega)).1
  exact World.block_lt_of_cell? W _ hv
theorem OwA.same {W W' : World} {g : Nat} {P : List Int} (h : OwA W g P) (e : W'.heap[g]? = W.heap[g]?) : OwA W' g P :=
  ⟨h.1, fun j v hv => by rw [World.cell?_of_block (w := W) (a := ⟨g, 0 + j, none⟩) e]; exact h.2.1 j v hv, fun j hj => by
    obtain ⟨h1, h2⟩ := h.2.2 j hj
    exact ⟨by rw [World.cell?_of_block (w := W) (a := ⟨g, 0 + j, none⟩) e]; exact h1, by rw [World.frozen?_of_block (w := W) (a := ⟨g, 0 + j, none⟩) e]; exact h2⟩⟩
theorem OwA.keep {W W' : World} {g : Nat} {P : List Int} (h : OwA W g P) (hb : Below W.heap.size W W') : OwA W' g P := h.same (hb.block g h.lt)
theorem OwA.bz {W : World} {g : Nat} {P : List Int} (h : OwA W g P) : Bz W g 0 P := fun i hi => h.2.1 i _ (by rw [List.getElem?_map, List.getElem?_eq_getElem hi, List.getD, List.getElem?_eq_getElem hi]; rfl)
theorem OwA.snoc {W : World} {g : Nat} {P : List Int} (h : OwA W g P) (hl : P.length < 9) (x : Int) : OwA (W.setCells g P.length [.int .u8 x]) g (P ++ [x]) := by
  have lm : (P.map (Value.int .u8)).length = P.length := List.length_map _
  refine ⟨by simp; omega, fun j v hv => ?_, World.there_setCells h.2.2 _ _ _⟩
  rw [List.map_append] at hv
  by_cases hj : j < P.length
  · rw [List.getElem?_append_left (by omega)] at hv
    exact World.rangeAt_setCells_apart h.2.1 g P.length [.int .u8 x] (.inr (.inl (by rw [lm]; omega))) j v hv
  · rw [List.getElem?_append_right (by omega), lm] at hv
    have hj2 : j = P.length := by
      have := (List.getElem?_eq_some_iff.1 hv).1
      simp at this
      omega
    subst hj2
    rw [Nat.sub_self] at hv
    have ht : W.there g P.length 1 := fun k hk => by
      have := h.2.2 (P.length + k) (by omega)
      rw [Nat.zero_add] at this
      exact this
    have := World.rangeAt_setCells_same W g P.length [.int .u8 x] ht 0 v hv
    rw [Nat.zero_add]; exact this
theorem OwA.congr {w : World} {g : Nat} {Z : List Int} {x y : Int} (h : OwA w g (Z ++ [x])) (e : x = y) : OwA w g (Z ++ [y]) := e ▸ h
end Go.Proofs.Ytahekhamhdfkdaa

/- Layer 7: bytes put at a room's end. -/
namespace Go.Proofs.Ytahekhamhdfkdaa
open Go.RowKit Go.Sort
/-- A room: a whole block of bytes. -/
def Rq (W : World) (gr : Nat) (L : List Int) : Prop := W.heap[gr]? = some (.cells (L.map (Value.int .u8)).toArray 5 (0, 0))
theorem Rq.lt {W : World} {gr : Nat} {L : List Int} (h : Rq W gr L) : gr < W.heap.size := (Array.getElem?_eq_some_iff.1 h).1
theorem Rq.keep {W W' : World} {gr : Nat} {L : List Int} (h : Rq W gr L) (hb : Below W.heap.size W W') : Rq W' gr L := (hb.block gr h.lt).trans h
theorem Rq.grown {W W' : World} {gr : Nat} {L : List Int} {row : Option Nat} (h : Rq W gr L) (hg : W.grownBy W' row) (hn : row ≠ some gr) : Rq W' gr L := (hg.block gr h.lt fun e => hn e.symm).trans h
end Go.Proofs.Ytahekhamhdfkdaa

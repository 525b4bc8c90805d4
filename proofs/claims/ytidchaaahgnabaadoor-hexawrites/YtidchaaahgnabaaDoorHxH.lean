import Derived.Test.YtidchaaahgnabaaDoorHxG
import Derived.Deep.RegionHeld
import Derived.Deep.AppendLies
namespace Go.Proofs.YtidchaaahgnabaaDoor
open Go.RowKit Go.Sort

theorem OwnB.made (W : World) (n : Nat) {B : Nat} (hB : B ≤ W.heap.size) (hn : n ≤ maxLen) : OwnB B (W.alloc (.cells (madeCells #[.int .u8 0] n) 5)) (.slice (some ⟨W.heap.size, 0, none⟩) n n) (List.replicate n 0) := by
  have h := World.ownsRow_lit (base := B) (e := 5) (size := 1) W (madeCells #[.int .u8 0] n) n hB hn (by rw [size_madeCells, Nat.mul_one])
  rw [toList_madeCells_one] at h
  rw [OwnB, List.length_replicate, List.map_replicate]
  exact h
end Go.Proofs.YtidchaaahgnabaaDoor

namespace Go.Proofs.YtidchaaahgnabaaDoor
open Go.RowKit Go.Sort

/-- A slice that can be read. -/
def Rd (W : World) (v : Value) (X : List Int) : Prop := ∃ a g c, v = .slice a X.length c ∧ (X ≠ [] → a = some ⟨g, 0, none⟩) ∧ ∀ i, i < X.length → W.cell? ⟨g, i, none⟩ = some (.int .u8 (X.getD i 0))
theorem OwnB.rd {B : Nat} {W : World} {v : Value} {X : List Int} (h : OwnB B W v X) : Rd W v X := by
  rcases h.2 with ⟨rfl, h0⟩ | ⟨g, cap, cur, rfl, _⟩
  · have e : X = [] := List.length_eq_zero_iff.1 h0
    subst e
    exact ⟨_, 0, 0, rfl, fun h => absurd rfl h, fun i hi => absurd hi (Nat.not_lt_zero _)⟩
  · exact ⟨_, g, cap, rfl, fun _ => rfl, fun i hi => OwnB.cell h rfl hi⟩
theorem Rd.keep {W W' : World} {v : Value} {X : List Int} (h : Rd W v X) (hb : Below W.heap.size W W') : Rd W' v X := by
  obtain ⟨a, g, c, h1, h2, h3⟩ := h
  exact ⟨a, g, c, h1, h2, fun i hi => cellK hb (h3 i hi)⟩
end Go.Proofs.YtidchaaahgnabaaDoor

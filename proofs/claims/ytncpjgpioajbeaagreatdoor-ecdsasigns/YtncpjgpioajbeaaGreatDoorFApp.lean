import Derived.Test.YtncpjgpioajbeaaGreatDoorFSame
import Derived.Maps.AppendAt
import Derived.Laws.OwnMore
/- Lists of numbers that an append gathers. -/
namespace Go.Proofs.YtncpjgpioajbeaaGreatDoor
open Go.RowKit Go.Sort

/-- The cells of these numbers. -/
def numsV : List Int → List Value
  | [] => []
  | n :: L => .int .u64 (l0 n) :: .int .u64 (l1 n) :: .int .u64 (l2 n) :: .int .u64 (l3 n) :: numsV L
theorem numsV_snoc : ∀ (L : List Int) (n : Int), numsV L ++ [.int .u64 (l0 n), .int .u64 (l1 n), .int .u64 (l2 n), .int .u64 (l3 n)] = numsV (L ++ [n])
  | [], _ => rfl
  | _ :: L, n => by simp only [numsV, List.cons_append, numsV_snoc L n]
theorem numsV_at : ∀ (L : List Int) (i : Nat), i < L.length → (numsV L)[i * 4]? = some (.int .u64 (l0 (L.getD i 0))) ∧ (numsV L)[i * 4 + 1]? = some (.int .u64 (l1 (L.getD i 0))) ∧ (numsV L)[i * 4 + 2]? = some (.int .u64 (l2 (L.getD i 0))) ∧ (numsV L)[i * 4 + 3]? = some (.int .u64 (l3 (L.getD i 0)))
  | _ :: _, 0, _ => ⟨rfl, rfl, rfl, rfl⟩
  | n :: L, i + 1, h => by
    have ih := numsV_at L i (by simpa using h)
    have e : ∀ d, (numsV (n :: L))[(i + 1) * 4 + d]? = (numsV L)[i * 4 + d]? := fun d => by
      rw [show (i + 1) * 4 + d = i * 4 + d + 1 + 1 + 1 + 1 by omega]; rfl
    have e0 := e 0
    simp only [Nat.add_zero] at e0
    rw [e0, e 1, e 2, e 3]
    exact ih
/-- A slice of the call's own memory, of these numbers. -/
def OwnU (B : Nat) (W : World) (v : Value) (L : List Int) : Prop := W.ownsRow B 24 4 v L.length (numsV L)
theorem OwnU.row {B : Nat} {W : World} {v : Value} {L : List Int} (h : OwnU B W v L) : W.ownsRow B 24 4 v L.length (numsV L) := h
theorem OwnU.none (B : Nat) (W : World) : OwnU B W (.slice none 0 0) [] := ⟨rfl, .inl ⟨rfl, rfl⟩⟩
/-- Where it lies. -/
theorem OwnU.lies {B : Nat} {W : World} {v : Value} {L : List Int} (h : OwnU B W v L) : ∃ a g c, v = .slice a L.length c ∧ At4 a g 0 L ∧ Nms W g 0 L ∧ (L ≠ [] → B ≤ g) := by
  obtain ⟨h1, h2⟩ := h
  rcases h2 with ⟨rfl, h0⟩ | ⟨g, cap, cur, rfl, hB, hc, hle, h63, hs, ht⟩
  · have e : L = [] := List.length_eq_zero_iff.1 h0
    subst e
    exact ⟨_, 0, 0, rfl, .inl rfl, fun i hi => absurd hi (Nat.not_lt_zero _), fun h => absurd rfl h⟩
  · refine ⟨_, g, cap, rfl, .inr rfl, fun i hi => ?_, fun _ => hB⟩
    have hcell : ∀ k, k < L.length * 4 → W.cell? ⟨g, k, Option.none⟩ = (numsV L)[k]? := fun k hk => World.ownsRow.cellAt ⟨h1, .inr ⟨g, cap, cur, rfl, hB, hc, hle, h63, hs, ht⟩⟩ k hk
    obtain ⟨a0, a1, a2, a3⟩ := numsV_at L i hi
    simp only [Nat.zero_add]
    rw [hcell _ (by omega), hcell _ (by omega), hcell _ (by omega), hcell _ (by omega)]
    exact ⟨a0, a1, a2, a3⟩
end Go.Proofs.YtncpjgpioajbeaaGreatDoor

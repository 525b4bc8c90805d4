import Derived.Test.YtncpjgpioajbeaaDoorFList
import Derived.Maps.AppendAt
import Derived.Laws.OwnMore
/- Lists of numbers that an append gathers. -/
namespace Go.Proofs.YtncpjgpioajbeaaDoor
open Go.RowKit Go.Sort

/-- The cells of these numbers. -/
def numsV : List Int → List Value
  | [] => []
  | n :: L => .int .u64 (l0 n) :: .int .u64 (l1 n) :: .int .u64 (l2 n) :: .int .u64 (l3 n) :: numsV L
theorem numsV_snoc : ∀ (L : List Int) (n : Int), numsV L ++ [.int .u64 (l0 n), .int .u64 (l1 n), .int .u64 (l2 n), .int .u64 (l3 n)] = numsV (L ++ [n])
  | [], _ => rfl
  | _ :: L, n => by simp only [numsV, List.cons_append, numsV_snoc L n]
theorem numsV_at : ∀ (L : List Int) (i : Nat), i < L.length → (numsV L)[i * 4]? = some (.int .u64 (l0 (L.getD i 0))) ∧ (numsV L)[i * 4 + 1]? = some (.int .u64 (l1 (L.getD i 0))) ∧ (numsV L)[i * 4 + 2]? = some (.int .u64 (l2 (L.getD i 0))) ∧ (numsV L)[i * 4 + 3]? = some (.int .u64 (l3 (L.getD i 0)))
  | _ :: _, 0, _ => ⟨rfl, rfl, rfl, rfl⟩
  | n :: L, i + 1, h => by
    have ih := numsV_at L i (by simpa using h)
    have e : ∀ d, (numsV (n :: L))[(i + 1) * 4 + d]? = (numsV L)[i * 4 + d]? := fun d => by
      rw [show (i + 1) * 4 + d = i * 4 + d + 1 + 1 + 1 + 1 by omega]; rfl
    have e0 := e 0
    simp only [Nat.add_zero] at e0
    rw [e0, e 1, e 2, e 3]
    exact ih
/-- A slice of the call's own memory, of these numbers. -/
def OwnU (B : Nat) (W : World) (v : Value) (L : List Int) : Prop := W.ownsRow B 24 4 v L.length (numsV L)
theorem OwnU.row {B : Nat} {W : World} {v : Value} {L : List Int} (h : OwnU B W v L) : W.ownsRow B 24 4 v L.length (numsV L) := h
theorem OwnU.none (B : Nat) (W : World) : OwnU B W (.slice none 0 0) [] := ⟨rfl, .inl ⟨rfl, rfl⟩⟩
/-- Where it lies. -/
theorem OwnU.lies {B : Nat} {W : World} {v : Value} {L : List Int} (h : OwnU B W v L) : ∃ a g c, v = .slice a L.length c ∧ At4 a g 0 L ∧ Nms W g 0 L ∧ (L ≠ [] → B ≤ g) := by
  obtain ⟨h1, h2⟩ := h
  rcases h2 with ⟨rfl, h0⟩ | ⟨g, cap, cur, rfl, hB, hc, hle, h63, hs, ht⟩
  · have e : L = [] := List.length_eq_zero_iff.1 h0
    subst e
    exact ⟨_, 0, 0, rfl, .inl rfl, fun i hi => absurd hi (Nat.not_lt_zero _), fun h => absurd rfl h⟩
  · refine ⟨_, g, cap, rfl, .inr rfl, fun i hi => ?_, fun _ => hB⟩
    have hcell : ∀ k, k < L.length * 4 → W.cell? ⟨g, k, Option.none⟩ = (numsV L)[k]? := fun k hk => World.ownsRow.cellAt ⟨h1, .inr ⟨g, cap, cur, rfl, hB, hc, hle, h63, hs, ht⟩⟩ k hk
    obtain ⟨a0, a1, a2, a3⟩ := numsV_at L i hi
    simp only [Nat.zero_add]
    rw [hcell _ (by omega), hcell _ (by omega), hcell _ (by omega), hcell _ (by omega)]
    exact ⟨a0, a1, a2, a3⟩
end Go.Proofs.YtncpjgpioajbeaaDoor

/- Lists of numbers of one's own: what they keep, what an append asks for. -/
namespace Go.Proofs.YtncpjgpioajbeaaDoor
open Go.RowKit Go.Sort

theorem cells_four (W : World) (a b c d : Value) (t : TypeId) {s : Nat} (e : s = W.heap.size) : ∀ j x, [a, b, c, d][j]? = some x → (W.alloc (.cells #[a, b, c, d] t)).cell? ((⟨s, 0, none⟩ : Addr).add j) = some x := fun j x h => by
  subst e
  rw [Addr.add_lit, Nat.zero_add, World.cell?_alloc_mark]
  simpa using h
theorem OwnU.keep {B : Nat} {W W' : World} {v : Value} {L : List Int} (h : OwnU B W v L) (hb : Below W.heap.size W W') : OwnU B W' v L :=
  World.ownsRow.kept h ⟨hb.os, hb.tape, hb.output, hb.size, fun k hk _ => hb.block k hk⟩ (row := Option.none) (by cases v.ownBlock <;> simp)
theorem OwnU.kept {B : Nat} {W W' : World} {v : Value} {L : List Int} {row : Option Nat} (h : OwnU B W v L) (hg : W.grownBy W' row) (hn : ∀ k, v.ownBlock = some k → row ≠ some k) : OwnU B W' v L :=
  World.ownsRow.kept h hg (by
    cases hd : v.ownBlock with
    | none => exact .inl rfl
    | some k => exact .inr fun e => hn k hd e.symm)
theorem getD_in {L : List Int} {i : Nat} (h : i < L.length) : L.getD i 0 = L[i] := by
  rw [List.getD, List.getElem?_eq_getElem h]; rfl
theorem one_four (y : Int) : ∀ u ∈ [Value.int .u64 (l0 y), .int .u64 (l1 y), .int .u64 (l2 y), .int .u64 (l3 y)], u.oneCell' = true := fun u hu => by
  simp at hu
  rcases hu with rfl | rfl | rfl | rfl <;> rfl
end Go.Proofs.YtncpjgpioajbeaaDoor

import Derived.Test.YtndefnomefdhoaaDoorSBase
import Derived.ProofKit
import Derived.OpenShut
import Derived.Carry
import Derived.ChangeSlices
import Derived.Deep.Matrix
import Derived.SizedLaws
/- Opening lists of texts, with what they weigh. -/
namespace Go.Proofs.YtndefnomefdhoaaDoor.bw
open Go.ChangeShapes Go.WideShapes Go.ChangeAt Go.RowKit Go.Deep

theorem cells5 : Tryd.prog.cellsOf 5 = 1 := by kernel_rfl
theorem list_of {α : Type} {p : Nat → α → Prop} (z : α) : ∀ n, (∀ i, i < n → ∃ a, p i a) → ∃ L : List α, L.length = n ∧ ∀ i, i < n → p i (L.getD i z)
  | 0, _ => ⟨[], rfl, fun _ h => absurd h (Nat.not_lt_zero _)⟩
  | n + 1, h => by
    obtain ⟨L, hl, hp⟩ := list_of z n fun i hi => h i (by omega)
    obtain ⟨a, ha⟩ := h n (by omega)
    refine ⟨L ++ [a], by simp [hl], fun i hi => ?_⟩
    by_cases e : i = n
    · subst e; simpa [List.getD, ← hl] using ha
    · have h1 := hp i (by omega)
      simpa [List.getD, List.getElem?_append_left (show i < L.length by omega)] using h1

theorem mapM_all {α β : Type} {f : α → Option β} {g : α → β} : ∀ (l : List α), (∀ i ∈ l, f i = some (g i)) → l.mapM f = some (l.map g)
  | [], _ => rfl
  | a :: l, h => by
    rw [List.mapM_cons, h a (by simp), mapM_all l fun i hi => h i (by simp [hi])]
    rfl

theorem flat_nil {α β γ : Type} (f : α → β) : ∀ L : List α, ((L.map fun x => (f x, ([] : List γ))).flatMap (·.2)) = []
  | [] => rfl
  | _ :: L => by rw [List.map_cons, List.flatMap_cons, flat_nil f L]; rfl

/-- How a filter reads. -/
noncomputable def dat {H : Type} (L : List (BitVec 8)) : DataW H := .agg (L.map fun x => .lit (.int .u8 (Y x)))

section
variable {H : Type} {enc : TypeId × Value → H} {w : World} {base : Nat} {spare : Nat → Bool} {held : Bool}

end

theorem laidOut : laidOutB Tryd.prog = true := by kernel_rfl
theorem cells27 : Tryd.prog.cellsOf 28 = 1 := by kernel_rfl
/-- The bytes that numbers stand for. -/
def bytesOf (zs : List Int) : List (BitVec 8) := zs.map fun n => BitVec.ofNat 8 n.toNat
theorem byte_at {zs : List Int} {len i : Nat} (hi : i < len) (hl : len ≤ zs.length) (hw : ∀ n ∈ zs, (Lit.int .u8 n).wf = true) : Y ((bytesOf (zs.take len)).getD i 0) = zs.getD i 0 := by
  have hw2 : (Lit.int .u8 (zs.getD i 0)).wf = true := hw _ (by
    rw [List.getD, List.getElem?_eq_getElem (by omega)]
    exact List.getElem_mem (by omega))
  have b : 0 ≤ zs.getD i 0 ∧ zs.getD i 0 < 256 := by
    simp [Lit.wf, IntKind.min, IntKind.max, IntKind.signed, IntKind.bits] at hw2
    exact ⟨by simpa using hw2.1, by have := hw2.2; simp at this ⊢; omega⟩
  have e : (bytesOf (zs.take len)).getD i 0 = BitVec.ofNat 8 (zs.getD i 0).toNat := by
    rw [bytesOf, List.getD, List.getElem?_map, List.getElem?_take, if_pos (by omega), List.getD, List.getElem?_eq_getElem (show i < zs.length by omega)]
    rfl
  rw [e, Y_eq, BitVec.toNat_ofNat]
  generalize zs.getD i 0 = z at *
  omega
def partOf (a : Option Addr) (len cap : Nat) (zs : List Int) : Part :=
  match a with
  | none => ⟨none, 0, 0, cap, bytesOf (zs.take len)⟩
  | some x => ⟨some x, x.block, x.off, cap, bytesOf (zs.take len)⟩
theorem partOf_a (a : Option Addr) (len cap : Nat) (zs : List Int) : (partOf a len cap zs).a = a := by cases a <;> rfl
theorem partOf_c (a : Option Addr) (len cap : Nat) (zs : List Int) : (partOf a len cap zs).c = cap := by cases a <;> rfl
theorem partOf_X (a : Option Addr) (len cap : Nat) (zs : List Int) : (partOf a len cap zs).X = bytesOf (zs.take len) := by cases a <;> rfl
theorem partOf_ok {W : World} {a : Option Addr} {len cap : Nat} {zs : List Int} (hl : len ≤ cap) (hz : zs.length = cap) (hw : ∀ n ∈ zs, (Lit.int .u8 n).wf = true) (h0 : a = none → cap = 0) (hc : ∀ a', a = some a' → ∀ c, c < cap → W.cell? (a'.add c) = some (.int .u8 (zs.getD c 0))) :
    (partOf a len cap zs).val = .slice a len cap ∧ (partOf a len cap zs).ok W := by
  have lX : (bytesOf (zs.take len)).length = len := by rw [bytesOf, List.length_map, List.length_take]; omega
  cases a with
  | none =>
    have h1 := h0 rfl
    have h2 : len = 0 := by omega
    refine ⟨by show Value.slice none (bytesOf (zs.take len)).length cap = _; rw [lX], .inl (List.eq_nil_of_length_eq_zero (by rw [partOf_X]; omega)), by rw [partOf_X, partOf_c, lX]; exact hl, fun i hi => ?_⟩
    rw [partOf_X, lX] at hi
    omega
  | some x =>
    obtain ⟨b, o, spot⟩ := x
    refine ⟨by show Value.slice (some ⟨b, o, spot⟩) (bytesOf (zs.take len)).length cap = _; rw [lX], ?_, by rw [partOf_X, partOf_c, lX]; exact hl, fun i hi => ?_⟩
    · by_cases h1 : len = 0
      · exact .inl (List.eq_nil_of_length_eq_zero (by rw [partOf_X]; omega))
      · have hspot : spot = .none := by simpa [Addr.add] using World.cell?_spot (hc _ rfl 0 (by omega))
        subst hspot
        exact .inr rfl
    · rw [partOf_X, lX] at hi
      have hspot : spot = .none := by simpa [Addr.add] using World.cell?_spot (hc _ rfl 0 (by omega))
      subst hspot
      have h1 := hc _ rfl i (by omega)
      rw [Addr.add_lit] at h1
      rw [partOf_X, byte_at hi (by omega) hw]
      exact h1

section
variable {H : Type} {enc : TypeId × Value → H}

end
end Go.Proofs.YtndefnomefdhoaaDoor.bw

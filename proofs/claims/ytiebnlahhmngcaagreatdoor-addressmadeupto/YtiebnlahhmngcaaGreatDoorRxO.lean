import Derived.Test.YtiebnlahhmngcaaGreatDoorRjA
import Derived.Test.YtiebnlahhmngcaaGreatDoorRows
import Derived.ProofKit
import Derived.OpenShut
import Derived.Carry
import Derived.ChangeSlices
import Derived.ChangeMaps5
import Derived.Deep.Slices
/- Layer 7: trees as arguments. -/
namespace Go.Proofs.YtiebnlahhmngcaaGreatDoor.tt
open Go.ChangeShapes Go.WideShapes Go.ChangeAt Go.RowKit Go.Deep

theorem laidOut : laidOutB Tryz.prog = true := by kernel_rfl
theorem ownT : ownKnob Tryz.prog.godebug = none := by kernel_rfl
theorem cells5 : Tryz.prog.cellsOf 5 = 1 := by kernel_rfl
theorem cellsI : Tryz.prog.cellsOf 35 = 3 := by kernel_rfl
theorem bulk_lits {H : Type} (k : IntKind) : ∀ l : List Int, Rows.uptoBulkAll (lits (H := H) k l) = l.length
  | [] => rfl
  | x :: l => by
    have e : lits (H := H) k (x :: l) = .lit (.int k x) :: lits k l := rfl
    have u : Rows.uptoBulk (H := H) (.lit (.int k x)) = 1 := rfl
    rw [e, Rows.uptoBulkAll, bulk_lits k l, u, List.length_cons]
    omega
theorem list_of {α : Type} {p : Nat → α → Prop} (z : α) : ∀ n, (∀ i, i < n → ∃ a, p i a) → ∃ L : List α, L.length = n ∧ ∀ i, i < n → p i (L.getD i z)
  | 0, _ => ⟨[], rfl, fun _ h => absurd h (Nat.not_lt_zero _)⟩
  | n + 1, h => by
    obtain ⟨L, hl, hp⟩ := list_of z n fun i hi => h i (by omega)
    obtain ⟨a, ha⟩ := h n (by omega)
    refine ⟨L ++ [a], by simp [hl], fun i hi => ?_⟩
    by_cases e : i = n
    · subst e; simpa [List.getD, ← hl] using ha
    · have h1 := hp i (by omega)
      simpa [List.getD, List.getElem?_append_left (show i < L.length by omega)] using h1
section
variable {H : Type} {enc : TypeId × Value → H}
set_option maxRecDepth 100000 in
theorem cells_bytes {W : World} {fuel : Nat} {cs : List Value} {x : DataW H × List MemPlace} (hf : DataW.trod enc Tryz.prog W 0 (fun _ => true) true fuel 29 cs = some x) :
    ∃ (a : Option Addr) (b o c : Nat) (X : List Int), cs = [.slice a X.length c] ∧ (X.length ≤ c ∧ (a = none → c = 0)) ∧ Az a b o X ∧ Bz W b o X ∧ Bys X ∧ X.length + 1 ≤ Rows.uptoBulk x.1 := by
  rcases open_ints Tryz.underlying29 Tryz.underlying5 cells5 hf with ⟨rfl, rfl⟩ | ⟨a, len, cap, zs, rfl, _, hl, hm, hz, rfl, hcell, hwz⟩
  · exact ⟨.none, 0, 0, 0, [], rfl, ⟨Nat.le_refl _, fun _ => rfl⟩, .inl rfl, fun i hi => absurd hi (by simp), fun x hx => (by simp at hx), Nat.le_refl _⟩
  · simp only [if_true] at hz
    have lL : (zs.take len).length = len := by rw [List.length_take]; omega
    have hB : Bys (zs.take len) := fun x hx => by
      have := hwz x (List.mem_of_mem_take hx)
      simp [Lit.wf, IntKind.min, IntKind.max, IntKind.signed, IntKind.bits] at this
      exact ⟨by omega, by omega⟩
    have bl : (zs.take len).length + 1 ≤ Rows.uptoBulk (DataW.slice (H := H) (lits .u8 (zs.take len)) (lits .u8 (zs.drop len))) := by
      rw [Rows.uptoBulk, bulk_lits]
      omega
    by_cases h0 : len = 0
    · exact ⟨some a, 0, 0, cap, zs.take len, by rw [lL], ⟨by omega, fun e => by cases e⟩, .inl (List.eq_nil_of_length_eq_zero (by omega)), fun i hi => absurd hi (by omega), hB, bl⟩
    · obtain ⟨ab, ao, spot⟩ := a
      have hspot : spot = .none := by simpa [Addr.add] using World.cell?_spot (hcell 0 (by omega))
      subst hspot
      refine ⟨some ⟨ab, ao, .none⟩, ab, ao, cap, zs.take len, by rw [lL], ⟨by omega, fun e => by cases e⟩, .inr rfl, fun i hi => ?_, hB, bl⟩
      have hc := hcell i (by omega)
      rw [Addr.add_lit] at hc
      rw [hc]
      simp [List.getD, show i < len by omega]
set_option maxRecDepth 100000 in
theorem open_bytes {W : World} {base : Nat} {v : Value} {d : DataW H} {p : List MemPlace} (hval : Value.okWide Tryz.prog W .any base 29 v) (h : DataW.Trod enc Tryz.prog W 0 (fun _ => true) true 29 v d p) :
    ∃ (a : Option Addr) (b o c : Nat) (X : List Int), v = .slice a X.length c ∧ (X.length ≤ c ∧ (a = none → c = 0)) ∧ Az a b o X ∧ Bz W b o X ∧ Bys X ∧ X.length + 1 ≤ Rows.uptoBulk d := by
  obtain ⟨a1, len, cap, rfl⟩ := okWide_slice Tryz.underlying29 hval
  obtain ⟨fuel, hf⟩ := h
  obtain ⟨a, b, o, c, X, h1, h2⟩ := cells_bytes hf
  simp [Value.cells] at h1
  obtain ⟨rfl, rfl, rfl⟩ := h1
  exact ⟨_, b, o, _, X, rfl, h2⟩
end
end Go.Proofs.YtiebnlahhmngcaaGreatDoor.tt

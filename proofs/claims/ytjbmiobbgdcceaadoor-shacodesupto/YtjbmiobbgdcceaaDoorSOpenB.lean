import Derived.Test.YtjbmiobbgdcceaaDoorSLaid
import Derived.Carry
import Derived.ChangeSlices
import Derived.Test.YtjbmiobbgdcceaaDoorSBase
namespace Go.Proofs.YtjbmiobbgdcceaaDoor
open Go.ChangeShapes Go.WideShapes Go.ChangeAt Go.RowKit

theorem laidOut : laidOutB Tryd.prog = true := by kernel_rfl
theorem cells5 : Tryd.prog.cellsOf 5 = 1 := by kernel_rfl
theorem bulk_lits {H : Type} (k : IntKind) : ∀ l : List Int, Rows.uptoBulkAll (lits (H := H) k l) = l.length
  | [] => rfl
  | x :: l => by
    have e : lits (H := H) k (x :: l) = .lit (.int k x) :: lits k l := rfl
    have u : Rows.uptoBulk (H := H) (.lit (.int k x)) = 1 := rfl
    rw [e, Rows.uptoBulkAll, bulk_lits k l, u, List.length_cons]
    omega

section
variable {H : Type} {enc : TypeId × Value → H}

set_option maxRecDepth 100000 in
theorem open_b {W : World} {base : Nat} {v : Value} {d : DataW H} {p : List MemPlace} (hval : Value.okWide Tryd.prog W .any base 22 v) (h : DataW.Trod enc Tryd.prog W 0 (fun _ => true) true 22 v d p) :
    ∃ (a : Option Addr) (bt ot ct : Nat) (X : List (BitVec 8)), v = .slice a X.length ct ∧ X.length ≤ ct ∧ At a bt ot X ∧ Byo W bt ot X ∧ X.length ≤ Rows.uptoBulk d := by
  obtain ⟨a1, len, cap, rfl⟩ := okWide_slice Tryd.underlying22 hval
  obtain ⟨fuel, hf⟩ := h
  rcases open_ints Tryd.underlying22 Tryd.underlying5 cells5 hf with ⟨hcs, hx⟩ | ⟨a, len', cap', zs, hcs, _, hl, hm, hz, hx, hcell, hwz⟩
  · simp [Value.cells] at hcs
    obtain ⟨rfl, rfl, rfl⟩ := hcs
    exact ⟨.none, 0, 0, 0, [], rfl, Nat.le_refl _, .inl rfl, fun i hi => absurd hi (by simp), Nat.zero_le _⟩
  · simp [Value.cells] at hcs
    obtain ⟨rfl, rfl, rfl⟩ := hcs
    simp only [Prod.mk.injEq] at hx
    obtain ⟨rfl, rfl⟩ := hx
    simp only [if_true] at hz
    have lX : ((zs.take len).map fun n => BitVec.ofNat 8 n.toNat).length = len := by rw [List.length_map, List.length_take]; omega
    obtain ⟨X, kX⟩ : ∃ X, X = (zs.take len).map fun n => BitVec.ofNat 8 n.toNat := ⟨_, rfl⟩
    rw [← kX] at lX
    have bl : X.length ≤ Rows.uptoBulk (DataW.slice (H := H) (lits .u8 (zs.take len)) (lits .u8 (zs.drop len))) := by
      rw [Rows.uptoBulk, bulk_lits, lX, List.length_take]
      omega
    by_cases h0 : len = 0
    · exact ⟨some a, 0, 0, cap, X, by rw [lX], by omega, .inl (List.eq_nil_of_length_eq_zero (by omega)), fun i hi => absurd hi (by omega), bl⟩
    · obtain ⟨ab, ao, spot⟩ := a
      have hspot : spot = .none := by simpa [Addr.add] using World.cell?_spot (hcell 0 (by omega))
      subst hspot
      refine ⟨some ⟨ab, ao, .none⟩, ab, ao, cap, X, by rw [lX], by omega, .inr rfl, fun i hi => ?_, bl⟩
      have hc := hcell i (by omega)
      rw [Addr.add_lit] at hc
      rw [hc]
      have hw : (Lit.int .u8 (zs.getD i 0)).wf = true := hwz _ (by
        rw [List.getD, List.getElem?_eq_getElem (by omega)]
        exact List.getElem_mem (by omega))
      have b : 0 ≤ zs.getD i 0 ∧ zs.getD i 0 < 256 := by
        simp [Lit.wf, IntKind.min, IntKind.max, IntKind.signed, IntKind.bits] at hw
        exact ⟨by simpa using hw.1, by have := hw.2; simp at this ⊢; omega⟩
      have e : X.getD i 0 = BitVec.ofNat 8 (zs.getD i 0).toNat := by
        rw [kX, List.getD, List.getElem?_map, List.getElem?_take, if_pos (by omega), List.getD, List.getElem?_eq_getElem (show i < zs.length by omega)]
        rfl
      rw [e, Y_eq, BitVec.toNat_ofNat]
      congr 2
      generalize zs.getD i 0 = z at *
      omega
end
end Go.Proofs.YtjbmiobbgdcceaaDoor

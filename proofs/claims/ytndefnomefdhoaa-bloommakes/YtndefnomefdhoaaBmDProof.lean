import Derived.Test.YtndefnomefdhoaaBmD
import Derived.ProofKit
import Derived.OpenShut
import Derived.SizedLaws
import Derived.Carry
import Derived.ChangeSlices
import Derived.ChangeMaps5
/- BloomMakes: the statement. -/
namespace Go.Proofs.Ytndefnomefdhoaa
open Go.ChangeShapes Go.WideShapes Go.ChangeAt Go.RowKit

theorem ownM : ownKnob Try.prog.godebug = none := by kernel_rfl
theorem laidOutM : laidOutB Try.prog = true := by kernel_rfl
theorem cellsI : Try.prog.cellsOf 3 = 1 := by kernel_rfl
theorem bytesI : Try.prog.bytesOf 3 = 8 := by kernel_rfl

section
variable {H : Type} {enc : TypeId × Value → H}

set_option maxRecDepth 100000 in
theorem open_is {W : World} {base : Nat} {v : Value} {d : DataW H} {p : List MemPlace} (hval : Value.okWide Try.prog W .any base 22 v) (h : DataW.Trod enc Try.prog W 0 (fun _ => true) true 22 v d p) :
    ∃ (a : Option Addr) (bt ot ct : Nat) (L : List Int), v = .slice a L.length ct ∧ AtI a bt ot L ∧ Ixs W bt ot L ∧ ((d.weights Try.prog 22).all (· ≤ reachBytes) = true → L.length < 35184372088832) := by
  obtain ⟨a1, len, cap, rfl⟩ := okWide_slice Try.underlying22 hval
  obtain ⟨fuel, hf⟩ := h
  rcases open_ints Try.underlying22 Try.underlying3 cellsI hf with ⟨hcs, hx⟩ | ⟨a, len', cap', zs, hcs, _, hl, hm, hz, hx, hcell, hwz⟩
  · simp [Value.cells] at hcs
    obtain ⟨rfl, rfl, rfl⟩ := hcs
    exact ⟨.none, 0, 0, 0, [], rfl, .inl rfl, fun i hi => absurd hi (by simp), fun _ => by simp⟩
  · simp [Value.cells] at hcs
    obtain ⟨rfl, rfl, rfl⟩ := hcs
    simp only [Prod.mk.injEq] at hx
    obtain ⟨rfl, rfl⟩ := hx
    simp only [if_true] at hz
    have lL : (zs.take len).length = len := by rw [List.length_take]; omega
    have bl : ((DataW.slice (H := H) (lits .i64 (zs.take len)) (lits .i64 (zs.drop len))).weights Try.prog 22).all (· ≤ reachBytes) = true → (zs.take len).length < 35184372088832 := fun hw => by
      rw [DataW.weights, Try.underlying22] at hw
      simp only [List.all_cons, Bool.and_eq_true, decide_eq_true_eq, bytesI] at hw
      have h1 := hw.1
      have e1 : (lits (H := H) .i64 (zs.take len)).length = (zs.take len).length := by simp [lits]
      rw [e1] at h1
      have e2 : reachBytes = 140737488351232 := by decide
      rw [e2] at h1
      omega
    by_cases h0 : len = 0
    · exact ⟨some a, 0, 0, cap, zs.take len, by rw [lL], .inl (List.eq_nil_of_length_eq_zero (by omega)), fun i hi => absurd hi (by omega), bl⟩
    · obtain ⟨ab, ao, spot⟩ := a
      have hspot : spot = .none := by simpa [Addr.add] using World.cell?_spot (hcell 0 (by omega))
      subst hspot
      refine ⟨some ⟨ab, ao, .none⟩, ab, ao, cap, zs.take len, by rw [lL], .inr rfl, fun i hi => ?_, bl⟩
      have hc := hcell i (by omega)
      rw [Addr.add_lit] at hc
      rw [hc]
      simp [List.getD, show i < len by omega]
end

set_option maxRecDepth 100000 in
theorem bloomMakes_lifted (os : Os) (started : os.Started) (H : Type) (enc : TypeId × Value → H) :
    ReturnsInHanded {} Try.checked os 3 .any (Rows.bloomMakesSpec.pre6 enc Try.prog Try.f3 Rows.bloomMakesRow.domain false) (Rows.bloomMakesSpec.post enc Try.prog Try.f3 false true false false) := by
  refine returnsInHanded_of_change_sized (C := Try.checked) ownM started (by kernel_rfl) Try.func3
    (ChangeSpec.witness6 (enc := enc) (C := Try.checked) false ⟨#[], #[.slice .none 0 0], []⟩ 8 (by kernel_rfl) (by kernel_rfl) (by kernel_rfl) (by kernel_rfl)) ?_
  intro W base args ds gs before hval0 hW hcnd hwt _
  have hval : ∀ (j : Nat) t v, Try.f3.params[j]? = some t → args[j]? = some v → Value.okWide Try.prog W .any base t v := hval0
  have hW' := hW
  obtain ⟨p, q, hA0, hV, rfl, hfz, hnd⟩ := hW
  have hA : DataW.TrodAll enc Try.prog W 0 (fun _ => true) true Try.f3.params.toList args.toList ds p := hA0
  have hwt' : (DataW.weightsEach Try.prog (Try.f3.params.toList ++ Rows.bloomMakesSpec.plain.varTypes Try.prog) (ds ++ gs)).all (· ≤ reachBytes) = true := hwt
  rw [Try.params3] at hA hval hwt'
  obtain ⟨v0, vs0, d0, ds0, p0, q0, hargs, rfl, rfl, h0, r0⟩ := trodAll_cons hA
  obtain ⟨rfl, rfl, rfl⟩ := trodAll_nil r0
  obtain rfl : args = #[v0] := Array.toList_inj.1 hargs
  obtain ⟨rfl, rfl⟩ := trodVars_none hV
  have k0 := h0
  obtain ⟨a, bt, ot, ct, L, rfl, x2, x3, x4⟩ := open_is (hval 0 22 v0 rfl rfl) h0
  clear hA0 hval0
  simp only [List.append_nil] at hW' hwt'
  have hw0 : (d0.weights Try.prog 22).all (· ≤ reachBytes) = true := by
    have h := hwt'
    simp only [DataW.weightsEach, List.cons_append] at h
    rw [List.all_append, Bool.and_eq_true] at h
    exact h.1
  have hlt : ∀ x ∈ p0, x.block < W.heap.size := fun x hx => by simpa using hW'.lt x (by simpa using hx)
  refine (makes_any (x4 hw0) x2 W x3).mono fun e W' ⟨he, hg⟩ => ?_
  subst he
  exact ⟨_, rfl, _, _, _, [], _, [], hW', trodAll_mk1 (shut_bool Try.underlying4 _), trodAll_mk1 (Below.trod laidOutM (by kernel_rfl) (of_decide_eq_true (by kernel_rfl)) k0 hg hlt), rfl, hg.frame _, fun h => by cases h⟩

theorem bloomMakes_holds : Rows.BloomMakesSaid :=
  OpenClaim.holds_of_wide 3 Try.f3 rfl rfl rfl rfl rfl rfl rfl ⟨rfl, rfl, rfl, rfl, rfl⟩ rfl rfl rfl rfl rfl (by kernel_rfl) Try.func3 (by kernel_rfl)
    (of_decide_eq_true (by kernel_rfl)) (by unfold Func.isWrapper; first | (rw [if_pos (by decide +kernel)]; kernel_rfl) | (rw [if_neg (by decide +kernel)]; exact ⟨rfl, rfl⟩))
    (fun os started H enc _ => bloomMakes_lifted os started H enc)
#print axioms bloomMakes_holds
end Go.Proofs.Ytndefnomefdhoaa

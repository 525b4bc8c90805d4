import Derived.Test.YtongiohdomacoaaAcO
/- AccessCounts: the statement. -/
namespace Go.Proofs.Ytongiohdomacoaa
open Go.ChangeShapes Go.WideShapes Go.ChangeAt Go.RowKit

theorem ownZ : ownKnob Try.prog.godebug = none := by kernel_rfl

set_option maxRecDepth 100000 in
theorem accessCounts_lifted (os : Os) (started : os.Started) (H : Type) (enc : TypeId × Value → H) :
    ReturnsInHanded {} Try.checked os 3 .any (Rows.accessCountsSpec.pre6 enc Try.prog Try.f3 Rows.accessCountsRow.domain false) (Rows.accessCountsSpec.post enc Try.prog Try.f3 false true false false) := by
  refine returnsInHanded_of_change_sized (C := Try.checked) ownZ started (by kernel_rfl) Try.func3
    (ChangeSpec.witness6 (enc := enc) (C := Try.checked) false ⟨#[], #[.slice .none 0 0, .agg (Array.replicate 20 (.int .u8 0)), .agg (Array.replicate 32 (.int .u8 0))], []⟩ 8 (by kernel_rfl) (by kernel_rfl) (by kernel_rfl) (by kernel_rfl)) ?_
  intro W base args ds gs before hval0 hW hcnd hwt _
  have hval : ∀ (j : Nat) t v, Try.f3.params[j]? = some t → args[j]? = some v → Value.okWide Try.prog W .any base t v := hval0
  have hW' := hW
  obtain ⟨p, q, hA0, hV, rfl, hfz, hnd⟩ := hW
  have hA : DataW.TrodAll enc Try.prog W 0 (fun _ => true) true Try.f3.params.toList args.toList ds p := hA0
  have hwt' : (DataW.weightsEach Try.prog (Try.f3.params.toList ++ Rows.accessCountsSpec.plain.varTypes Try.prog) (ds ++ gs)).all (· ≤ reachBytes) = true := hwt
  rw [Try.params3] at hA hval hwt'
  obtain ⟨v0, v1, v2, d0, d1, d2, p0, p1, p2, hargs, rfl, rfl, h0, h1, h2⟩ := trodAll_three hA
  subst hargs
  obtain ⟨rfl, rfl⟩ := trodVars_none hV
  have k0 := h0
  have hw0 : (d0.weights Try.prog 22).all (· ≤ reachBytes) = true := by
    have h := hwt'
    simp only [DataW.weightsEach, List.cons_append, List.nil_append] at h
    simp only [List.all_append, Bool.and_eq_true] at h
    exact h.1
  obtain ⟨a, b, o, c, L, V, rfl, x1, x2, x3, x4, x5⟩ := ac.open_ens (hval 0 22 v0 rfl rfl) h0 hw0
  obtain ⟨A, y1, y2, rfl, rfl, rfl⟩ := ac.open_ad (hval 1 24 v1 rfl rfl) h1
  obtain ⟨B, z1, z2, rfl, rfl, rfl⟩ := ac.open_ha (hval 2 26 v2 rfl rfl) h2
  clear hA0 hval0
  simp only [List.append_nil] at hW' hwt'
  have hlt : ∀ x ∈ p0, x.block < W.heap.size := fun x hx => by simpa using hW'.lt x (by simpa using hx)
  refine (acounts_any x5 x3 x4 x1 y1 z1 W x2).mono fun e W' ⟨he, hg⟩ => ?_
  subst he
  exact ⟨_, rfl, _, _, _, [], _, [], hW', trodAll_mk1 (shut_bool Try.underlying4 _), trodAll_mk3 (Below.trod ac.laidOut (by kernel_rfl) (of_decide_eq_true (by kernel_rfl)) k0 hg (fun x hx => hlt x hx)) (ac.shut_ad y1 y2) (ac.shut_ha z1 z2), rfl, hg.frame _, fun h => by cases h⟩

theorem accessCounts_holds : Rows.AccessCountsSaid :=
  OpenClaim.holds_of_wide 3 Try.f3 rfl rfl rfl rfl rfl rfl rfl ⟨rfl, rfl, rfl, rfl, rfl⟩ rfl rfl rfl rfl rfl (by kernel_rfl) Try.func3 (by kernel_rfl)
    (of_decide_eq_true (by kernel_rfl)) (by unfold Func.isWrapper; first | (rw [if_pos (by decide +kernel)]; kernel_rfl) | (rw [if_neg (by decide +kernel)]; exact ⟨rfl, rfl⟩))
    (fun os started H enc _ => accessCounts_lifted os started H enc)
#print axioms accessCounts_holds
end Go.Proofs.Ytongiohdomacoaa

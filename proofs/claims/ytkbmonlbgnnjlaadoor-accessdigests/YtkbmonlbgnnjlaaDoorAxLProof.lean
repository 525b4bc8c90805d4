import Derived.Test.YtkbmonlbgnnjlaaDoorAxO
import Derived.Test.YtkbmonlbgnnjlaaDoorAxR
import Derived.Test.YtkbmonlbgnnjlaaDoorKLaid
import Derived.JoinedCond
/- AccessDigests: the statement. -/
namespace Go.Proofs.YtkbmonlbgnnjlaaDoor.accessDigestsx
open Go.ChangeShapes Go.WideShapes Go.ChangeAt Go.RowKit

/-- An authorization of nothing. -/
def zAu : Value := .agg (List.replicate 4 (Value.int .u64 0) ++ (List.replicate 20 (Value.int .u8 0) ++ List.replicate 10 (Value.int .u64 0))).toArray
theorem wfb_bys {X : List Int} (h : hx.Wfb X) : Bys X := fun x hx => by
  have := h x hx
  simp [Lit.wf, IntKind.min, IntKind.max, IntKind.signed, IntKind.bits] at this
  exact ⟨by omega, by omega⟩
theorem tables {W : World} (h : laidMetH Tryd.prog Rows.accessDigestsRow.laid W) : KtC W ∧ RtC W := by
  have h0 : laidMet Tryd.prog Rows.accessDigestsRow.laid W := h
  have h1 := h0.tail
  have h2 := h1.tail
  have h3 := h2.tail
  exact ⟨⟨K.tab_of K.g_turns (Lib.tabIs_of_head K.g_turns K.t_turns Tryd.underlying96 Tryd.underlying3 K.cellsI K.cellsT h0), K.lns_of K.g_marks (Lib.tabIs_of_head K.g_marks K.t_marks Tryd.underlying91 Tryd.underlying22 K.Tryd.cellsW K.cells24 h1)⟩, ⟨K.tab_of K.g_rturns (Lib.tabIs_of_head K.g_rturns K.t_rturns Tryd.underlying96 Tryd.underlying3 K.cellsI K.cellsT h3), K.lns_of K.g_rounds (Lib.tabIs_of_head K.g_rounds K.t_rounds Tryd.underlying91 Tryd.underlying22 K.Tryd.cellsW K.cells24 h2)⟩⟩
set_option maxRecDepth 100000 in
theorem contract (H : Type) (enc : TypeId × Value → H) (W : World) (base : Nat) (args : Array Value) (ds gs : List (DataW H)) (before : List MemPlace)
    (hval : ∀ (j : Nat) t v, Tryd.f3.params[j]? = some t → args[j]? = some v → Value.okWide Tryd.prog W .any base t v)
    (hW : DataW.Whole enc Tryd.prog Tryd.f3.params.toList Rows.accessDigestsSpec.vars false W args.toList ds gs before) (hL : laidMetH Tryd.prog Rows.accessDigestsRow.laid W) :
    Calls Tryd.prog 3 args W fun e W' => ∃ v, e = .returned v ∧ Rows.accessDigestsSpec.post enc Tryd.prog Tryd.f3 false true false false W args v W' := by
  have hW' := hW
  obtain ⟨p, q, hA0, hV, rfl, hfz, hnd⟩ := hW
  have hA : DataW.TrodAll enc Tryd.prog W 0 (fun _ => true) true Tryd.f3.params.toList args.toList ds p := hA0
  rw [Tryd.params3] at hA hval
  obtain ⟨v0, vs0, d0, ds0, p0, q0, hargs0, rfl, rfl, h0, r0⟩ := trodAll_cons hA
  obtain ⟨rfl, rfl, rfl⟩ := trodAll_nil r0
  obtain rfl : args = #[v0] := Array.toList_inj.1 hargs0
  obtain ⟨rfl, rfl⟩ := trodVars_none hV
  have k0 := h0
  obtain ⟨c, A, n, pa, R, S, nc, lA, wA, wn, rfl⟩ := open_au (hval 0 28 v0 rfl rfl) h0
  clear hA0
  simp only [List.append_nil] at hW'
  have hlt : ∀ x ∈ p0, x.block < W.heap.size := fun x hx => by simpa using hW'.lt x (by simpa using hx)
  obtain ⟨hK, hR⟩ := tables hL
  refine (digests_any nc lA (wfb_bys wA) wn W hK hR).mono fun e W' ⟨he, hg⟩ => ?_
  subst he
  exact ⟨_, rfl, _, _, _, [], _, [], hW', trodAll_mk1 (shut_bool Tryd.underlying4 _), trodAll_mk1 (Below.trod tt.laidOut (by kernel_rfl) (of_decide_eq_true (by kernel_rfl)) k0 hg (fun x hx => hlt x hx)), rfl, hg.frame _, fun h => by cases h⟩

theorem laid_met (os : Os) : laidMet Tryd.prog Rows.accessDigestsRow.laid ((K.laidWorld os).forCall (fun _ _ => 0) ⟨#[], #[zAu], []⟩).memory :=
  laidMet_of_run' 8 (by kernel_rfl) (by kernel_rfl)
theorem reads (os : Os) {H : Type} (enc : TypeId × Value → H) : ∃ places, DataW.whole enc Tryd.prog ((K.laidWorld os).forCall (fun _ _ => 0) ⟨#[], #[zAu], []⟩).memory Tryd.f3.params.toList Rows.accessDigestsSpec.vars false #[zAu].toList 8 = some ([.agg [.agg [.lit (.int .u64 0), .lit (.int .u64 0), .lit (.int .u64 0), .lit (.int .u64 0)], .agg (List.replicate 20 (.lit (.int .u8 0))), .lit (.int .u64 0), .lit (.int .u64 0), .agg [.lit (.int .u64 0), .lit (.int .u64 0), .lit (.int .u64 0), .lit (.int .u64 0)], .agg [.lit (.int .u64 0), .lit (.int .u64 0), .lit (.int .u64 0), .lit (.int .u64 0)]]], [], places) :=
  ⟨[], by kernel_rfl⟩

set_option maxRecDepth 100000 in
theorem lifted (os : Os) (started : os.Started) (H : Type) (enc : TypeId × Value → H) (F : Stop.Interp) :
    ReturnsInHanded {} Tryd.checked os 3 .any ((OpenSpec.ofChange Rows.accessDigestsSpec).preRow enc Tryd.prog Tryd.f3 Rows.accessDigestsRow.domain false Rows.accessDigestsRow.laid) (((OpenSpec.ofChange Rows.accessDigestsSpec).at F).post enc Tryd.prog Tryd.f3 false true false false) := by
  obtain ⟨places, hx⟩ := reads os enc
  refine returnsInHanded_of_row (C := Tryd.checked) (s := OpenSpec.ofChange Rows.accessDigestsSpec) tt.ownT started (by kernel_rfl) Tryd.func3
    (witness_row_at (enc := enc) (C := Tryd.checked) false (K.laidWorld os) #[zAu] rfl (by kernel_rfl) (by kernel_rfl) (by kernel_rfl)
      (OpenSpec.preRow_of_cond 8 hx (by kernel_rfl) (fun k hk => by cases hk) (by kernel_rfl) (laid_met os))) ?_
  intro W base args ds gs before hval hW _ _ _ hL _ _
  exact contract H enc W base args ds gs before hval hW hL

theorem said : Rows.AccessDigestsSaid :=
  OpenClaim.holds_of_cond 3 Tryd.f3 rfl rfl rfl rfl rfl rfl rfl ⟨rfl, rfl, rfl, rfl, rfl⟩ rfl rfl rfl rfl rfl (by kernel_rfl) Tryd.func3 (by kernel_rfl)
    (of_decide_eq_true (by kernel_rfl)) (by unfold Func.isWrapper; first | (rw [if_pos (by decide +kernel)]; kernel_rfl) | (rw [if_neg (by decide +kernel)]; exact ⟨rfl, rfl⟩))
    (fun os started H enc _ F => by rw [OpenClaim.pre_eq_preRow]; exact lifted os started H enc F)

theorem plain (f : FuncId) (fn : Func) (hf : Tryd.pinned.checked.prog.funcNamed "waybill/waybilllaw14.AccessDigests" = some f) (hfn : Tryd.pinned.checked.prog.funcs[f]? = some fn) :
    false = Tryd.pinned.checked.prog.looks [] ∧ ∀ (j : Nat) t, fn.params[j]? = some t → Tryd.pinned.checked.prog.wantsStandIn t = false := by
  obtain rfl : f = 3 := Option.some.inj ((show Tryd.prog.funcNamed "waybill/waybilllaw14.AccessDigests" = some 3 by kernel_rfl).symm.trans hf) |>.symm
  obtain rfl : fn = Tryd.f3 := (Option.some.inj (Tryd.func3.symm.trans hfn)).symm
  refine ⟨by kernel_rfl, fun j t ht => ?_⟩
  rw [Tryd.params3] at ht
  obtain rfl : t = 28 := by simpa using Array.mem_of_getElem? ht
  exact (show Tryd.prog.wantsStandIn 28 = false by kernel_rfl)
end Go.Proofs.YtkbmonlbgnnjlaaDoor.accessDigestsx

namespace Go.Proofs.YtkbmonlbgnnjlaaDoor
theorem accessDigests_card : Rows.AccessDigestsCardSaid :=
  Claim7.holds_tied_plain_at .later [] _ _ _ _ accessDigestsx.said (fun _ h => by cases h) (by kernel_rfl) (fun _ h => by cases h) accessDigests_row_tie rfl ⟨rfl, rfl⟩ (by kernel_rfl) rfl accessDigestsx.plain (by kernel_rfl)
#print axioms accessDigests_card
end Go.Proofs.YtkbmonlbgnnjlaaDoor

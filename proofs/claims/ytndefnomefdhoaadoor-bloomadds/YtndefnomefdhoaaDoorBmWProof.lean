import Derived.Test.YtndefnomefdhoaaDoorBmW
import Derived.Test.YtndefnomefdhoaaDoorBmO
import Derived.Test.YtndefnomefdhoaaDoorKLaid
namespace Go.Proofs.YtndefnomefdhoaaDoor.bloomadds
open Go.ChangeShapes Go.WideShapes Go.ChangeAt Go.RowKit

theorem ownC : ownKnob Tryd.prog.godebug = none := by kernel_rfl
theorem tables {W : World} (h : laidMetH Tryd.prog Rows.bloomAddsRow.laid W) : KtB W ∧ RtB W := by
  have h0 : laidMet Tryd.prog Rows.bloomAddsRow.laid W := h
  have h1 := h0.tail
  have h2 := h1.tail
  have h3 := h2.tail
  exact ⟨⟨K.tab_of K.g_turns (Lib.tabIs_of_head K.g_turns K.t_turns Tryd.underlying75 Tryd.underlying3 K.cellsI K.cellsT h0), K.lns_of K.g_marks (Lib.tabIs_of_head K.g_marks K.t_marks Tryd.underlying70 Tryd.underlying57 K.Tryd.cellsW K.cells24 h1)⟩, ⟨K.tab_of K.g_rturns (Lib.tabIs_of_head K.g_rturns K.t_rturns Tryd.underlying75 Tryd.underlying3 K.cellsI K.cellsT h3), K.lns_of K.g_rounds (Lib.tabIs_of_head K.g_rounds K.t_rounds Tryd.underlying70 Tryd.underlying57 K.Tryd.cellsW K.cells24 h2)⟩⟩
set_option maxRecDepth 100000 in
theorem contract (H : Type) (enc : TypeId × Value → H) (W : World) (base : Nat) (args : Array Value) (ds gs : List (DataW H)) (before : List MemPlace)
    (hval : ∀ (j : Nat) t v, Tryd.f5.params[j]? = some t → args[j]? = some v → Value.okWide Tryd.prog W .any base t v)
    (hW : DataW.Whole enc Tryd.prog Tryd.f5.params.toList Rows.bloomAddsSpec.vars false W args.toList ds gs before)
    (hwt0 : (DataW.weightsEach Tryd.prog (Tryd.f5.params.toList ++ (OpenSpec.ofChange Rows.bloomAddsSpec).bare.plain.varTypes Tryd.prog) (ds ++ gs)).all (· ≤ reachBytes) = true) (hL : laidMetH Tryd.prog Rows.bloomAddsRow.laid W) :
    Calls Tryd.prog 5 args W fun e W' => ∃ v, e = .returned v ∧ Rows.bloomAddsSpec.post enc Tryd.prog Tryd.f5 false true false false W args v W' := by
  have hW' := hW
  obtain ⟨p, q, hA0, hV, rfl, hfz, hnd⟩ := hW
  have hA : DataW.TrodAll enc Tryd.prog W 0 (fun _ => true) true Tryd.f5.params.toList args.toList ds p := hA0
  rw [Tryd.params5] at hA hval hwt0
  obtain ⟨v0, v1, d0, d1, p0, p1, hargs, rfl, rfl, h0, h1⟩ := trodAll_two hA
  subst hargs
  obtain ⟨rfl, rfl⟩ := trodVars_none hV
  have hwt := hwt0
  have w0 : (d0.weights Tryd.prog 24).all (· ≤ reachBytes) = true := by
    have h := hwt
    simp only [DataW.weightsEach, List.cons_append, List.append_nil, List.nil_append] at h
    simp only [List.all_append, Bool.and_eq_true] at h
    exact h.1
  have w1 : (d1.weights Tryd.prog 28).all (· ≤ reachBytes) = true := by
    have h := hwt
    simp only [DataW.weightsEach, List.cons_append, List.append_nil, List.nil_append] at h
    simp only [List.all_append, Bool.and_eq_true] at h
    exact h.2.1
  have k0 := h0
  obtain ⟨F0, x01, rfl, rfl, rfl⟩ := bw.open_bloom (hval 0 24 v0 rfl rfl) h0
  have k1 := h1
  obtain ⟨pt1, rfl, x11, x12, x13⟩ := bw.open_one (hval 1 28 v1 rfl rfl) h1
  clear hA0
  simp only [List.append_nil] at hW'
  have hlt : ∀ x ∈ (p1), x.block < W.heap.size := fun x hx => by simpa using hW'.lt x (by simpa using hx)
  have tt := tables hL
  refine (adds_any (p := pt1) x01 (x13 w1) x12 W x11 tt).mono fun e W' ⟨he, hg⟩ => ?_
  subst he
  refine ⟨_, rfl, _, _, _, [], _, [], hW', trodAll_mk1 (shut_bool Tryd.underlying4 _), trodAll_mk2 (bw.shut_bloom x01) (Below.trod bw.laidOut (by kernel_rfl) (of_decide_eq_true (by kernel_rfl)) k1 hg (fun x hx => hlt x (by simp [hx]))), rfl, hg.frame _, fun h => by cases h⟩

theorem laid_met (os : Os) : laidMet Tryd.prog Rows.bloomAddsRow.laid ((K.laidWorld os).forCall (fun _ _ => 0) ⟨#[], #[.agg (Array.replicate 256 (.int .u8 0)), .slice .none 0 0], []⟩).memory :=
  laidMet_of_run' 8 (by kernel_rfl) (by kernel_rfl)
theorem reads (os : Os) {H : Type} (enc : TypeId × Value → H) : ∃ places, DataW.whole enc Tryd.prog ((K.laidWorld os).forCall (fun _ _ => 0) ⟨#[], #[.agg (Array.replicate 256 (.int .u8 0)), .slice .none 0 0], []⟩).memory Tryd.f5.params.toList Rows.bloomAddsSpec.vars false #[Value.agg (Array.replicate 256 (.int .u8 0)), Value.slice .none 0 0].toList 8 = some ([.agg (List.replicate 256 (.lit (.int .u8 0))), .nil], [], places) :=
  ⟨[], by kernel_rfl⟩

set_option maxRecDepth 100000 in
theorem lifted (os : Os) (started : os.Started) (H : Type) (enc : TypeId × Value → H) (F : Stop.Interp) :
    ReturnsInHanded {} Tryd.checked os 5 .any ((OpenSpec.ofChange Rows.bloomAddsSpec).preRow enc Tryd.prog Tryd.f5 Rows.bloomAddsRow.domain false Rows.bloomAddsRow.laid) (((OpenSpec.ofChange Rows.bloomAddsSpec).at F).post enc Tryd.prog Tryd.f5 false true false false) := by
  obtain ⟨places, hx⟩ := reads os enc
  refine returnsInHanded_of_row (C := Tryd.checked) (s := OpenSpec.ofChange Rows.bloomAddsSpec) ownC started (by kernel_rfl) Tryd.func5
    (witness_row_at (enc := enc) (C := Tryd.checked) false (K.laidWorld os) #[.agg (Array.replicate 256 (.int .u8 0)), .slice .none 0 0] rfl (by kernel_rfl) (by kernel_rfl) (by kernel_rfl)
      (OpenSpec.preRow_of_cond 8 hx (by kernel_rfl) (fun k hk => by cases hk) (by kernel_rfl) (laid_met os))) ?_
  intro W base args ds gs before hval hW _ _ hwt hL _ _
  exact contract H enc W base args ds gs before hval hW hwt hL

theorem said : Rows.BloomAddsSaid :=
  OpenClaim.holds_of_cond 5 Tryd.f5 rfl rfl rfl rfl rfl rfl rfl ⟨rfl, rfl, rfl, rfl, rfl⟩ rfl rfl rfl rfl rfl (by kernel_rfl) Tryd.func5 (by kernel_rfl)
    (of_decide_eq_true (by kernel_rfl)) (by unfold Func.isWrapper; first | (rw [if_pos (by decide +kernel)]; kernel_rfl) | (rw [if_neg (by decide +kernel)]; exact ⟨rfl, rfl⟩))
    (fun os started H enc _ F => by rw [OpenClaim.pre_eq_preRow]; exact lifted os started H enc F)

theorem plain (f : FuncId) (fn : Func) (hf : Tryd.pinned.checked.prog.funcNamed "waybill/waybilllaw10.BloomAdds" = some f) (hfn : Tryd.pinned.checked.prog.funcs[f]? = some fn) :
    false = Tryd.pinned.checked.prog.looks [] ∧ ∀ (j : Nat) t, fn.params[j]? = some t → Tryd.pinned.checked.prog.wantsStandIn t = false := by
  obtain rfl : f = 5 := Option.some.inj ((show Tryd.prog.funcNamed "waybill/waybilllaw10.BloomAdds" = some 5 by kernel_rfl).symm.trans hf) |>.symm
  obtain rfl : fn = Tryd.f5 := (Option.some.inj (Tryd.func5.symm.trans hfn)).symm
  refine ⟨by kernel_rfl, fun j t ht => ?_⟩
  rw [Tryd.params5] at ht
  have hm : t = 24 ∨ t = 28 := by simpa using Array.mem_of_getElem? ht
  rcases hm with rfl | rfl
  · exact (show Tryd.prog.wantsStandIn 24 = false by kernel_rfl)
  · exact (show Tryd.prog.wantsStandIn 28 = false by kernel_rfl)
end Go.Proofs.YtndefnomefdhoaaDoor.bloomadds

namespace Go.Proofs.YtndefnomefdhoaaDoor
theorem bloomAdds_card : Rows.BloomAddsCardSaid :=
  Claim7.holds_tied_plain_at .later [] _ _ _ _ bloomadds.said (fun _ h => by cases h) (by kernel_rfl) (fun _ h => by cases h) bloomAdds_row_tie rfl ⟨rfl, rfl⟩ (by kernel_rfl) rfl bloomadds.plain (by kernel_rfl)
#print axioms bloomAdds_card
end Go.Proofs.YtndefnomefdhoaaDoor

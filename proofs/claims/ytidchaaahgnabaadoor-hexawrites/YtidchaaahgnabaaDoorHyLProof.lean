import Derived.Test.YtidchaaahgnabaaDoorHyL
import Derived.Test.YtidchaaahgnabaaDoorHxO
import Derived.Test.YtidchaaahgnabaaDoorKLaid
import Derived.Test.YtidchaaahgnabaaDoorHyO
namespace Go.Proofs.YtidchaaahgnabaaDoor.hexawrites
open Go.ChangeShapes Go.WideShapes Go.ChangeAt Go.RowKit

theorem ownC : ownKnob Tryd.prog.godebug = none := by kernel_rfl
theorem tables {W : World} (h : laidMetH Tryd.prog Rows.hexaWritesRow.laid W) : (Tab W 4 turnsN ∧ Lns W 2 marksN) ∧ (Tab W 3 turnsN ∧ Lns W 0 marksN) := by
  have h0 : laidMet Tryd.prog Rows.hexaWritesRow.laid W := h
  have h1 := h0.tail
  have h2 := h1.tail
  have h3 := h2.tail
  exact ⟨⟨tab_of g_turns (Lib.tabIs_of_head g_turns t_turns Tryd.underlying113 Tryd.underlying3 cellsI cellsT h0), lns_of g_marks (Lib.tabIs_of_head g_marks t_marks Tryd.underlying108 Tryd.underlying32 Tryd.cellsW cells24 h1)⟩, ⟨tab_of g_rturns (Lib.tabIs_of_head g_rturns t_rturns Tryd.underlying113 Tryd.underlying3 cellsI cellsT h3), lns_of g_rounds (Lib.tabIs_of_head g_rounds t_rounds Tryd.underlying108 Tryd.underlying32 Tryd.cellsW cells24 h2)⟩⟩
set_option maxRecDepth 100000 in
theorem contract (H : Type) (enc : TypeId × Value → H) (W : World) (base : Nat) (args : Array Value) (ds gs : List (DataW H)) (before : List MemPlace)
    (hval : ∀ (j : Nat) t v, Tryd.f4.params[j]? = some t → args[j]? = some v → Value.okWide Tryd.prog W .any base t v)
    (hW : DataW.Whole enc Tryd.prog Tryd.f4.params.toList Rows.hexaWritesSpec.vars false W args.toList ds gs before)
    (hwt0 : (DataW.weightsEach Tryd.prog (Tryd.f4.params.toList ++ (OpenSpec.ofChange Rows.hexaWritesSpec).bare.plain.varTypes Tryd.prog) (ds ++ gs)).all (· ≤ reachBytes) = true) (hL : laidMetH Tryd.prog Rows.hexaWritesRow.laid W) :
    Calls Tryd.prog 4 args W fun e W' => ∃ v, e = .returned v ∧ Rows.hexaWritesSpec.post enc Tryd.prog Tryd.f4 false true false false W args v W' := by
  have hW' := hW
  obtain ⟨p, q, hA0, hV, rfl, hfz, hnd⟩ := hW
  have hA : DataW.TrodAll enc Tryd.prog W 0 (fun _ => true) true Tryd.f4.params.toList args.toList ds p := hA0
  rw [Tryd.params4] at hA hval hwt0
  obtain ⟨v0, v1, v2, v3, v4, d0, d1, d2, d3, d4, p0, p1, p2, p3, p4, hargs, rfl, rfl, h0, h1, h2, h3, h4⟩ := hn.trodAll_five hA
  subst hargs
  obtain ⟨rfl, rfl⟩ := trodVars_none hV
  have hwt := hwt0
  have k0 := h0
  have w0 : (d0.weights Tryd.prog 30).all (· ≤ reachBytes) = true := by
    have h := hwt
    simp only [DataW.weightsEach, List.cons_append, List.append_nil, List.nil_append] at h
    simp only [List.all_append, Bool.and_eq_true] at h
    first | exact h.1 | exact h
  obtain ⟨a0, b0, o0, c0, X0, rfl, z0, y0, B0, lc0, q0⟩ := hn.open_u8 (hval 0 30 v0 rfl rfl) h0
  have k1 := h1
  obtain ⟨x1, n1, rfl, rfl, rfl⟩ := hn.open_num (hval 1 34 v1 rfl rfl) h1
  have k2 := h2
  obtain ⟨n2, rfl, rfl, rfl, wk2⟩ := open_int Tryd.underlying32 (hval 2 32 v2 rfl rfl) h2
  have k3 := h3
  obtain ⟨A3, x31, x32, rfl, rfl, rfl⟩ := hx.open_ad (hval 3 23 v3 rfl rfl) h3
  have k4 := h4
  obtain ⟨A4, x41, x42, rfl, rfl, rfl⟩ := hx.open_ha (hval 4 36 v4 rfl rfl) h4
  clear hA0
  simp only [List.append_nil] at hW'
  have hlt : ∀ x ∈ p0, x.block < W.heap.size := fun x hx => by simpa using hW'.lt x (by simpa using hx)
  have tt := tables hL
  refine (hwrites_any (q0 w0) (fun i => B0.at i) z0 n1 (hn.word_of_wf wk2) x31 x32.low x41 x42.low W y0 tt.1.1 tt.1.2 tt.2.1 tt.2.2).mono fun e W' ⟨he, hg⟩ => ?_
  subst he
  refine ⟨_, rfl, _, _, _, [], _, [], hW', trodAll_mk1 (shut_bool Tryd.underlying4 _), hn.trodAll_mk5 (Below.trod hn.laidOutM (by kernel_rfl) (of_decide_eq_true (by kernel_rfl)) k0 hg (fun x hx => hlt x (by simp [hx]))) (hn.shut_num x1) (shut_int Tryd.underlying32 wk2) (hx.shut_ad x31 x32) (hx.shut_ha x41 x42), rfl, hg.frame _, fun h => by cases h⟩

theorem laid_met (os : Os) : laidMet Tryd.prog Rows.hexaWritesRow.laid ((laidWorld os).forCall (fun _ _ => 0) ⟨#[], #[.slice .none 0 0, .agg #[.int .u64 0, .int .u64 0, .int .u64 0, .int .u64 0], .int .u64 0, .agg (Array.replicate 20 (.int .u8 0)), .agg (Array.replicate 32 (.int .u8 0))], []⟩).memory :=
  laidMet_of_run' 8 (by kernel_rfl) (by kernel_rfl)
theorem reads (os : Os) {H : Type} (enc : TypeId × Value → H) : ∃ places, DataW.whole enc Tryd.prog ((laidWorld os).forCall (fun _ _ => 0) ⟨#[], #[.slice .none 0 0, .agg #[.int .u64 0, .int .u64 0, .int .u64 0, .int .u64 0], .int .u64 0, .agg (Array.replicate 20 (.int .u8 0)), .agg (Array.replicate 32 (.int .u8 0))], []⟩).memory Tryd.f4.params.toList Rows.hexaWritesSpec.vars false #[Value.slice .none 0 0, Value.agg #[.int .u64 0, .int .u64 0, .int .u64 0, .int .u64 0], Value.int .u64 0, Value.agg (Array.replicate 20 (.int .u8 0)), Value.agg (Array.replicate 32 (.int .u8 0))].toList 8 = some ([.nil, .agg [.lit (.int .u64 0), .lit (.int .u64 0), .lit (.int .u64 0), .lit (.int .u64 0)], .lit (.int .u64 0), .agg (List.replicate 20 (.lit (.int .u8 0))), .agg (List.replicate 32 (.lit (.int .u8 0)))], [], places) :=
  ⟨[], by kernel_rfl⟩

set_option maxRecDepth 100000 in
theorem lifted (os : Os) (started : os.Started) (H : Type) (enc : TypeId × Value → H) (F : Stop.Interp) :
    ReturnsInHanded {} Tryd.checked os 4 .any ((OpenSpec.ofChange Rows.hexaWritesSpec).preRow enc Tryd.prog Tryd.f4 Rows.hexaWritesRow.domain false Rows.hexaWritesRow.laid) (((OpenSpec.ofChange Rows.hexaWritesSpec).at F).post enc Tryd.prog Tryd.f4 false true false false) := by
  obtain ⟨places, hx⟩ := reads os enc
  refine returnsInHanded_of_row (C := Tryd.checked) (s := OpenSpec.ofChange Rows.hexaWritesSpec) ownC started (by kernel_rfl) Tryd.func4
    (witness_row_at (enc := enc) (C := Tryd.checked) false (laidWorld os) #[.slice .none 0 0, .agg #[.int .u64 0, .int .u64 0, .int .u64 0, .int .u64 0], .int .u64 0, .agg (Array.replicate 20 (.int .u8 0)), .agg (Array.replicate 32 (.int .u8 0))] rfl (by kernel_rfl) (by kernel_rfl) (by kernel_rfl)
      (OpenSpec.preRow_of_cond 8 hx (by kernel_rfl) (fun k hk => by cases hk) (by kernel_rfl) (laid_met os))) ?_
  intro W base args ds gs before hval hW _ _ hwt hL _ _
  exact contract H enc W base args ds gs before hval hW hwt hL

theorem said : Rows.HexaWritesSaid :=
  OpenClaim.holds_of_cond 4 Tryd.f4 rfl rfl rfl rfl rfl rfl rfl ⟨rfl, rfl, rfl, rfl, rfl⟩ rfl rfl rfl rfl rfl (by kernel_rfl) Tryd.func4 (by kernel_rfl)
    (of_decide_eq_true (by kernel_rfl)) (by unfold Func.isWrapper; first | (rw [if_pos (by decide +kernel)]; kernel_rfl) | (rw [if_neg (by decide +kernel)]; exact ⟨rfl, rfl⟩))
    (fun os started H enc _ F => by rw [OpenClaim.pre_eq_preRow]; exact lifted os started H enc F)

theorem plain (f : FuncId) (fn : Func) (hf : Tryd.pinned.checked.prog.funcNamed "waybill/waybilllaw08.HexaWrites" = some f) (hfn : Tryd.pinned.checked.prog.funcs[f]? = some fn) :
    false = Tryd.pinned.checked.prog.looks [] ∧ ∀ (j : Nat) t, fn.params[j]? = some t → Tryd.pinned.checked.prog.wantsStandIn t = false := by
  obtain rfl : f = 4 := Option.some.inj ((show Tryd.prog.funcNamed "waybill/waybilllaw08.HexaWrites" = some 4 by kernel_rfl).symm.trans hf) |>.symm
  obtain rfl : fn = Tryd.f4 := (Option.some.inj (Tryd.func4.symm.trans hfn)).symm
  refine ⟨by kernel_rfl, fun j t ht => ?_⟩
  rw [Tryd.params4] at ht
  have hm : t = 30 ∨ t = 34 ∨ t = 32 ∨ t = 23 ∨ t = 36 := by simpa using Array.mem_of_getElem? ht
  rcases hm with rfl | rfl | rfl | rfl | rfl
  · exact (show Tryd.prog.wantsStandIn 30 = false by kernel_rfl)
  · exact (show Tryd.prog.wantsStandIn 34 = false by kernel_rfl)
  · exact (show Tryd.prog.wantsStandIn 32 = false by kernel_rfl)
  · exact (show Tryd.prog.wantsStandIn 23 = false by kernel_rfl)
  · exact (show Tryd.prog.wantsStandIn 36 = false by kernel_rfl)
end Go.Proofs.YtidchaaahgnabaaDoor.hexawrites

namespace Go.Proofs.YtidchaaahgnabaaDoor
theorem hexaWrites_card : Rows.HexaWritesCardSaid :=
  Claim7.holds_tied_plain_at .later [] _ _ _ _ hexawrites.said (fun _ h => by cases h) (by kernel_rfl) (fun _ h => by cases h) hexaWrites_row_tie rfl ⟨rfl, rfl⟩ (by kernel_rfl) rfl hexawrites.plain (by kernel_rfl)
#print axioms hexaWrites_card
end Go.Proofs.YtidchaaahgnabaaDoor

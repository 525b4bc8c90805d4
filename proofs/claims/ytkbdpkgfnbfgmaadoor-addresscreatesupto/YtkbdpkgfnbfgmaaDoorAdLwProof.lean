import Derived.Test.YtkbdpkgfnbfgmaaDoorAdO
import Derived.Test.YtkbdpkgfnbfgmaaDoorAdLw
import Derived.Test.YtkbdpkgfnbfgmaaDoorKLaid
import Derived.JoinedCond
/- AddressCreates: the statement, second form. -/
namespace Go.Proofs.YtkbdpkgfnbfgmaaDoor.addressCreatesu
open Go.ChangeShapes Go.WideShapes Go.ChangeAt Go.RowKit

theorem wfb_bys {X : List Int} (h : hx.Wfb X) : Bys X := fun x hx => by
  have := h x hx
  simp [Lit.wf, IntKind.min, IntKind.max, IntKind.signed, IntKind.bits] at this
  exact ⟨by omega, by omega⟩
theorem wf_word {x : Int} (h : (Lit.int .u64 x).wf = true) : Word x := by
  simp [Lit.wf, IntKind.min, IntKind.max, IntKind.signed, IntKind.bits] at h
  exact ⟨by omega, by omega⟩
theorem tables {W : World} (h : laidMetH Tryd.prog Rows.addressCreatesUptoRow.laid W) : KtC W ∧ RtC W := by
  have h0 : laidMet Tryd.prog Rows.addressCreatesUptoRow.laid W := h
  have h1 := h0.tail
  have h2 := h1.tail
  have h3 := h2.tail
  exact ⟨⟨K.tab_of K.g_turns (Lib.tabIs_of_head K.g_turns K.t_turns Tryd.underlying100 Tryd.underlying3 K.cellsI K.cellsT h0), K.lns_of K.g_marks (Lib.tabIs_of_head K.g_marks K.t_marks Tryd.underlying94 Tryd.underlying24 K.Tryd.cellsW K.cells24 h1)⟩, ⟨K.tab_of K.g_rturns (Lib.tabIs_of_head K.g_rturns K.t_rturns Tryd.underlying100 Tryd.underlying3 K.cellsI K.cellsT h3), K.lns_of K.g_rounds (Lib.tabIs_of_head K.g_rounds K.t_rounds Tryd.underlying94 Tryd.underlying24 K.Tryd.cellsW K.cells24 h2)⟩⟩
set_option maxRecDepth 100000 in
theorem contract (H : Type) (enc : TypeId × Value → H) (W : World) (base : Nat) (args : Array Value) (ds gs : List (DataW H)) (before : List MemPlace)
    (hval : ∀ (j : Nat) t v, Tryd.f3.params[j]? = some t → args[j]? = some v → Value.okWide Tryd.prog W .any base t v)
    (hW : DataW.Whole enc Tryd.prog Tryd.f3.params.toList Rows.addressCreatesSpec.vars false W args.toList ds gs before) (hk : Rows.uptoSmall H (ds ++ gs) = true) (hL : laidMetH Tryd.prog Rows.addressCreatesUptoRow.laid W) :
    Calls Tryd.prog 3 args W fun e W' => ∃ v, e = .returned v ∧ Rows.addressCreatesSpec.post enc Tryd.prog Tryd.f3 false true false false W args v W' := by
  have hW' := hW
  obtain ⟨p, q, hA0, hV, rfl, hfz, hnd⟩ := hW
  have hA : DataW.TrodAll enc Tryd.prog W 0 (fun _ => true) true Tryd.f3.params.toList args.toList ds p := hA0
  rw [Tryd.params3] at hA hval
  obtain ⟨v0, vs0, d0, ds0, p0, q0, hargs0, rfl, rfl, h0, r0⟩ := trodAll_cons hA
  obtain ⟨v1, vs1, d1, ds1, p1, q1, hargs1, rfl, rfl, h1, r1⟩ := trodAll_cons r0
  subst hargs1
  obtain ⟨v2, vs2, d2, ds2, p2, q2, hargs2, rfl, rfl, h2, r2⟩ := trodAll_cons r1
  subst hargs2
  obtain ⟨v3, vs3, d3, ds3, p3, q3, hargs3, rfl, rfl, h3, r3⟩ := trodAll_cons r2
  subst hargs3
  obtain ⟨rfl, rfl, rfl⟩ := trodAll_nil r3
  obtain rfl : args = #[v0, v1, v2, v3] := Array.toList_inj.1 hargs0
  obtain ⟨rfl, rfl⟩ := trodVars_none hV
  have k0 := h0
  obtain ⟨A0, x01, x02, rfl, rfl, rfl⟩ := hx.open_ad (hval 0 23 v0 rfl rfl) h0
  have k1 := h1
  obtain ⟨n1, rfl, rfl, rfl, wk1⟩ := open_int Tryd.underlying24 (hval 1 24 v1 rfl rfl) h1
  have k2 := h2
  obtain ⟨A2, x21, x22, rfl, rfl, rfl⟩ := hx.open_ha (hval 2 26 v2 rfl rfl) h2
  have k3 := h3
  obtain ⟨a3, b3, o3, c3, X3, rfl, C3, A3z, Z3, Y3, Wb3⟩ := tt.open_bytes (hval 3 27 v3 rfl rfl) h3
  clear hA0
  simp only [List.append_nil, List.nil_append] at hW' hk
  have hb := of_decide_eq_true hk
  simp only [Rows.uptoBulkAll] at hb
  have hlt : ∀ x ∈ (p3), x.block < W.heap.size := fun x hx => by simpa using hW'.lt x (by simpa using hx)
  obtain ⟨hK, hR⟩ := tables hL
  refine (creates_any x01 (wfb_bys x02) (wf_word wk1) x21 (wfb_bys x22) (by omega) C3.2 W ⟨A3z, C3.1, Y3, Z3⟩ hK hR).mono fun e W' ⟨he, hg⟩ => ?_
  subst he
  exact ⟨_, rfl, _, _, _, [], _, [], hW', trodAll_mk1 (shut_bool Tryd.underlying4 _), trodAll_mk4 (hx.shut_ad x01 x02) (shut_int Tryd.underlying24 wk1) (hx.shut_ha x21 x22) (Below.trod tt.laidOut (by kernel_rfl) (of_decide_eq_true (by kernel_rfl)) k3 hg (fun x hx => hlt x (by simp [hx]))), rfl, hg.frame _, fun h => by cases h⟩

theorem laid_met (os : Os) : laidMet Tryd.prog Rows.addressCreatesUptoRow.laid ((K.laidWorld os).forCall (fun _ _ => 0) ⟨#[], #[.agg (Array.replicate 20 (.int .u8 0)), .int .u64 0, .agg (Array.replicate 32 (.int .u8 0)), .slice .none 0 0], []⟩).memory :=
  laidMet_of_run' 8 (by kernel_rfl) (by kernel_rfl)
theorem reads (os : Os) {H : Type} (enc : TypeId × Value → H) : ∃ places, DataW.whole enc Tryd.prog ((K.laidWorld os).forCall (fun _ _ => 0) ⟨#[], #[.agg (Array.replicate 20 (.int .u8 0)), .int .u64 0, .agg (Array.replicate 32 (.int .u8 0)), .slice .none 0 0], []⟩).memory Tryd.f3.params.toList Rows.addressCreatesSpec.vars false #[Value.agg (Array.replicate 20 (.int .u8 0)), Value.int .u64 0, Value.agg (Array.replicate 32 (.int .u8 0)), Value.slice .none 0 0].toList 8 = some ([.agg (List.replicate 20 (.lit (.int .u8 0))), .lit (.int .u64 0), .agg (List.replicate 32 (.lit (.int .u8 0))), .nil], [], places) :=
  ⟨[], by kernel_rfl⟩

set_option maxRecDepth 100000 in
theorem lifted (os : Os) (started : os.Started) (H : Type) (enc : TypeId × Value → H) (F : Stop.Interp) :
    ReturnsInHanded {} Tryd.checked os 3 .any ((Rows.OpenSpec.upto Rows.addressCreatesSpec).preRow enc Tryd.prog Tryd.f3 Rows.addressCreatesUptoRow.domain false Rows.addressCreatesUptoRow.laid) (((Rows.OpenSpec.upto Rows.addressCreatesSpec).at F).post enc Tryd.prog Tryd.f3 false true false false) := by
  obtain ⟨places, hx⟩ := reads os enc
  refine returnsInHanded_of_row (C := Tryd.checked) (s := Rows.OpenSpec.upto Rows.addressCreatesSpec) tt.ownT started (by kernel_rfl) Tryd.func3
    (witness_row_at (enc := enc) (C := Tryd.checked) false (K.laidWorld os) #[.agg (Array.replicate 20 (.int .u8 0)), .int .u64 0, .agg (Array.replicate 32 (.int .u8 0)), .slice .none 0 0] rfl (by kernel_rfl) (by kernel_rfl) (by kernel_rfl)
      (OpenSpec.preRow_of_cond 8 hx (by kernel_rfl) (fun k hk => by cases hk; kernel_rfl) (by kernel_rfl) (laid_met os))) ?_
  intro W base args ds gs before hval hW _ hcond _ hL _ _
  exact contract H enc W base args ds gs before hval hW (hcond _ rfl) hL

theorem said : Rows.AddressCreatesUptoSaid :=
  OpenClaim.holds_of_cond 3 Tryd.f3 rfl rfl rfl rfl rfl rfl rfl ⟨rfl, rfl, rfl, rfl, rfl⟩ rfl rfl rfl rfl rfl (by kernel_rfl) Tryd.func3 (by kernel_rfl)
    (of_decide_eq_true (by kernel_rfl)) (by unfold Func.isWrapper; first | (rw [if_pos (by decide +kernel)]; kernel_rfl) | (rw [if_neg (by decide +kernel)]; exact ⟨rfl, rfl⟩))
    (fun os started H enc _ F => by rw [OpenClaim.pre_eq_preRow]; exact lifted os started H enc F)

theorem plain (f : FuncId) (fn : Func) (hf : Tryd.pinned.checked.prog.funcNamed "waybill/waybilllaw09.AddressCreates" = some f) (hfn : Tryd.pinned.checked.prog.funcs[f]? = some fn) :
    false = Tryd.pinned.checked.prog.looks [] ∧ ∀ (j : Nat) t, fn.params[j]? = some t → Tryd.pinned.checked.prog.wantsStandIn t = false := by
  obtain rfl : f = 3 := Option.some.inj ((show Tryd.prog.funcNamed "waybill/waybilllaw09.AddressCreates" = some 3 by kernel_rfl).symm.trans hf) |>.symm
  obtain rfl : fn = Tryd.f3 := (Option.some.inj (Tryd.func3.symm.trans hfn)).symm
  refine ⟨by kernel_rfl, fun j t ht => ?_⟩
  rw [Tryd.params3] at ht
  have hm : t = 23 ∨ t = 24 ∨ t = 26 ∨ t = 27 := by simpa using Array.mem_of_getElem? ht
  rcases hm with rfl | rfl | rfl | rfl
  · exact (show Tryd.prog.wantsStandIn 23 = false by kernel_rfl)
  · exact (show Tryd.prog.wantsStandIn 24 = false by kernel_rfl)
  · exact (show Tryd.prog.wantsStandIn 26 = false by kernel_rfl)
  · exact (show Tryd.prog.wantsStandIn 27 = false by kernel_rfl)
end Go.Proofs.YtkbdpkgfnbfgmaaDoor.addressCreatesu

namespace Go.Proofs.YtkbdpkgfnbfgmaaDoor
theorem addressCreatesUpto_card : Rows.AddressCreatesUptoCardSaid :=
  Claim7.holds_tied_plain_at .later [] _ _ _ _ addressCreatesu.said (fun _ h => by cases h) (by kernel_rfl) (fun _ h => by cases h) addressCreatesUpto_row_tie rfl ⟨rfl, rfl⟩ (by kernel_rfl) rfl addressCreatesu.plain (by kernel_rfl)
#print axioms addressCreatesUpto_card
end Go.Proofs.YtkbdpkgfnbfgmaaDoor

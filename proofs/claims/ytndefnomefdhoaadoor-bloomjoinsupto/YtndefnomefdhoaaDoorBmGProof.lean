import Derived.Test.YtndefnomefdhoaaDoorBmG
import Derived.Test.YtndefnomefdhoaaDoorBmO
import Derived.Test.YtndefnomefdhoaaDoorSOpenBB
import Derived.Test.YtndefnomefdhoaaDoorKLaid
namespace Go.Proofs.YtndefnomefdhoaaDoor.bloomjoins
open Go.ChangeShapes Go.WideShapes Go.ChangeAt Go.RowKit

theorem catX_part {PS : List Part} {p : Part} (hp : p ∈ PS) : p.X.length ≤ (catX PS).length := by
  rw [catX]
  obtain ⟨l1, l2, rfl⟩ := List.append_of_mem hp
  simp
  omega
theorem ownC : ownKnob Tryd.prog.godebug = none := by kernel_rfl
theorem tables {W : World} (h : laidMetH Tryd.prog Rows.bloomJoinsUptoRow.laid W) : KtB W := by
  have h0 : laidMet Tryd.prog Rows.bloomJoinsUptoRow.laid W := h
  have h1 := h0.tail
  exact ⟨K.tab_of K.g_turns (Lib.tabIs_of_head K.g_turns K.t_turns Tryd.underlying75 Tryd.underlying3 K.cellsI K.cellsT h0), K.lns_of K.g_marks (Lib.tabIs_of_head K.g_marks K.t_marks Tryd.underlying70 Tryd.underlying57 K.Tryd.cellsW K.cells24 h1)⟩
set_option maxRecDepth 100000 in
theorem contract (H : Type) (enc : TypeId × Value → H) (W : World) (base : Nat) (args : Array Value) (ds gs : List (DataW H)) (before : List MemPlace)
    (hval : ∀ (j : Nat) t v, Tryd.f4.params[j]? = some t → args[j]? = some v → Value.okWide Tryd.prog W .any base t v)
    (hW : DataW.Whole enc Tryd.prog Tryd.f4.params.toList Rows.bloomJoinsSpec.vars false W args.toList ds gs before)
    (hk : Rows.uptoSmall H (ds ++ gs) = true) (hL : laidMetH Tryd.prog Rows.bloomJoinsUptoRow.laid W) :
    Calls Tryd.prog 4 args W fun e W' => ∃ v, e = .returned v ∧ Rows.bloomJoinsSpec.post enc Tryd.prog Tryd.f4 false true false false W args v W' := by
  have hW' := hW
  obtain ⟨p, q, hA0, hV, rfl, hfz, hnd⟩ := hW
  have hA : DataW.TrodAll enc Tryd.prog W 0 (fun _ => true) true Tryd.f4.params.toList args.toList ds p := hA0
  rw [Tryd.params4] at hA hval
  obtain ⟨v0, v1, d0, d1, p0, p1, hargs, rfl, rfl, h0, h1⟩ := trodAll_two hA
  subst hargs
  obtain ⟨rfl, rfl⟩ := trodVars_none hV
  have hb : Rows.uptoBulkAll ([d0, d1] ++ ([] : List (DataW H))) ≤ 1048576 := of_decide_eq_true hk
  simp only [List.append_nil, Rows.uptoBulkAll] at hb
  have k0 := h0
  obtain ⟨a0, bp0, op0, cp0, PS0, rfl, x01, x02, x03, x04⟩ := bb.open_bb (hval 0 22 v0 rfl rfl) h0
  have k1 := h1
  obtain ⟨a1, bp1, op1, cp1, PS1, rfl, x11, x12, x13, x14⟩ := bb.open_bb (hval 1 22 v1 rfl rfl) h1
  clear hA0
  simp only [List.append_nil] at hW'
  have hlt : ∀ x ∈ (p0 ++ p1), x.block < W.heap.size := fun x hx => by simpa using hW'.lt x (by simpa using hx)
  have tt := tables hL
  refine (joins_any (fun p hp => by have := catX_part hp; omega) (fun p hp => by have := catX_part hp; omega) (by omega) (by omega) x01 x11 W x03 x13 tt).mono fun e W' ⟨he, hg⟩ => ?_
  subst he
  refine ⟨_, rfl, _, _, _, [], _, [], hW', trodAll_mk1 (shut_bool Tryd.underlying4 _), trodAll_mk2 (Below.trod bw.laidOut (by kernel_rfl) (of_decide_eq_true (by kernel_rfl)) k0 hg (fun x hx => hlt x (by simp [hx]))) (Below.trod bw.laidOut (by kernel_rfl) (of_decide_eq_true (by kernel_rfl)) k1 hg (fun x hx => hlt x (by simp [hx]))), rfl, hg.frame _, fun h => by cases h⟩

theorem laid_met (os : Os) : laidMet Tryd.prog Rows.bloomJoinsUptoRow.laid ((K.laidWorld os).forCall (fun _ _ => 0) ⟨#[], #[.slice .none 0 0, .slice .none 0 0], []⟩).memory :=
  laidMet_of_run' 8 (by kernel_rfl) (by kernel_rfl)
theorem reads (os : Os) {H : Type} (enc : TypeId × Value → H) : ∃ places, DataW.whole enc Tryd.prog ((K.laidWorld os).forCall (fun _ _ => 0) ⟨#[], #[.slice .none 0 0, .slice .none 0 0], []⟩).memory Tryd.f4.params.toList Rows.bloomJoinsSpec.vars false #[Value.slice .none 0 0, Value.slice .none 0 0].toList 8 = some ([.nil, .nil], [], places) :=
  ⟨[], by kernel_rfl⟩

set_option maxRecDepth 100000 in
theorem lifted (os : Os) (started : os.Started) (H : Type) (enc : TypeId × Value → H) (F : Stop.Interp) :
    ReturnsInHanded {} Tryd.checked os 4 .any ((Rows.OpenSpec.upto Rows.bloomJoinsSpec).preRow enc Tryd.prog Tryd.f4 Rows.bloomJoinsUptoRow.domain false Rows.bloomJoinsUptoRow.laid) (((Rows.OpenSpec.upto Rows.bloomJoinsSpec).at F).post enc Tryd.prog Tryd.f4 false true false false) := by
  obtain ⟨places, hx⟩ := reads os enc
  refine returnsInHanded_of_row (C := Tryd.checked) (s := Rows.OpenSpec.upto Rows.bloomJoinsSpec) ownC started (by kernel_rfl) Tryd.func4
    (witness_row_at (enc := enc) (C := Tryd.checked) false (K.laidWorld os) #[.slice .none 0 0, .slice .none 0 0] rfl (by kernel_rfl) (by kernel_rfl) (by kernel_rfl)
      (OpenSpec.preRow_of_cond 8 hx (by kernel_rfl) (fun k hk => by cases hk; kernel_rfl) (by kernel_rfl) (laid_met os))) ?_
  intro W base args ds gs before hval hW _ hcond _ hL _ _
  exact contract H enc W base args ds gs before hval hW (hcond _ rfl) hL

theorem said : Rows.BloomJoinsUptoSaid :=
  OpenClaim.holds_of_cond 4 Tryd.f4 rfl rfl rfl rfl rfl rfl rfl ⟨rfl, rfl, rfl, rfl, rfl⟩ rfl rfl rfl rfl rfl (by kernel_rfl) Tryd.func4 (by kernel_rfl)
    (of_decide_eq_true (by kernel_rfl)) (by unfold Func.isWrapper; first | (rw [if_pos (by decide +kernel)]; kernel_rfl) | (rw [if_neg (by decide +kernel)]; exact ⟨rfl, rfl⟩))
    (fun os started H enc _ F => by rw [OpenClaim.pre_eq_preRow]; exact lifted os started H enc F)

theorem plain (f : FuncId) (fn : Func) (hf : Tryd.pinned.checked.prog.funcNamed "waybill/waybilllaw10.BloomJoins" = some f) (hfn : Tryd.pinned.checked.prog.funcs[f]? = some fn) :
    false = Tryd.pinned.checked.prog.looks [] ∧ ∀ (j : Nat) t, fn.params[j]? = some t → Tryd.pinned.checked.prog.wantsStandIn t = false := by
  obtain rfl : f = 4 := Option.some.inj ((show Tryd.prog.funcNamed "waybill/waybilllaw10.BloomJoins" = some 4 by kernel_rfl).symm.trans hf) |>.symm
  obtain rfl : fn = Tryd.f4 := (Option.some.inj (Tryd.func4.symm.trans hfn)).symm
  refine ⟨by kernel_rfl, fun j t ht => ?_⟩
  rw [Tryd.params4] at ht
  have hm : t = 22 ∨ t = 22 := by simpa using Array.mem_of_getElem? ht
  rcases hm with rfl | rfl
  · exact (show Tryd.prog.wantsStandIn 22 = false by kernel_rfl)
  · exact (show Tryd.prog.wantsStandIn 22 = false by kernel_rfl)
end Go.Proofs.YtndefnomefdhoaaDoor.bloomjoins

namespace Go.Proofs.YtndefnomefdhoaaDoor
theorem bloomJoinsUpto_card : Rows.BloomJoinsUptoCardSaid :=
  Claim7.holds_tied_plain_at .later [] _ _ _ _ bloomjoins.said (fun _ h => by cases h) (by kernel_rfl) (fun _ h => by cases h) bloomJoinsUpto_row_tie rfl ⟨rfl, rfl⟩ (by kernel_rfl) rfl bloomjoins.plain (by kernel_rfl)
#print axioms bloomJoinsUpto_card
end Go.Proofs.YtndefnomefdhoaaDoor

import Derived.Test.YtcjabligkeaafaaDoorRbD
import Derived.Test.YtcjabligkeaafaaDoorCards
import Derived.Test.YtcjabligkeaafaaDoorKOpen
import Derived.Test.YtcjabligkeaafaaDoorRbO
import Derived.Test.YtcjabligkeaafaaDoorTie
import Derived.WalkKit
import Derived.ProofKit
import Derived.OpenShut
import Derived.Deep.DeepHandedRow
import Derived.Lib.LaidTab
import Derived.Stop.LaidErr
import Derived.JoinedCond
/- ReceiptBlooms: the statement, second form. -/
namespace Go.Proofs.YtcjabligkeaafaaDoor.receiptBloomsu
open Go.ChangeShapes Go.WideShapes Go.ChangeAt Go.RowKit
open tq
theorem tables {W : World} (h : laidMetH Tryd.prog Rows.receiptBloomsUptoRow.laid W) : S.KtB W := by
  have h0 : laidMet Tryd.prog Rows.receiptBloomsUptoRow.laid W := h
  have h1 := h0.tail
  exact ⟨K.tab_of K.g_turns (Lib.tabIs_of_head K.g_turns K.t_turns Tryd.underlying75 Tryd.underlying3 K.cellsI K.cellsT h0), K.lns_of K.g_marks (Lib.tabIs_of_head K.g_marks K.t_marks Tryd.underlying70 Tryd.underlying57 K.Tryd.cellsW K.cells24 h1)⟩
theorem sum_len {α : Type} {wt : α → Nat} (h : ∀ x, 1 ≤ wt x) : ∀ L : List α, L.length ≤ sumW wt L
  | [] => Nat.zero_le _
  | x :: L => by have := h x; have := sum_len h L; rw [sumW, List.length_cons]; omega
theorem sum_at {α : Type} {wt : α → Nat} (z : α) : ∀ (L : List α) (i : Nat), i < L.length → wt (L.getD i z) ≤ sumW wt L
  | [], i, h => absurd h (Nat.not_lt_zero _)
  | x :: L, 0, _ => by rw [sumW]; exact Nat.le_add_right _ _
  | x :: L, i + 1, h => by have := sum_at (wt := wt) z L i (by simpa using h); rw [sumW]; have e : (x :: L).getD (i + 1) z = L.getD i z := rfl; rw [e]; omega
theorem lg_bound {ls : List Lg} (h : sumW lgW ls ≤ 1048576) : ls.length ≤ 1048576 ∧ ∀ i, i < ls.length → (ls.getD i zLg).Tl.length < 1000000000 ∧ (ls.getD i zLg).Dl.length < 1000000000 := by
  have h1 := sum_len (wt := lgW) (fun e => by unfold lgW; omega) ls
  refine ⟨by omega, fun i hi => ?_⟩
  have h2 := sum_at (wt := lgW) zLg ls i hi
  have h3 := sum_len (wt := fun X : List Int => X.length + 1) (fun X => by omega) (ls.getD i zLg).Tl
  have h4 : 22 + sumW (fun X : List Int => X.length + 1) (ls.getD i zLg).Tl + (ls.getD i zLg).Dl.length ≤ sumW lgW ls := h2
  omega
set_option maxRecDepth 100000 in
theorem contract (H : Type) (enc : TypeId × Value → H) (W : World) (base : Nat) (args : Array Value) (ds gs : List (DataW H)) (before : List MemPlace)
    (hval : ∀ (j : Nat) t v, Tryd.f3.params[j]? = some t → args[j]? = some v → Value.okWide Tryd.prog W .any base t v)
    (hW : DataW.Whole enc Tryd.prog Tryd.f3.params.toList Rows.receiptBloomsSpec.vars false W args.toList ds gs before) (hk : Rows.uptoSmall H (ds ++ gs) = true) (hL : laidMetH Tryd.prog Rows.receiptBloomsUptoRow.laid W) :
    Calls Tryd.prog 3 args W fun e W' => ∃ v, e = .returned v ∧ Rows.receiptBloomsSpec.post enc Tryd.prog Tryd.f3 false true false false W args v W' := by
  have hW' := hW
  obtain ⟨p, q, hA0, hV, rfl, hfz, hnd⟩ := hW
  have hA : DataW.TrodAll enc Tryd.prog W 0 (fun _ => true) true Tryd.f3.params.toList args.toList ds p := hA0
  rw [Tryd.params3] at hA hval
  obtain ⟨v0, vs0, d0, ds0, p0, q0, hargs0, rfl, rfl, h0, r0⟩ := trodAll_cons hA
  obtain ⟨v1, vs1, d1, ds1, p1, q1, hargs1, rfl, rfl, h1, r1⟩ := trodAll_cons r0
  subst hargs1
  obtain ⟨v2, vs2, d2, ds2, p2, q2, hargs2, rfl, rfl, h2, r2⟩ := trodAll_cons r1
  subst hargs2
  obtain ⟨rfl, rfl, rfl⟩ := trodAll_nil r2
  obtain rfl : args = #[v0, v1, v2] := Array.toList_inj.1 hargs0
  obtain ⟨rfl, rfl⟩ := trodVars_none hV
  have k0 := h0
  obtain ⟨a0, b0, o0, c0, L0, rfl, g0, w0⟩ := open_lgs (hval 0 22 v0 rfl rfl) h0
  have k1 := h1
  obtain ⟨X1, g1, rfl⟩ := open_adR (hval 1 24 v1 rfl rfl) h1
  have k2 := h2
  obtain ⟨X2, g2, rfl⟩ := open_haR (hval 2 26 v2 rfl rfl) h2
  clear hA0
  simp only [List.append_nil] at hW' hk
  have hb := of_decide_eq_true hk
  simp only [Rows.uptoBulkAll] at hb
  have hlt : ∀ x ∈ (p0 ++ p1 ++ p2), x.block < W.heap.size := fun x hx => by simpa using hW'.lt x (by simpa using hx)
  have hK := tables hL
  refine (receiptBlooms_any (by have := lg_bound (ls := L0) (by omega); omega) (fun i hi => ((lg_bound (ls := L0) (by omega)).2 i hi).1) g1 g2 W g0 (fun i hi => ((lg_bound (ls := L0) (by omega)).2 i hi).2) hK).mono fun e W' ⟨he, hg⟩ => ?_
  subst he
  exact ⟨_, rfl, _, _, _, [], _, [], hW', trodAll_mk1 (shut_bool Tryd.underlying4 _), trodAll_mk3 (Below.trod laidOut (by kernel_rfl) (of_decide_eq_true (by kernel_rfl)) k0 hg (fun x hx => hlt x (by simp [hx]))) (Below.trod laidOut (by kernel_rfl) (of_decide_eq_true (by kernel_rfl)) k1 hg (fun x hx => hlt x (by simp [hx]))) (Below.trod laidOut (by kernel_rfl) (of_decide_eq_true (by kernel_rfl)) k2 hg (fun x hx => hlt x (by simp [hx]))), rfl, hg.frame _, fun h => by cases h⟩
/-- A block's cells put anew. -/
def layT (cs : Array Value) : Obj → Obj
  | .cells _ t frozen => .cells cs t frozen
  | o => o
noncomputable def laidWorldT (os : Os) : World :=
  { World.holding Tryd.prog os ⟨#[], #[], []⟩ with heap := (((World.holding Tryd.prog os ⟨#[], #[], []⟩).heap.modify 1 (layT #[.int .i64 0, .int .i64 1, .int .i64 62, .int .i64 28, .int .i64 27, .int .i64 36, .int .i64 44, .int .i64 6, .int .i64 55, .int .i64 20, .int .i64 3, .int .i64 10, .int .i64 43, .int .i64 25, .int .i64 39, .int .i64 41, .int .i64 45, .int .i64 15, .int .i64 21, .int .i64 8, .int .i64 18, .int .i64 2, .int .i64 61, .int .i64 56, .int .i64 14])).modify 0 (layT #[.int .u64 1, .int .u64 32898, .int .u64 9223372036854808714, .int .u64 9223372039002292224, .int .u64 32907, .int .u64 2147483649, .int .u64 9223372039002292353, .int .u64 9223372036854808585, .int .u64 138, .int .u64 136, .int .u64 2147516425, .int .u64 2147483658, .int .u64 2147516555, .int .u64 9223372036854775947, .int .u64 9223372036854808713, .int .u64 9223372036854808579, .int .u64 9223372036854808578, .int .u64 9223372036854775936, .int .u64 32778, .int .u64 9223372039002259466, .int .u64 9223372039002292353, .int .u64 9223372036854808704, .int .u64 2147483649, .int .u64 9223372039002292232])) }
theorem laid_met (os : Os) : laidMet Tryd.prog Rows.receiptBloomsUptoRow.laid ((laidWorldT os).forCall (fun _ _ => 0) ⟨#[], #[.slice .none 0 0, .agg (Array.replicate 20 (.int .u8 0)), .agg (Array.replicate 32 (.int .u8 0))], []⟩).memory :=
  laidMet_of_run' 8 (by kernel_rfl) (by kernel_rfl)
theorem reads (os : Os) {H : Type} (enc : TypeId × Value → H) : ∃ places, DataW.whole enc Tryd.prog ((laidWorldT os).forCall (fun _ _ => 0) ⟨#[], #[.slice .none 0 0, .agg (Array.replicate 20 (.int .u8 0)), .agg (Array.replicate 32 (.int .u8 0))], []⟩).memory Tryd.f3.params.toList Rows.receiptBloomsSpec.vars false #[Value.slice .none 0 0, Value.agg (Array.replicate 20 (.int .u8 0)), Value.agg (Array.replicate 32 (.int .u8 0))].toList 8 = some ([.nil, .agg (List.replicate 20 (.lit (.int .u8 0))), .agg (List.replicate 32 (.lit (.int .u8 0)))], [], places) :=
  ⟨[], by kernel_rfl⟩

set_option maxRecDepth 100000 in
theorem lifted (os : Os) (started : os.Started) (H : Type) (enc : TypeId × Value → H) (F : Stop.Interp) :
    ReturnsInHanded {} Tryd.checked os 3 .any ((Rows.OpenSpec.upto Rows.receiptBloomsSpec).preRow enc Tryd.prog Tryd.f3 Rows.receiptBloomsUptoRow.domain false Rows.receiptBloomsUptoRow.laid) (((Rows.OpenSpec.upto Rows.receiptBloomsSpec).at F).post enc Tryd.prog Tryd.f3 false true false false) := by
  obtain ⟨places, hx⟩ := reads os enc
  refine returnsInHanded_of_row (C := Tryd.checked) (s := Rows.OpenSpec.upto Rows.receiptBloomsSpec) ownT started (by kernel_rfl) Tryd.func3
    (witness_row_at (enc := enc) (C := Tryd.checked) false (laidWorldT os) #[.slice .none 0 0, .agg (Array.replicate 20 (.int .u8 0)), .agg (Array.replicate 32 (.int .u8 0))] rfl (by kernel_rfl) (by kernel_rfl) (by kernel_rfl)
      (OpenSpec.preRow_of_cond 8 hx (by kernel_rfl) (fun k hk => by cases hk; kernel_rfl) (by kernel_rfl) (laid_met os))) ?_
  intro W base args ds gs before hval hW _ hcond _ hL _ _
  exact contract H enc W base args ds gs before hval hW (hcond _ rfl) hL

theorem said : Rows.ReceiptBloomsUptoSaid :=
  OpenClaim.holds_of_cond 3 Tryd.f3 rfl rfl rfl rfl rfl rfl rfl ⟨rfl, rfl, rfl, rfl, rfl⟩ rfl rfl rfl rfl rfl (by kernel_rfl) Tryd.func3 (by kernel_rfl)
    (of_decide_eq_true (by kernel_rfl)) (by unfold Func.isWrapper; first | (rw [if_pos (by decide +kernel)]; kernel_rfl) | (rw [if_neg (by decide +kernel)]; exact ⟨rfl, rfl⟩))
    (fun os started H enc _ F => by rw [OpenClaim.pre_eq_preRow]; exact lifted os started H enc F)

theorem plain (f : FuncId) (fn : Func) (hf : Tryd.pinned.checked.prog.funcNamed "waybill/waybilllaw17.ReceiptBlooms" = some f) (hfn : Tryd.pinned.checked.prog.funcs[f]? = some fn) :
    false = Tryd.pinned.checked.prog.looks [] ∧ ∀ (j : Nat) t, fn.params[j]? = some t → Tryd.pinned.checked.prog.wantsStandIn t = false := by
  obtain rfl : f = 3 := Option.some.inj ((show Tryd.prog.funcNamed "waybill/waybilllaw17.ReceiptBlooms" = some 3 by kernel_rfl).symm.trans hf) |>.symm
  obtain rfl : fn = Tryd.f3 := (Option.some.inj (Tryd.func3.symm.trans hfn)).symm
  refine ⟨by kernel_rfl, fun j t ht => ?_⟩
  rw [Tryd.params3] at ht
  have hm : t = 22 ∨ t = 24 ∨ t = 26 := by simpa using Array.mem_of_getElem? ht
  rcases hm with rfl | rfl | rfl
  · exact (show Tryd.prog.wantsStandIn 22 = false by kernel_rfl)
  · exact (show Tryd.prog.wantsStandIn 24 = false by kernel_rfl)
  · exact (show Tryd.prog.wantsStandIn 26 = false by kernel_rfl)
end Go.Proofs.YtcjabligkeaafaaDoor.receiptBloomsu

namespace Go.Proofs.YtcjabligkeaafaaDoor
theorem receiptBloomsUpto_card : Rows.ReceiptBloomsUptoCardSaid :=
  Claim7.holds_tied_plain_at .later [] _ _ _ _ receiptBloomsu.said (fun _ h => by cases h) (by kernel_rfl) (fun _ h => by cases h) receiptBloomsUpto_row_tie rfl ⟨rfl, rfl⟩ (by kernel_rfl) rfl receiptBloomsu.plain (by kernel_rfl)
#print axioms receiptBloomsUpto_card
end Go.Proofs.YtcjabligkeaafaaDoor

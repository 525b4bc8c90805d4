import Derived.Test.YtllfmlgnemkklaaDoorFgK
import Derived.Test.YtllfmlgnemkklaaDoorFgI
import Derived.Test.YtllfmlgnemkklaaDoorFxG
import Derived.Test.YtllfmlgnemkklaaDoorOpen
import Derived.Test.YtllfmlgnemkklaaDoorCards
import Derived.Test.YtllfmlgnemkklaaDoorTie
import Derived.WalkKit
import Derived.ProofKit
import Derived.OpenShut
import Derived.Deep.DeepHandedRow
import Derived.Lib.LaidTab
import Derived.Stop.LaidErr
import Derived.JoinedCond
import Derived.Deep.DeepWitnessRowRef
/- FeesAdds: the statement, second form. -/
namespace Go.Proofs.YtllfmlgnemkklaaDoor.feesAddsu
open Go.ChangeShapes Go.WideShapes Go.ChangeAt Go.RowKit
open tq
theorem mk_of {W : World} {name : String} {g : Nat} {X : List Int} (hg : Tryd.prog.globalNamed name = some g) (h : Lib.TabIs Tryd.prog W name .u8 X) : W.rangeAt g 0 (hC X) := fun j v hv => by
  unfold hC at hv
  rw [List.getElem?_map] at hv
  obtain ⟨x, hx, rfl⟩ := Option.map_eq_some_iff.1 hv
  have hj : j < X.length := (List.getElem?_eq_some_iff.1 hx).1
  have := h.cell hg j hj
  rw [Nat.zero_add]
  simpa [List.getD, hx] using this
theorem g_h : Tryd.prog.globalNamed "waybill/waybillplay.markHash" = some 1 := by kernel_rfl
theorem g_a : Tryd.prog.globalNamed "waybill/waybillplay.markAddress" = some 0 := by kernel_rfl
theorem t_h : (Tryd.prog.globals[1]?).map (·.type) = some 67 := by kernel_rfl
theorem t_a : (Tryd.prog.globals[0]?).map (·.type) = some 26 := by kernel_rfl
theorem tables {W : World} (h : laidMetH Tryd.prog Rows.feesAddsUptoRow.laid W) : Rws W ∧ MkH W ∧ MkA W := by
  have h0 : laidMet Tryd.prog Rows.feesAddsUptoRow.laid W := h
  have h1 := h0.tail
  have h2 := h1.tail
  obtain ⟨ps, hl, _, _⟩ := h0
  exact ⟨rws_of hl, mk_of g_h (Lib.tabIs_of_head (zs := mkHs) g_h t_h Tryd.underlying67 Tryd.underlying5 cells5 cells_haN h1), mk_of g_a (Lib.tabIs_of_head (zs := mkAd) g_a t_a Tryd.underlying26 Tryd.underlying5 cells5 cells_adN h2)⟩
theorem sum_len {α : Type} {wt : α → Nat} (h : ∀ x, 1 ≤ wt x) : ∀ L : List α, L.length ≤ sumW wt L
  | [] => Nat.zero_le _
  | x :: L => by have := h x; have := sum_len h L; rw [sumW, List.length_cons]; omega
theorem sum_at {α : Type} {wt : α → Nat} (z : α) : ∀ (L : List α) (i : Nat), i < L.length → wt (L.getD i z) ≤ sumW wt L
  | [], i, h => absurd h (Nat.not_lt_zero _)
  | x :: L, 0, _ => by rw [sumW]; exact Nat.le_add_right _ _
  | x :: L, i + 1, h => by have := sum_at (wt := wt) z L i (by simpa using h); rw [sumW]; have e : (x :: L).getD (i + 1) z = L.getD i z := rfl; rw [e]; omega
theorem bound {t : Txv} (h : txW t ≤ 1048576) : BdTF t := by
  unfold txW at h
  have h1 := sum_len (wt := enW) (fun e => by unfold enW; omega) t.El
  have h2 := sum_len (wt := fun X : List Int => X.length + 1) (fun X => by omega) t.Hsl
  have h3 := sum_len (wt := fun _ : Aun => 1) (fun _ => Nat.le_refl _) t.Ul
  refine ⟨by omega, by omega, by omega, by omega, fun i hi => ?_⟩
  have h4 := sum_at (wt := enW) zEn t.El i hi
  have h5 := sum_len (wt := fun X : List Int => X.length + 1) (fun X => by omega) (t.El.getD i zEn).ks
  have h6 : 23 + sumW (fun X : List Int => X.length + 1) (t.El.getD i zEn).ks ≤ sumW enW t.El := h4
  omega
set_option maxRecDepth 100000 in
theorem contract (H : Type) (enc : TypeId × Value → H) (W : World) (base : Nat) (args : Array Value) (ds gs : List (DataW H)) (before : List MemPlace)
    (hval : ∀ (j : Nat) t v, Tryd.f3.params[j]? = some t → args[j]? = some v → Value.okWide Tryd.prog W .any base t v)
    (hW : DataW.Whole enc Tryd.prog Tryd.f3.params.toList Rows.feesAddsSpec.vars false W args.toList ds gs before) (hk : Rows.uptoSmall H (ds ++ gs) = true) (hL : laidMetH Tryd.prog Rows.feesAddsUptoRow.laid W) :
    Calls Tryd.prog 3 args W fun e W' => ∃ v, e = .returned v ∧ Rows.feesAddsSpec.post enc Tryd.prog Tryd.f3 false true false false W args v W' := by
  have hW' := hW
  obtain ⟨p, q, hA0, hV, rfl, hfz, hnd⟩ := hW
  have hA : DataW.TrodAll enc Tryd.prog W 0 (fun _ => true) true Tryd.f3.params.toList args.toList ds p := hA0
  rw [Tryd.params3] at hA hval
  obtain ⟨v0, vs0, d0, ds0, p0, q0, hargs0, rfl, rfl, h0, r0⟩ := trodAll_cons hA
  obtain ⟨v1, vs1, d1, ds1, p1, q1, hargs1, rfl, rfl, h1, r1⟩ := trodAll_cons r0
  subst hargs1
  obtain ⟨v2, vs2, d2, ds2, p2, q2, hargs2, rfl, rfl, h2, r2⟩ := trodAll_cons r1
  subst hargs2
  obtain ⟨rfl, rfl, rfl⟩ := trodAll_nil r2
  obtain rfl : args = #[v0, v1, v2] := Array.toList_inj.1 hargs0
  obtain ⟨rfl, rfl⟩ := trodVars_none hV
  have k0 := h0
  obtain ⟨t0, g0, rfl, w0⟩ := open_tx (hval 0 32 v0 rfl rfl) h0
  have k1 := h1
  obtain ⟨a1, b1, o1, c1, X1, rfl, g1, w1⟩ := open_bt (hval 1 27 v1 rfl rfl) h1
  have k2 := h2
  obtain ⟨a2, b2, o2, c2, L2, rfl, g2, w2⟩ := open_ks (hval 2 29 v2 rfl rfl) h2
  clear hA0
  simp only [List.append_nil] at hW' hk
  have hb := of_decide_eq_true hk
  simp only [Rows.uptoBulkAll] at hb
  have hlt : ∀ x ∈ (p0 ++ p1 ++ p2), x.block < W.heap.size := fun x hx => by simpa using hW'.lt x (by simpa using hx)
  obtain ⟨hR, hH, hA1⟩ := tables hL
  refine (feesAdds_any (bound (by omega)) (bdG_of (by omega)) (bdL_of (by omega)).1 (bdL_of (by omega)).2 (by omega) (ksL_of (by omega)) W hH hA1 hR g0 g1 g2).mono fun e W' ⟨he, hg⟩ => ?_
  subst he
  exact ⟨_, rfl, _, _, _, [], _, [], hW', trodAll_mk1 (shut_bool Tryd.underlying4 _), trodAll_mk3 (Below.trod laidOut (by kernel_rfl) (of_decide_eq_true (by kernel_rfl)) k0 hg (fun x hx => hlt x (by simp [hx]))) (Below.trod laidOut (by kernel_rfl) (of_decide_eq_true (by kernel_rfl)) k1 hg (fun x hx => hlt x (by simp [hx]))) (Below.trod laidOut (by kernel_rfl) (of_decide_eq_true (by kernel_rfl)) k2 hg (fun x hx => hlt x (by simp [hx]))), rfl, hg.frame _, fun h => by cases h⟩
def zTx : Value := .agg (([Value.int .i64 0] : List Value) ++ (List.replicate 15 (Value.int .u64 0) ++ ([Value.bool false] ++ (List.replicate 20 (Value.int .u8 0) ++ (List.replicate 4 (Value.int .u64 0) ++ ([Value.slice .none 0 0, Value.slice .none 0 0] ++ (List.replicate 4 (Value.int .u64 0) ++ ([Value.slice .none 0 0, Value.slice .none 0 0] ++ List.replicate 12 (Value.int .u64 0))))))))).toArray
def dTx {H : Type} : DataW H := .agg [.lit (.int .i64 0), .lit (.int .u64 0), .lit (.int .u64 0), .agg (List.replicate 4 (.lit (.int .u64 0))), .agg (List.replicate 4 (.lit (.int .u64 0))), .agg (List.replicate 4 (.lit (.int .u64 0))), .lit (.int .u64 0), .lit (.bool false), .agg (List.replicate 20 (.lit (.int .u8 0))), .agg (List.replicate 4 (.lit (.int .u64 0))), .nil, .nil, .agg (List.replicate 4 (.lit (.int .u64 0))), .nil, .nil, .agg (List.replicate 4 (.lit (.int .u64 0))), .agg (List.replicate 4 (.lit (.int .u64 0))), .agg (List.replicate 4 (.lit (.int .u64 0)))]
/-- A block's cells put anew. -/
def layT (cs : Array Value) : Obj → Obj
  | .cells _ t frozen => .cells cs t frozen
  | o => o
noncomputable def laidWorldT (os : Os) : World :=
  { World.holding Tryd.prog os ⟨#[.cells #[.int .i64 1, .int .i64 2, .int .i64 5, .int .i64 6, .int .i64 7, .int .i64 8, .int .i64 13, .int .i64 14, .int .i64 15] 62, .cells #[.int .i64 0, .int .i64 1, .int .i64 2, .int .i64 5, .int .i64 6, .int .i64 7, .int .i64 8, .int .i64 9, .int .i64 13, .int .i64 14, .int .i64 15] 62, .cells #[.int .i64 0, .int .i64 1, .int .i64 3, .int .i64 4, .int .i64 5, .int .i64 6, .int .i64 7, .int .i64 8, .int .i64 9, .int .i64 13, .int .i64 14, .int .i64 15] 62, .cells #[.int .i64 0, .int .i64 1, .int .i64 3, .int .i64 4, .int .i64 5, .int .i64 6, .int .i64 7, .int .i64 8, .int .i64 9, .int .i64 10, .int .i64 11, .int .i64 13, .int .i64 14, .int .i64 15] 62, .cells #[.int .i64 0, .int .i64 1, .int .i64 3, .int .i64 4, .int .i64 5, .int .i64 6, .int .i64 7, .int .i64 8, .int .i64 9, .int .i64 12, .int .i64 13, .int .i64 14, .int .i64 15] 62], #[], []⟩ with heap := ((((World.holding Tryd.prog os ⟨#[.cells #[.int .i64 1, .int .i64 2, .int .i64 5, .int .i64 6, .int .i64 7, .int .i64 8, .int .i64 13, .int .i64 14, .int .i64 15] 62, .cells #[.int .i64 0, .int .i64 1, .int .i64 2, .int .i64 5, .int .i64 6, .int .i64 7, .int .i64 8, .int .i64 9, .int .i64 13, .int .i64 14, .int .i64 15] 62, .cells #[.int .i64 0, .int .i64 1, .int .i64 3, .int .i64 4, .int .i64 5, .int .i64 6, .int .i64 7, .int .i64 8, .int .i64 9, .int .i64 13, .int .i64 14, .int .i64 15] 62, .cells #[.int .i64 0, .int .i64 1, .int .i64 3, .int .i64 4, .int .i64 5, .int .i64 6, .int .i64 7, .int .i64 8, .int .i64 9, .int .i64 10, .int .i64 11, .int .i64 13, .int .i64 14, .int .i64 15] 62, .cells #[.int .i64 0, .int .i64 1, .int .i64 3, .int .i64 4, .int .i64 5, .int .i64 6, .int .i64 7, .int .i64 8, .int .i64 9, .int .i64 12, .int .i64 13, .int .i64 14, .int .i64 15] 62], #[], []⟩).heap.modify 2 (layT #[.slice (some ⟨(World.settled Tryd.prog os).heap.size + 0, 0, none⟩) 9 9, .slice (some ⟨(World.settled Tryd.prog os).heap.size + 1, 0, none⟩) 11 11, .slice (some ⟨(World.settled Tryd.prog os).heap.size + 2, 0, none⟩) 12 12, .slice (some ⟨(World.settled Tryd.prog os).heap.size + 3, 0, none⟩) 14 14, .slice (some ⟨(World.settled Tryd.prog os).heap.size + 4, 0, none⟩) 13 13])).modify 1 (layT #[.int .u8 165, .int .u8 90, .int .u8 0, .int .u8 0, .int .u8 0, .int .u8 0, .int .u8 0, .int .u8 0, .int .u8 0, .int .u8 0, .int .u8 0, .int .u8 0, .int .u8 0, .int .u8 0, .int .u8 0, .int .u8 0, .int .u8 0, .int .u8 0, .int .u8 0, .int .u8 0, .int .u8 0, .int .u8 0, .int .u8 0, .int .u8 0, .int .u8 0, .int .u8 0, .int .u8 0, .int .u8 0, .int .u8 0, .int .u8 0, .int .u8 0, .int .u8 0])).modify 0 (layT #[.int .u8 165, .int .u8 90, .int .u8 0, .int .u8 0, .int .u8 0, .int .u8 0, .int .u8 0, .int .u8 0, .int .u8 0, .int .u8 0, .int .u8 0, .int .u8 0, .int .u8 0, .int .u8 0, .int .u8 0, .int .u8 0, .int .u8 0, .int .u8 0, .int .u8 0, .int .u8 0])) }
theorem laid_met (os : Os) : laidMet Tryd.prog Rows.feesAddsUptoRow.laid ((laidWorldT os).forCall (fun _ _ => 0) ⟨#[], #[zTx, .slice .none 0 0, .slice .none 0 0], []⟩).memory :=
  laidMet_of_run' 8 (by kernel_rfl) (by kernel_rfl)
theorem reads (os : Os) {H : Type} (enc : TypeId × Value → H) : ∃ places, DataW.whole enc Tryd.prog ((laidWorldT os).forCall (fun _ _ => 0) ⟨#[], #[zTx, .slice .none 0 0, .slice .none 0 0], []⟩).memory Tryd.f3.params.toList Rows.feesAddsSpec.vars false #[zTx, Value.slice .none 0 0, Value.slice .none 0 0].toList 8 = some ([dTx, .nil, .nil], [], places) :=
  ⟨[], by kernel_rfl⟩

set_option maxRecDepth 100000 in
theorem lifted (os : Os) (started : os.Started) (H : Type) (enc : TypeId × Value → H) (F : Stop.Interp) :
    ReturnsInHanded {} Tryd.checked os 3 .any ((Rows.OpenSpec.upto Rows.feesAddsSpec).preRow enc Tryd.prog Tryd.f3 Rows.feesAddsUptoRow.domain false Rows.feesAddsUptoRow.laid) (((Rows.OpenSpec.upto Rows.feesAddsSpec).at F).post enc Tryd.prog Tryd.f3 false true false false) := by
  obtain ⟨places, hx⟩ := reads os enc
  refine returnsInHanded_of_row (C := Tryd.checked) (s := Rows.OpenSpec.upto Rows.feesAddsSpec) ownT started (by kernel_rfl) Tryd.func3
    (witness_row_atRef (enc := enc) (C := Tryd.checked) false (laidWorldT os) #[zTx, .slice .none 0 0, .slice .none 0 0] rfl (by kernel_rfl) (by kernel_rfl) (by kernel_rfl)
      (OpenSpec.preRow_of_cond 8 hx (by kernel_rfl) (fun k hk => by cases hk; kernel_rfl) (by kernel_rfl) (laid_met os))) ?_
  intro W base args ds gs before hval hW _ hcond _ hL _ _
  exact contract H enc W base args ds gs before hval hW (hcond _ rfl) hL

theorem said : Rows.FeesAddsUptoSaid :=
  OpenClaim.holds_of_cond 3 Tryd.f3 rfl rfl rfl rfl rfl rfl rfl ⟨rfl, rfl, rfl, rfl, rfl⟩ rfl rfl rfl rfl rfl (by kernel_rfl) Tryd.func3 (by kernel_rfl)
    (of_decide_eq_true (by kernel_rfl)) (by unfold Func.isWrapper; first | (rw [if_pos (by decide +kernel)]; kernel_rfl) | (rw [if_neg (by decide +kernel)]; exact ⟨rfl, rfl⟩))
    (fun os started H enc _ F => by rw [OpenClaim.pre_eq_preRow]; exact lifted os started H enc F)

theorem plain (f : FuncId) (fn : Func) (hf : Tryd.pinned.checked.prog.funcNamed "waybill/waybilllaw18.FeesAdds" = some f) (hfn : Tryd.pinned.checked.prog.funcs[f]? = some fn) :
    false = Tryd.pinned.checked.prog.looks [] ∧ ∀ (j : Nat) t, fn.params[j]? = some t → Tryd.pinned.checked.prog.wantsStandIn t = false := by
  obtain rfl : f = 3 := Option.some.inj ((show Tryd.prog.funcNamed "waybill/waybilllaw18.FeesAdds" = some 3 by kernel_rfl).symm.trans hf) |>.symm
  obtain rfl : fn = Tryd.f3 := (Option.some.inj (Tryd.func3.symm.trans hfn)).symm
  refine ⟨by kernel_rfl, fun j t ht => ?_⟩
  rw [Tryd.params3] at ht
  have hm : t = 32 ∨ t = 27 ∨ t = 29 := by simpa using Array.mem_of_getElem? ht
  rcases hm with rfl | rfl | rfl
  · exact (show Tryd.prog.wantsStandIn 32 = false by kernel_rfl)
  · exact (show Tryd.prog.wantsStandIn 27 = false by kernel_rfl)
  · exact (show Tryd.prog.wantsStandIn 29 = false by kernel_rfl)
end Go.Proofs.YtllfmlgnemkklaaDoor.feesAddsu

namespace Go.Proofs.YtllfmlgnemkklaaDoor
theorem feesAddsUpto_card : Rows.FeesAddsUptoCardSaid :=
  Claim7.holds_tied_plain_at .later [] _ _ _ _ feesAddsu.said (fun _ h => by cases h) (by kernel_rfl) (fun _ h => by cases h) feesAddsUpto_row_tie rfl ⟨rfl, rfl⟩ (by kernel_rfl) rfl feesAddsu.plain (by kernel_rfl)
#print axioms feesAddsUpto_card
end Go.Proofs.YtllfmlgnemkklaaDoor

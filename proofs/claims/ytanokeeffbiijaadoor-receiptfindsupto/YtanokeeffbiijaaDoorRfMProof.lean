import Derived.Test.YtanokeeffbiijaaDoorRfM
import Derived.Test.YtanokeeffbiijaaDoorCards
import Derived.Test.YtanokeeffbiijaaDoorTie
import Derived.WalkKit
import Derived.ProofKit
import Derived.OpenShut
import Derived.Deep.DeepHandedRow
import Derived.Lib.LaidTab
import Derived.Stop.LaidErr
import Derived.JoinedCond
/- ReceiptFinds: the statement, second form. -/
namespace Go.Proofs.YtanokeeffbiijaaDoor.receiptFindsu
open Go.ChangeShapes Go.WideShapes Go.ChangeAt Go.RowKit
open tq
theorem mk_of {W : World} {name : String} {g : Nat} {X : List Int} (hg : Tryd.prog.globalNamed name = some g) (h : Lib.TabIs Tryd.prog W name .u8 X) : W.rangeAt g 0 (hC X) := fun j v hv => by
  unfold hC at hv
  rw [List.getElem?_map] at hv
  obtain ⟨x, hx, rfl⟩ := Option.map_eq_some_iff.1 hv
  have hj : j < X.length := (List.getElem?_eq_some_iff.1 hx).1
  have := h.cell hg j hj
  rw [Nat.zero_add]
  simpa [List.getD, hx] using this
theorem g_h : Tryd.prog.globalNamed "waybill/waybillplay.markHash" = some 1 := by kernel_rfl
theorem g_a : Tryd.prog.globalNamed "waybill/waybillplay.markAddress" = some 0 := by kernel_rfl
theorem t_h : (Tryd.prog.globals[1]?).map (·.type) = some 30 := by kernel_rfl
theorem t_a : (Tryd.prog.globals[0]?).map (·.type) = some 38 := by kernel_rfl
theorem tables {W : World} (h : laidMetH Tryd.prog Rows.receiptFindsUptoRow.laid W) : MkH W ∧ MkA W := by
  have h0 : laidMet Tryd.prog Rows.receiptFindsUptoRow.laid W := h
  have h1 := h0.tail
  exact ⟨mk_of g_h (Lib.tabIs_of_head (zs := mkHs) g_h t_h Tryd.underlying30 Tryd.underlying5 cells5 cells_haN h0), mk_of g_a (Lib.tabIs_of_head (zs := mkAd) g_a t_a Tryd.underlying38 Tryd.underlying5 cells5 cells_adN h1)⟩
theorem sum_len {α : Type} {wt : α → Nat} (h : ∀ x, 1 ≤ wt x) : ∀ L : List α, L.length ≤ sumW wt L
  | [] => Nat.zero_le _
  | x :: L => by have := h x; have := sum_len h L; rw [sumW, List.length_cons]; omega
theorem sum_at {α : Type} {wt : α → Nat} (z : α) : ∀ (L : List α) (i : Nat), i < L.length → wt (L.getD i z) ≤ sumW wt L
  | [], i, h => absurd h (Nat.not_lt_zero _)
  | x :: L, 0, _ => by rw [sumW]; exact Nat.le_add_right _ _
  | x :: L, i + 1, h => by have := sum_at (wt := wt) z L i (by simpa using h); rw [sumW]; have e : (x :: L).getD (i + 1) z = L.getD i z := rfl; rw [e]; omega
theorem lg_bound {ls : List Lg} (h : sumW lgW ls ≤ 1048576) : ls.length ≤ 1048576 ∧ ∀ i, i < ls.length → (ls.getD i zLg).Tl.length < 1000000000 ∧ (ls.getD i zLg).Dl.length < 1000000000 := by
  have h1 := sum_len (wt := lgW) (fun e => by unfold lgW; omega) ls
  refine ⟨by omega, fun i hi => ?_⟩
  have h2 := sum_at (wt := lgW) zLg ls i hi
  have h3 := sum_len (wt := fun X : List Int => X.length + 1) (fun X => by omega) (ls.getD i zLg).Tl
  have h4 : 22 + sumW (fun X : List Int => X.length + 1) (ls.getD i zLg).Tl + (ls.getD i zLg).Dl.length ≤ sumW lgW ls := h2
  omega
set_option maxRecDepth 100000 in
theorem contract (H : Type) (enc : TypeId × Value → H) (W : World) (base : Nat) (args : Array Value) (ds gs : List (DataW H)) (before : List MemPlace)
    (hval : ∀ (j : Nat) t v, Tryd.f3.params[j]? = some t → args[j]? = some v → Value.okWide Tryd.prog W .any base t v)
    (hW : DataW.Whole enc Tryd.prog Tryd.f3.params.toList Rows.receiptFindsSpec.vars false W args.toList ds gs before) (hk : Rows.uptoSmall H (ds ++ gs) = true) (hL : laidMetH Tryd.prog Rows.receiptFindsUptoRow.laid W) :
    Calls Tryd.prog 3 args W fun e W' => ∃ v, e = .returned v ∧ Rows.receiptFindsSpec.post enc Tryd.prog Tryd.f3 false true false false W args v W' := by
  have hW' := hW
  obtain ⟨p, q, hA0, hV, rfl, hfz, hnd⟩ := hW
  have hA : DataW.TrodAll enc Tryd.prog W 0 (fun _ => true) true Tryd.f3.params.toList args.toList ds p := hA0
  rw [Tryd.params3] at hA hval
  obtain ⟨v0, vs0, d0, ds0, p0, q0, hargs0, rfl, rfl, h0, r0⟩ := trodAll_cons hA
  obtain ⟨v1, vs1, d1, ds1, p1, q1, hargs1, rfl, rfl, h1, r1⟩ := trodAll_cons r0
  subst hargs1
  obtain ⟨v2, vs2, d2, ds2, p2, q2, hargs2, rfl, rfl, h2, r2⟩ := trodAll_cons r1
  subst hargs2
  obtain ⟨rfl, rfl, rfl⟩ := trodAll_nil r2
  obtain rfl : args = #[v0, v1, v2] := Array.toList_inj.1 hargs0
  obtain ⟨rfl, rfl⟩ := trodVars_none hV
  have k0 := h0
  obtain ⟨a0, b0, o0, c0, L0, rfl, g0, w0⟩ := open_lgs (hval 0 22 v0 rfl rfl) h0
  have k1 := h1
  obtain ⟨a1, b1, o1, c1, L1, rfl, g1, w1⟩ := open_ads (hval 1 23 v1 rfl rfl) h1
  have k2 := h2
  obtain ⟨a2, b2, o2, c2, L2, rfl, g2, w2⟩ := open_hss (hval 2 24 v2 rfl rfl) h2
  clear hA0
  simp only [List.append_nil] at hW' hk
  have hb := of_decide_eq_true hk
  simp only [Rows.uptoBulkAll] at hb
  have hlt : ∀ x ∈ (p0 ++ p1 ++ p2), x.block < W.heap.size := fun x hx => by simpa using hW'.lt x (by simpa using hx)
  obtain ⟨hH, hA1⟩ := tables hL
  refine (findsLaw_any (by have := (lg_bound (ls := L0) (by omega)).1; omega) (lg_bound (ls := L0) (by omega)).2 (by have := sum_len (wt := fun X : List Int => X.length + 1) (fun X => by omega) L1; omega) (by have := sum_len (wt := klW) (fun X => by unfold klW; omega) L2; omega) (fun i hi => by have h2 := sum_at (wt := klW) zKl L2 i hi; have h3 := sum_len (wt := fun X : List Int => X.length + 1) (fun X => by omega) (L2.getD i zKl).ks; have h4 : 1 + sumW (fun X : List Int => X.length + 1) (L2.getD i zKl).ks ≤ sumW klW L2 := h2; omega) W hH hA1 g0 g1 g2).mono fun e W' ⟨he, hg⟩ => ?_
  subst he
  exact ⟨_, rfl, _, _, _, [], _, [], hW', trodAll_mk1 (shut_bool Tryd.underlying4 _), trodAll_mk3 (Below.trod laidOut (by kernel_rfl) (of_decide_eq_true (by kernel_rfl)) k0 hg (fun x hx => hlt x (by simp [hx]))) (Below.trod laidOut (by kernel_rfl) (of_decide_eq_true (by kernel_rfl)) k1 hg (fun x hx => hlt x (by simp [hx]))) (Below.trod laidOut (by kernel_rfl) (of_decide_eq_true (by kernel_rfl)) k2 hg (fun x hx => hlt x (by simp [hx]))), rfl, hg.frame _, fun h => by cases h⟩
/-- A block's cells put anew. -/
def layT (cs : Array Value) : Obj → Obj
  | .cells _ t frozen => .cells cs t frozen
  | o => o
noncomputable def laidWorldT (os : Os) : World :=
  { World.holding Tryd.prog os ⟨#[], #[], []⟩ with heap := (((World.holding Tryd.prog os ⟨#[], #[], []⟩).heap.modify 1 (layT #[.int .u8 165, .int .u8 90, .int .u8 0, .int .u8 0, .int .u8 0, .int .u8 0, .int .u8 0, .int .u8 0, .int .u8 0, .int .u8 0, .int .u8 0, .int .u8 0, .int .u8 0, .int .u8 0, .int .u8 0, .int .u8 0, .int .u8 0, .int .u8 0, .int .u8 0, .int .u8 0, .int .u8 0, .int .u8 0, .int .u8 0, .int .u8 0, .int .u8 0, .int .u8 0, .int .u8 0, .int .u8 0, .int .u8 0, .int .u8 0, .int .u8 0, .int .u8 0])).modify 0 (layT #[.int .u8 165, .int .u8 90, .int .u8 0, .int .u8 0, .int .u8 0, .int .u8 0, .int .u8 0, .int .u8 0, .int .u8 0, .int .u8 0, .int .u8 0, .int .u8 0, .int .u8 0, .int .u8 0, .int .u8 0, .int .u8 0, .int .u8 0, .int .u8 0, .int .u8 0, .int .u8 0])) }
theorem laid_met (os : Os) : laidMet Tryd.prog Rows.receiptFindsUptoRow.laid ((laidWorldT os).forCall (fun _ _ => 0) ⟨#[], #[.slice .none 0 0, .slice .none 0 0, .slice .none 0 0], []⟩).memory :=
  laidMet_of_run' 8 (by kernel_rfl) (by kernel_rfl)
theorem reads (os : Os) {H : Type} (enc : TypeId × Value → H) : ∃ places, DataW.whole enc Tryd.prog ((laidWorldT os).forCall (fun _ _ => 0) ⟨#[], #[.slice .none 0 0, .slice .none 0 0, .slice .none 0 0], []⟩).memory Tryd.f3.params.toList Rows.receiptFindsSpec.vars false #[Value.slice .none 0 0, Value.slice .none 0 0, Value.slice .none 0 0].toList 8 = some ([.nil, .nil, .nil], [], places) :=
  ⟨[], by kernel_rfl⟩

set_option maxRecDepth 100000 in
theorem lifted (os : Os) (started : os.Started) (H : Type) (enc : TypeId × Value → H) (F : Stop.Interp) :
    ReturnsInHanded {} Tryd.checked os 3 .any ((Rows.OpenSpec.upto Rows.receiptFindsSpec).preRow enc Tryd.prog Tryd.f3 Rows.receiptFindsUptoRow.domain false Rows.receiptFindsUptoRow.laid) (((Rows.OpenSpec.upto Rows.receiptFindsSpec).at F).post enc Tryd.prog Tryd.f3 false true false false) := by
  obtain ⟨places, hx⟩ := reads os enc
  refine returnsInHanded_of_row (C := Tryd.checked) (s := Rows.OpenSpec.upto Rows.receiptFindsSpec) ownT started (by kernel_rfl) Tryd.func3
    (witness_row_at (enc := enc) (C := Tryd.checked) false (laidWorldT os) #[.slice .none 0 0, .slice .none 0 0, .slice .none 0 0] rfl (by kernel_rfl) (by kernel_rfl) (by kernel_rfl)
      (OpenSpec.preRow_of_cond 8 hx (by kernel_rfl) (fun k hk => by cases hk; kernel_rfl) (by kernel_rfl) (laid_met os))) ?_
  intro W base args ds gs before hval hW _ hcond _ hL _ _
  exact contract H enc W base args ds gs before hval hW (hcond _ rfl) hL

theorem said : Rows.ReceiptFindsUptoSaid :=
  OpenClaim.holds_of_cond 3 Tryd.f3 rfl rfl rfl rfl rfl rfl rfl ⟨rfl, rfl, rfl, rfl, rfl⟩ rfl rfl rfl rfl rfl (by kernel_rfl) Tryd.func3 (by kernel_rfl)
    (of_decide_eq_true (by kernel_rfl)) (by unfold Func.isWrapper; first | (rw [if_pos (by decide +kernel)]; kernel_rfl) | (rw [if_neg (by decide +kernel)]; exact ⟨rfl, rfl⟩))
    (fun os started H enc _ F => by rw [OpenClaim.pre_eq_preRow]; exact lifted os started H enc F)

theorem plain (f : FuncId) (fn : Func) (hf : Tryd.pinned.checked.prog.funcNamed "waybill/waybilllaw17.ReceiptFinds" = some f) (hfn : Tryd.pinned.checked.prog.funcs[f]? = some fn) :
    false = Tryd.pinned.checked.prog.looks [] ∧ ∀ (j : Nat) t, fn.params[j]? = some t → Tryd.pinned.checked.prog.wantsStandIn t = false := by
  obtain rfl : f = 3 := Option.some.inj ((show Tryd.prog.funcNamed "waybill/waybilllaw17.ReceiptFinds" = some 3 by kernel_rfl).symm.trans hf) |>.symm
  obtain rfl : fn = Tryd.f3 := (Option.some.inj (Tryd.func3.symm.trans hfn)).symm
  refine ⟨by kernel_rfl, fun j t ht => ?_⟩
  rw [Tryd.params3] at ht
  have hm : t = 22 ∨ t = 23 ∨ t = 24 := by simpa using Array.mem_of_getElem? ht
  rcases hm with rfl | rfl | rfl
  · exact (show Tryd.prog.wantsStandIn 22 = false by kernel_rfl)
  · exact (show Tryd.prog.wantsStandIn 23 = false by kernel_rfl)
  · exact (show Tryd.prog.wantsStandIn 24 = false by kernel_rfl)
end Go.Proofs.YtanokeeffbiijaaDoor.receiptFindsu

namespace Go.Proofs.YtanokeeffbiijaaDoor
theorem receiptFindsUpto_card : Rows.ReceiptFindsUptoCardSaid :=
  Claim7.holds_tied_plain_at .later [] _ _ _ _ receiptFindsu.said (fun _ h => by cases h) (by kernel_rfl) (fun _ h => by cases h) receiptFindsUpto_row_tie rfl ⟨rfl, rfl⟩ (by kernel_rfl) rfl receiptFindsu.plain (by kernel_rfl)
#print axioms receiptFindsUpto_card
end Go.Proofs.YtanokeeffbiijaaDoor

import Derived.Test.YtkbkbbilhmmifaaDoorSOpenB
import Derived.Test.YtkbkbbilhmmifaaDoorSRLaw
namespace Go.Proofs.YtkbkbbilhmmifaaDoor
open Go.RowKit Go.Sort Go.ChangeShapes Go.WideShapes Go.ChangeAt

theorem blocks_any {a : Option Addr} {bd od cd : Nat} {S : List (BitVec 32)} {X : List (BitVec 8)} (hS : S.length = 8) (hl : X.length < 1073741000) (ha : At a bd od X) (w : World) (hX : Byo w bd od X) (hf : Wds w 1 0 hN) (hk : Wds w 0 0 kN) :
    Calls Tryd.prog 3 #[.agg (wrds S).toArray, .slice a X.length cd] w fun e w' => e = .returned (.bool true) ∧ Below w.heap.size w w' := by
  by_cases h : X.length = 64
  · obtain rfl : a = some ⟨bd, od, none⟩ := by
      rcases ha with e | e
      · rw [e] at h; simp at h
      · exact e
    have hF : (flipB X).length = 64 := by rw [flipB_len]; exact h
    exact blocks_walk (C := compL S X) (D := compL S (flipB X)) (e0 := 0) hS rfl rfl hl ha (fun W g c hB hk => by rw [h]; exact comp_any hS h W hB hk) (fun W hB => by rw [h]; exact rcomp_any hS h W hB) (fun W g c hB hk => by rw [h]; exact comp_any hS hF W hB hk) (fun W g c hB => by rw [h]; exact rcomp_any hS hF W hB) w hX hf hk
  · exact blocks_walk (C := z8) (D := z8) (e0 := 1) hS rfl rfl hl ha (fun W g c hB hk => comp_bad h W) (fun W hB => rcomp_bad h W) (fun W g c hB hk => comp_bad h W) (fun W g c hB => rcomp_bad h W) w hX hf hk




theorem list_of {α : Type} {p : Nat → α → Prop} (z : α) : ∀ n, (∀ i, i < n → ∃ a, p i a) → ∃ L : List α, L.length = n ∧ ∀ i, i < n → p i (L.getD i z)
  | 0, _ => ⟨[], rfl, fun _ h => absurd h (Nat.not_lt_zero _)⟩
  | n + 1, h => by
    obtain ⟨L, hl, hp⟩ := list_of z n fun i hi => h i (by omega)
    obtain ⟨a, ha⟩ := h n (by omega)
    refine ⟨L ++ [a], by simp [hl], fun i hi => ?_⟩
    by_cases e : i = n
    · subst e; simpa [List.getD, ← hl] using ha
    · have h1 := hp i (by omega)
      simpa [List.getD, List.getElem?_append_left (show i < L.length by omega)] using h1

theorem mapM_all {α β : Type} {f : α → Option β} {g : α → β} : ∀ (l : List α), (∀ i ∈ l, f i = some (g i)) → l.mapM f = some (l.map g)
  | [], _ => rfl
  | a :: l, h => by
    rw [List.mapM_cons, h a (by simp), mapM_all l fun i hi => h i (by simp [hi])]
    rfl

theorem flat_nil {α β γ : Type} (f : α → β) : ∀ L : List α, ((L.map fun x => (f x, ([] : List γ))).flatMap (·.2)) = []
  | [] => rfl
  | _ :: L => by rw [List.map_cons, List.flatMap_cons, flat_nil f L]; rfl

/-- How a row of wrds reads. -/
noncomputable def dat {H : Type} (L : List (BitVec 32)) : DataW H := .agg (L.map fun x => .lit (.int .u32 (U x)))

section
variable {H : Type} {enc : TypeId × Value → H} {w : World} {base : Nat} {spare : Nat → Bool} {held : Bool}

set_option maxRecDepth 100000 in
theorem open_state {r : Reach} {b0 : Nat} {v : Value} {d : DataW H} {p : List MemPlace} (hv : Value.okWide Tryd.prog w r b0 23 v) (h : DataW.Trod enc Tryd.prog w base spare held 23 v d p) :
    ∃ L : List (BitVec 32), L.length = 8 ∧ v = .agg (wrds L).toArray ∧ d = dat L ∧ p = [] := by
  obtain ⟨cs, rfl, hsz⟩ : ∃ cs : Array Value, v = .agg cs ∧ cs.size = 8 := by
    simp only [Value.okWide, Tryd.underlying23] at hv
    obtain ⟨cs, h1, h2, _⟩ := hv
    exact ⟨cs, h1, h2.trans cells8⟩
  obtain ⟨fuel, hf⟩ := h
  obtain ⟨xs, m, rfl, hx, hl, hn, hi⟩ := DataW.trod_array Tryd.underlying23 hf
  simp only [Value.cells, cellsU, Nat.mul_one] at hi hl
  obtain ⟨L, hL, hp⟩ := list_of (p := fun i (b : BitVec 32) => cs.toList[i]? = some (.int .u32 (U b)) ∧ xs[i]? = some (.lit (.int .u32 (U b)), [])) 0 8 (fun i h => by
    have h1 := hi i h
    rw [List.getElem?_eq_getElem (by omega)] at h1
    obtain ⟨n, e1, e2, e3⟩ := DataW.trod_int Tryd.underlying22 h1
    have b : 0 ≤ n ∧ n < 4294967296 := by
      simp [Lit.wf, IntKind.min, IntKind.max, IntKind.signed, IntKind.bits] at e3
      exact ⟨by omega, by omega⟩
    obtain ⟨x, rfl⟩ := U_of b.1 b.2
    refine ⟨x, ?_, ?_⟩
    · have := congrArg (·[0]?) e1
      simpa [List.getElem?_take, List.getElem?_drop] using this
    · rw [List.getElem?_eq_getElem (by omega), e2])
  have e1 : cs = (wrds L).toArray := by
    apply Array.toList_inj.1
    apply List.ext_getElem?
    intro i
    by_cases h : i < 8
    · rw [(hp i h).1]; simp [wrds, List.getD, show i < L.length by omega]
    · rw [List.getElem?_eq_none (by simp; omega), List.getElem?_eq_none (by simp [wrds_len]; omega)]
  have e2 : xs = L.map fun x => (.lit (.int .u32 (U x)), []) := by
    apply List.ext_getElem?
    intro i
    by_cases h : i < 8
    · rw [(hp i h).2]; simp [List.getD, show i < L.length by omega]
    · rw [List.getElem?_eq_none (by omega), List.getElem?_eq_none (by simp; omega)]
  rw [e2] at hx
  refine ⟨L, hL, by rw [e1], ?_, ?_⟩
  · have := congrArg Prod.fst hx
    simpa [dat, Function.comp_def] using this
  · have := congrArg Prod.snd hx
    rw [flat_nil] at this
    exact this

theorem shut_state {L : List (BitVec 32)} (hl : L.length = 8) : DataW.Trod enc Tryd.prog w base spare held 23 (.agg (wrds L).toArray) (dat L) [] := by
  refine ⟨2, ?_⟩
  have wf : ∀ x : BitVec 32, (Lit.int .u32 (U x)).wf = true := by
    intro x
    have := U_lo x; have := U_hi x
    simp [Lit.wf, IntKind.min, IntKind.max, IntKind.signed, IntKind.bits]
    omega
  have h : (List.range 8).mapM (fun i => DataW.trod enc Tryd.prog w base spare held 1 22 (((wrds L).drop (i * 1)).take 1)) = some ((List.range 8).map fun i => (.lit (.int .u32 (U (L.getD i 0))), [])) := by
    apply mapM_all
    intro i hi
    have hi' : i < 8 := List.mem_range.1 hi
    have e : ((wrds L).drop (i * 1)).take 1 = [.int .u32 (U (L.getD i 0))] := by
      rw [Nat.mul_one]
      apply List.ext_getElem?
      intro j
      cases j with
      | zero => simp [List.getElem?_drop, wrds, List.getD, show i < L.length by omega]
      | succ j => simp [List.getElem?_take]
    rw [e]
    simp [DataW.trod, Tryd.underlying22, wf]
  have e : (List.range 8).map (fun i => (DataW.lit (.int .u32 (U (L.getD i 0))) : DataW H)) = L.map fun x => .lit (.int .u32 (U x)) := by
    apply List.ext_getElem?
    intro i
    by_cases h : i < 8
    · simp [h, List.getD, show i < L.length by omega]
    · rw [List.getElem?_eq_none (by simp; omega), List.getElem?_eq_none (by simp; omega)]
  unfold DataW.trod
  simp only [Value.cells, Tryd.underlying23, cells8, cellsU]
  rw [if_pos (by simp [wrds_len, hl]), show (1 : Nat) = 1 from rfl]
  rw [h]
  rw [Option.map_some, flat_nil, List.map_map, dat, ← e]
  rfl
end

end Go.Proofs.YtkbkbbilhmmifaaDoor

namespace Go.Proofs.YtkbkbbilhmmifaaDoor.blocks
open Go.ChangeShapes Go.WideShapes Go.ChangeAt Go.RowKit

theorem tables {W : World} (h : laidMetH Tryd.prog Rows.shaBlocksUptoRow.laid W) : Wds W 1 0 hN ∧ Wds W 0 0 kN := by
  have h0 : laidMet Tryd.prog Rows.shaBlocksUptoRow.laid W := h
  have h1 := h0.tail
  exact ⟨first_of g_first (Lib.tabIs_of_head g_first t_first Tryd.underlying23 Tryd.underlying22 cellsU cells8 h0),
    steps_of g_steps (Lib.tabIs_of_head g_steps t_steps Tryd.underlying47 Tryd.underlying22 cellsU cells64 h1)⟩

set_option maxRecDepth 100000 in
theorem contract (H : Type) (enc : TypeId × Value → H) (W : World) (base : Nat) (args : Array Value) (ds gs : List (DataW H)) (before : List MemPlace)
    (hval : ∀ (j : Nat) t v, Tryd.f3.params[j]? = some t → args[j]? = some v → Value.okWide Tryd.prog W .any base t v)
    (hW : DataW.Whole enc Tryd.prog Tryd.f3.params.toList Rows.shaBlocksSpec.vars false W args.toList ds gs before) (hk : Rows.uptoSmall H (ds ++ gs) = true) (hL : laidMetH Tryd.prog Rows.shaBlocksUptoRow.laid W) :
    Calls Tryd.prog 3 args W fun e W' => ∃ v, e = .returned v ∧ Rows.shaBlocksSpec.post enc Tryd.prog Tryd.f3 false true false false W args v W' := by
  have hW' := hW
  obtain ⟨p, q, hA0, hV, rfl, hfz, hnd⟩ := hW
  have hA : DataW.TrodAll enc Tryd.prog W 0 (fun _ => true) true Tryd.f3.params.toList args.toList ds p := hA0
  rw [Tryd.params3] at hA hval
  obtain ⟨v0, v1, d0, d1, p0, p1, hargs, rfl, rfl, h0, h1⟩ := trodAll_two hA
  subst hargs
  obtain ⟨rfl, rfl⟩ := trodVars_none hV
  have hb : Rows.uptoBulkAll ([d0, d1] ++ ([] : List (DataW H))) ≤ 1048576 := of_decide_eq_true hk
  simp only [List.append_nil, Rows.uptoBulkAll] at hb
  have k1 := h1
  obtain ⟨L, hl, rfl, rfl, rfl⟩ := open_state (hval 0 23 v0 rfl rfl) h0
  obtain ⟨a, bt, ot, ct, X, rfl, x1, x2, x3, x4⟩ := open_b (hval 1 24 v1 rfl rfl) h1
  clear hA0
  simp only [List.append_nil] at hW'
  have hlt : ∀ x ∈ p1, x.block < W.heap.size := fun x hx => by simpa using hW'.lt x (by simpa using hx)
  obtain ⟨t1, t2⟩ := tables hL
  refine (blocks_any hl (by omega) x2 W x3 t1 t2).mono fun e W' ⟨he, hg⟩ => ?_
  subst he
  refine ⟨_, rfl, _, _, _, [], _, [], hW', trodAll_mk1 (shut_bool Tryd.underlying4 _), trodAll_mk2 (shut_state hl) (Below.trod laidOut (by kernel_rfl) (of_decide_eq_true (by kernel_rfl)) k1 hg (fun x hx => hlt x hx)), rfl, hg.frame _, fun h => by cases h⟩

theorem laid_met (os : Os) : laidMet Tryd.prog Rows.shaBlocksUptoRow.laid ((laidWorld os).forCall (fun _ _ => 0) ⟨#[], #[.agg #[.int .u32 0, .int .u32 0, .int .u32 0, .int .u32 0, .int .u32 0, .int .u32 0, .int .u32 0, .int .u32 0], .slice .none 0 0], []⟩).memory :=
  laidMet_of_run' 8 (by kernel_rfl) (by kernel_rfl)
theorem reads (os : Os) {H : Type} (enc : TypeId × Value → H) : ∃ places, DataW.whole enc Tryd.prog ((laidWorld os).forCall (fun _ _ => 0) ⟨#[], #[.agg #[.int .u32 0, .int .u32 0, .int .u32 0, .int .u32 0, .int .u32 0, .int .u32 0, .int .u32 0, .int .u32 0], .slice .none 0 0], []⟩).memory Tryd.f3.params.toList Rows.shaBlocksSpec.vars false #[Value.agg #[.int .u32 0, .int .u32 0, .int .u32 0, .int .u32 0, .int .u32 0, .int .u32 0, .int .u32 0, .int .u32 0], Value.slice .none 0 0].toList 8 = some ([.agg [.lit (.int .u32 0), .lit (.int .u32 0), .lit (.int .u32 0), .lit (.int .u32 0), .lit (.int .u32 0), .lit (.int .u32 0), .lit (.int .u32 0), .lit (.int .u32 0)], .nil], [], places) :=
  ⟨[], by kernel_rfl⟩

set_option maxRecDepth 100000 in
theorem lifted (os : Os) (started : os.Started) (H : Type) (enc : TypeId × Value → H) (F : Stop.Interp) :
    ReturnsInHanded {} Tryd.checked os 3 .any ((Rows.OpenSpec.upto Rows.shaBlocksSpec).preRow enc Tryd.prog Tryd.f3 Rows.shaBlocksUptoRow.domain false Rows.shaBlocksUptoRow.laid) (((Rows.OpenSpec.upto Rows.shaBlocksSpec).at F).post enc Tryd.prog Tryd.f3 false true false false) := by
  obtain ⟨places, hx⟩ := reads os enc
  refine returnsInHanded_of_row (C := Tryd.checked) (s := Rows.OpenSpec.upto Rows.shaBlocksSpec) Tryd.own started (by kernel_rfl) Tryd.func3
    (witness_row_at (enc := enc) (C := Tryd.checked) false (laidWorld os) #[.agg #[.int .u32 0, .int .u32 0, .int .u32 0, .int .u32 0, .int .u32 0, .int .u32 0, .int .u32 0, .int .u32 0], .slice .none 0 0] rfl (by kernel_rfl) (by kernel_rfl) (by kernel_rfl)
      (OpenSpec.preRow_of_cond 8 hx (by kernel_rfl) (fun k hk => by cases hk; kernel_rfl) (by kernel_rfl) (laid_met os))) ?_
  intro W base args ds gs before hval hW _ hcond _ hL _ _
  exact contract H enc W base args ds gs before hval hW (hcond _ rfl) hL

theorem said : Rows.ShaBlocksUptoSaid :=
  OpenClaim.holds_of_cond 3 Tryd.f3 rfl rfl rfl rfl rfl rfl rfl ⟨rfl, rfl, rfl, rfl, rfl⟩ rfl rfl rfl rfl rfl (by kernel_rfl) Tryd.func3 (by kernel_rfl)
    (of_decide_eq_true (by kernel_rfl)) (by unfold Func.isWrapper; first | (rw [if_pos (by decide +kernel)]; kernel_rfl) | (rw [if_neg (by decide +kernel)]; exact ⟨rfl, rfl⟩))
    (fun os started H enc _ F => by rw [OpenClaim.pre_eq_preRow]; exact lifted os started H enc F)

theorem plain (f : FuncId) (fn : Func) (hf : Tryd.pinned.checked.prog.funcNamed "waybill/waybilllaw03.ShaBlocks" = some f) (hfn : Tryd.pinned.checked.prog.funcs[f]? = some fn) :
    false = Tryd.pinned.checked.prog.looks [] ∧ ∀ (j : Nat) t, fn.params[j]? = some t → Tryd.pinned.checked.prog.wantsStandIn t = false := by
  obtain rfl : f = 3 := Option.some.inj ((show Tryd.prog.funcNamed "waybill/waybilllaw03.ShaBlocks" = some 3 by kernel_rfl).symm.trans hf) |>.symm
  obtain rfl : fn = Tryd.f3 := (Option.some.inj (Tryd.func3.symm.trans hfn)).symm
  refine ⟨by kernel_rfl, fun j t ht => ?_⟩
  rw [Tryd.params3] at ht
  obtain rfl | rfl : t = 23 ∨ t = 24 := by simpa using Array.mem_of_getElem? ht
  · exact (show Tryd.prog.wantsStandIn 23 = false by kernel_rfl)
  · exact (show Tryd.prog.wantsStandIn 24 = false by kernel_rfl)
end Go.Proofs.YtkbkbbilhmmifaaDoor.blocks

namespace Go.Proofs.YtkbkbbilhmmifaaDoor
theorem shaBlocksUpto_card : Rows.ShaBlocksUptoCardSaid :=
  Claim7.holds_tied_plain_at .later [] _ _ _ _ blocks.said (fun _ h => by cases h) (by kernel_rfl) (fun _ h => by cases h) shaBlocksUpto_row_tie rfl ⟨rfl, rfl⟩ (by kernel_rfl) rfl blocks.plain (by kernel_rfl)
#print axioms shaBlocksUpto_card
end Go.Proofs.YtkbkbbilhmmifaaDoor

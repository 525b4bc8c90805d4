import Derived.RangeFuncNested
import Derived.RangeFuncBound
import Derived.RangeFuncCalls
import Derived.RangeFuncLeaves
import Derived.RangeFuncFrom
import Derived.Shelf.Abstract
import Derived.Shelf.RegionOpen
import Derived.OwnWalkIn
import Derived.TacticsInMore
import Derived.LoopNIn
import Derived.LoopIn
import Derived.Laws.EntriesVeiled
import Derived.Test.YtgndlkhmleafiaaDoorSBase
/- Layer 12: a nil trie: ranges over an iterator that gives nothing. -/
namespace Go.Proofs.YtgndlkhmleafiaaDoor
open Go.RowKit Go.Shelf
attribute [local go_sem] Oper.semAt_some

/-- A range over a function that never yields. -/
theorem wpIn_range_none {F : Fence} {n : Nat} {P : Program} {g : Operand} {ps : Array Tmp} {assign body : Code} {Q : Exit → Act → World → Prop} {a : Act} {w : World}
    (hro : F.round = none) (h1 : 1 ≤ n) {gf : Nat} {lb : Array Value} (hg : a.eval g = .func (.func gf) #[] lb) (hF : F.fn gf) (eg : ∀ args w, (callFunc gf args).run P w = .ok (.enter gf args) w)
    (hc : ∀ (l : Nat) (W : World), Below w.heap.size w W → CallsIn F (n - 1) P gf (#[.func (.yield l) #[] #[]] ++ lb) W fun e W' => (∃ v, e = .returned v) ∧ Below W.heap.size W W')
    (hd : ∀ (D : Nat) (W : World), w.heap.size ≤ D → Below w.heap.size w W → W.heap[D]? = some (.deferred (some [])) → Q .normal { a with defers := { target := .collected D, args := #[] } :: a.defers } W) :
    (Code.rangeFunc g ps assign body).wpIn F n P Q a w := by
  refine wpIn_rangeFunc fun fn hfn => ?_
  rw [hro]
  let W0 := w.alloc (.deferred (some []))
  let r : Loop := { state := .ready, pending := none, fn, tmps := a.tmps, params := ps, assign, body, defers := w.heap.size }
  let W1 := W0.alloc (.loop r)
  have s0 : W0.heap.size = w.heap.size + 1 := World.size_alloc _ _
  have s1 : W1.heap.size = w.heap.size + 2 := by rw [World.size_alloc, s0]
  have B1 : Below w.heap.size w W1 := ((Below.refl _ w).alloc (Nat.le_refl _) _).alloc (by simp) _
  have L1 : W1.heap[w.heap.size + 1]? = some (.loop r) := by
    have h := World.alloc_heap_new W0 (.loop r)
    rwa [s0] at h
  have D1 : W1.heap[w.heap.size]? = some (.deferred (some [])) := (Below.heap_alloc _ _ _ (by rw [s0]; omega)).trans (World.alloc_heap_new w _)
  refine ⟨w.heap.size + 1, [{ target := .collected w.heap.size, args := #[] }], W1, { target := .fn (.func gf) lb, args := #[.func (.yield (w.heap.size + 1)) #[] #[]] }, W1, gf, #[.func (.yield (w.heap.size + 1)) #[] #[]] ++ lb, W1, run_enterLoop_outer _ _ _ _ _, ?_, ?_, ?_, fun _ => h1, ?_⟩
  · simp only [resolve, hg]
    simp [go_sem]
  · intro f' hf'
    simp [Target.leads] at hf'
    subst hf'
    exact hF
  · simp [invoke, go_sem, eg]
  · refine (hc (w.heap.size + 1) W1 B1).mono ?_
    rintro e W2 ⟨⟨v, rfl⟩, B2⟩
    have L2 : W2.heap[w.heap.size + 1]? = some (.loop r) := (B2.block _ (by rw [s1]; omega)).trans L1
    have D2 : W2.heap[w.heap.size]? = some (.deferred (some [])) := (B2.block _ (by rw [s1]; omega)).trans D1
    refine ⟨none, _, run_endLoop L2 (by simp [r]), hd _ _ (Nat.le_refl _) ?_ ((World.putObj_heap_other (by omega)).trans D2)⟩
    exact (B1.trans (B2.mono B1.size)).trans (belowK_b (w := w) (Nat.le_refl _) W2 _ _ _ (by omega) L2 rfl rfl)
theorem ta_leaf (w : World) : (Instr.typeAssert .nilIface 47 62 true).run Tryd.prog w = .ok (.tuple #[.agg #[.slice none 0 0, .slice none 0 0], .bool false]) w := by kernel_rfl
theorem ta_ext (w : World) : (Instr.typeAssert .nilIface 47 69 true).run Tryd.prog w = .ok (.tuple #[.agg #[.slice none 0 0, .nilIface], .bool false]) w := by kernel_rfl
theorem ta_branch (w : World) : (Instr.typeAssert .nilIface 47 66 true).run Tryd.prog w = .ok (.tuple #[.agg #[.nilIface, .nilIface, .nilIface, .nilIface, .nilIface, .nilIface, .nilIface, .nilIface, .nilIface, .nilIface, .nilIface, .nilIface, .nilIface, .nilIface, .nilIface, .nilIface, .slice none 0 0], .bool false]) w := by kernel_rfl
set_option maxRecDepth 100000 in
theorem walk_nil (v : Value) (x : Value) (w : World) :
    Calls Tryd.prog 40 #[.nilIface, x, v] w fun e w' => e = .returned (.bool true) ∧ w' = w := by
  have t1 := ta_leaf
  have t2 := ta_ext
  have t3 := ta_branch
  go_enter Tryd.func40, Tryd.ntmps40
  go_wp2
  simp [bodyPost, results, Tryd.results40, go_sem]
set_option maxRecDepth 100000 in
theorem rows1_nil (v : Value) (bn : Nat) (w : World) (hn : w.cell? ⟨bn, 0, none⟩ = some .nilIface) :
    Calls Tryd.prog 39 #[v, .pointer (some ⟨bn, 0, none⟩)] w fun e w' => (∃ x, e = .returned x) ∧ Below w.heap.size w w' := by
  go_enter Tryd.func39, Tryd.ntmps39
  go_wp2_with ((with_reducible refine (walk_nil _ _ _).mono ?_); rintro e1 w9 ⟨rfl, hw9⟩; (rw [hw9]); (clear hw9 w9))
  simp [bodyPost, results, Tryd.results39, go_sem]
  exact Below.refl _ _
set_option maxRecDepth 100000 in
theorem each1_nil (l br bn : Nat) (w : World) (hr : w.cell? ⟨br, 0, none⟩ = some (.func (.func 39) #[] #[.pointer (some ⟨bn, 0, none⟩)])) (hn : w.cell? ⟨bn, 0, none⟩ = some .nilIface) (n : Nat) (hn3 : 2 ≤ n) :
    CallsIn Fence.wide n Tryd.prog 25 #[.func (.yield l) #[] #[], .pointer (some ⟨br, 0, none⟩)] w fun e w' => (∃ x, e = .returned x) ∧ Below w.heap.size w w' := by
  have h1 : 1 ≤ n := by omega
  have hr2 : ∀ o, (w.alloc o).cell? ⟨br, 0, none⟩ = some (.func (.func 39) #[] #[.pointer (some ⟨bn, 0, none⟩)]) := fun o => cell_keep ((Below.refl _ _).alloc (Nat.le_refl _) o) hr
  refine callsIn_of_wp_marks Tryd.func25 rfl trivial ?_ rfl
  simp only [Tryd.ntmps25, List.size_toArray, List.length_cons, List.length_nil, Nat.reduceAdd, Nat.reduceSub, Array.replicate_succ, Array.replicate_zero, List.push_toArray, List.append_toArray, List.nil_append, List.cons_append]
  gi_wp2
  refine wpIn_range_none (F := Fence.wide) (n := n) (P := Tryd.prog) rfl h1 (gf := 39) (lb := #[.pointer (some ⟨bn, 0, none⟩)]) ?_ trivial (enters_of Tryd.func39 (by kernel_rfl) rfl) ?_ ?_
  · rfl
  · intro l' W B
    have bl := World.block_lt_of_cell? w _ hn
    refine callsIn_wide.2 (rows1_nil _ bn W ?_)
    have B0 : Below w.heap.size w W := by
      refine ((Below.refl _ w).alloc (Nat.le_refl _) _).trans (B.mono (by simp))
    rw [B0.cell (p := ⟨bn, 0, none⟩) bl]; exact hn
  · intro D W hD B hK
    have B0 : Below w.heap.size w W := ((Below.refl _ w).alloc (Nat.le_refl _) _).trans (B.mono (by simp))
    gi_wp2
    refine ⟨by simp, .inl ⟨_, _, rfl, run_takeDeferred hK, ?_⟩⟩
    refine ⟨.tuple #[], ?_, ⟨_, rfl⟩, B0.trans (belowK_b (w := w) (Nat.le_refl _) W D _ _ (by simp at hD; omega) hK rfl rfl)⟩
    simp [results, Tryd.f25, go_sem]
set_option maxRecDepth 100000 in
theorem top_nil (w : World) : Calls Tryd.prog 20 #[.pointer none] w fun e w' => e = .returned .nilIface ∧ w' = w := by
  go_enter Tryd.func20, Tryd.ntmps20
  go_wp2
  simp [bodyPost, results, Tryd.results20, go_sem]
set_option maxRecDepth 100000 in
theorem rowsOf_nil (w : World) : Calls Tryd.prog 24 #[.nilIface] w fun e w' => e = .returned (.func (.func 39) #[] #[.pointer (some ⟨w.heap.size, 0, none⟩)]) ∧ w' = w.alloc (.cells #[.nilIface] 47) := by
  go_enter Tryd.func24, Tryd.ntmps24
  go_wp2
  simp [bodyPost, results, Tryd.results24, go_sem]
set_option maxRecDepth 100000 in
theorem Each_nil (w : World) : Calls Tryd.prog 14 #[.pointer none] w fun e w' => ∃ br bn, e = .returned (.func (.func 25) #[] #[.pointer (some ⟨br, 0, none⟩)]) ∧ w'.cell? ⟨br, 0, none⟩ = some (.func (.func 39) #[] #[.pointer (some ⟨bn, 0, none⟩)]) ∧ w'.cell? ⟨bn, 0, none⟩ = some .nilIface ∧ Below w.heap.size w w' := by
  go_enter Tryd.func14, Tryd.ntmps14
  go_wp2_with (first | ((with_reducible refine (top_nil _).mono ?_); rintro e1 w9 ⟨rfl, hw9⟩; (rw [hw9]); (clear hw9 w9)) | ((with_reducible refine (rowsOf_nil _).mono ?_); rintro e1 w9 ⟨rfl, hw9⟩; (rw [hw9]); (clear hw9 w9)))
  go_ret
  have hb := World.cell?_alloc_mark (w.alloc (.cells #[.nilIface] 47)) #[.func (.func 39) #[] #[.pointer (some ⟨w.heap.size, 0, none⟩)]] 42 (0, 0) 0
  rw [World.size_alloc] at hb
  have ha := World.cell?_alloc_mark w #[.nilIface] 47 (0, 0) 0
  exact ⟨w.heap.size + 1, w.heap.size, rfl, hb, cell_keep ((Below.refl _ _).alloc (Nat.le_refl _) _) ha, ((Below.refl _ _).alloc (Nat.le_refl _) _).alloc (by simp) _⟩
set_option maxRecDepth 100000 in
theorem fn_nil (w : World) (x : Value) : (binOp .eql 42 (.func (.func 25) #[] #[x]) .nilFunc).run Tryd.prog w = .ok (.bool false) w := by kernel_rfl
set_option maxRecDepth 100000 in
theorem each_nil (w : World) : Calls Tryd.prog 5 #[.pointer none] w fun e w' => e = .returned (.tuple #[.slice none 0 0, .bool true]) ∧ Below w.heap.size w w' := by
  have fn := fn_nil
  refine (callsIn_wide (n := 3)).1 ?_
  refine callsIn_of_wp_marks Tryd.func5 rfl trivial ?_ rfl
  simp only [Tryd.ntmps5, List.size_toArray, List.length_cons, List.length_nil, Nat.reduceAdd, Nat.reduceSub, Array.replicate_succ, Array.replicate_zero, List.push_toArray, List.append_toArray, List.nil_append, List.cons_append]
  gi_wp2_with (refine ⟨trivial, ?_⟩; gi_at_call 14; refine (callsIn_wide.2 (Each_nil _)).mono ?_; rintro e w1 ⟨br, bn, rfl, c1, c2, B1⟩)
  clear fn
  have c4 : (w.alloc (.cells #[.slice none 0 0] 26)).cell? ⟨w.heap.size, 0, none⟩ = some (.slice none 0 0) := World.cell?_alloc_mark w #[.slice none 0 0] 26 (0, 0) 0
  have c5 : w1.cell? ⟨w.heap.size, 0, none⟩ = some (.slice none 0 0) := cell_keep B1 c4
  have BW : Below w.heap.size w w1 := ((Below.refl _ w).alloc (Nat.le_refl _) _).trans (B1.mono (by simp))
  refine wpIn_range_none (F := Fence.wide) (n := 3) (P := Tryd.prog) rfl (by decide) (gf := 25) (lb := #[.pointer (some ⟨br, 0, none⟩)]) ?_ trivial (enters_of Tryd.func25 (by kernel_rfl) rfl) ?_ ?_
  · rfl
  · intro l W B
    exact each1_nil l br bn W (cell_keep B c1) (cell_keep B c2) 2 (by decide)
  · intro D W hD B hK
    have c6 : W.cell? ⟨w.heap.size, 0, none⟩ = some (.slice none 0 0) := cell_keep B c5
    gi_wp2
    refine ⟨by simp, .inl ⟨_, _, rfl, run_takeDeferred hK, ?_⟩⟩
    refine ⟨.tuple #[.slice none 0 0, .bool true], ?_, rfl, (BW.trans (B.mono BW.size)).trans (belowK_b (w := w) (Nat.le_refl _) W D _ _ (Nat.le_trans BW.size hD) hK rfl rfl)⟩
    simp [results, Tryd.f5, go_sem]
end Go.Proofs.YtgndlkhmleafiaaDoor

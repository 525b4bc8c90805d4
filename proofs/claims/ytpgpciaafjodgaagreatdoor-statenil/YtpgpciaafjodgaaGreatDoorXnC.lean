import Derived.RangeFuncNested
import Derived.RangeFuncBound
import Derived.RangeFuncCalls
import Derived.RangeFuncLeaves
import Derived.RangeFuncFrom
import Derived.Shelf.Abstract
import Derived.Shelf.RegionOpen
import Derived.OwnWalkIn
import Derived.TacticsInMore
import Derived.LoopNIn
import Derived.LoopIn
import Derived.Laws.EntriesVeiled
import Derived.Test.YtpgpciaafjodgaaGreatDoorXnB
/- Layer 21: an empty trie; iterators that give nothing. -/
namespace Go.Proofs.YtpgpciaafjodgaaGreatDoor
open Go.RowKit Go.Shelf
attribute [local go_sem] Oper.semAt_some
/-- A range over a function that never yields. -/
theorem wpIn_range_none {F : Fence} {n : Nat} {P : Program} {g : Operand} {ps : Array Tmp} {assign body : Code} {Q : Exit → Act → World → Prop} {a : Act} {w : World}
    (hro : F.round = none) (h1 : 1 ≤ n) {gf : Nat} {lb : Array Value} (hg : a.eval g = .func (.func gf) #[] lb) (hF : F.fn gf) (eg : ∀ args w, (callFunc gf args).run P w = .ok (.enter gf args) w)
    (hc : ∀ (l : Nat) (W : World), Below w.heap.size w W → CallsIn F (n - 1) P gf (#[.func (.yield l) #[] #[]] ++ lb) W fun e W' => (∃ v, e = .returned v) ∧ Below W.heap.size W W')
    (hd : ∀ (D : Nat) (W : World), w.heap.size ≤ D → Below w.heap.size w W → W.heap[D]? = some (.deferred (some [])) → Q .normal { a with defers := { target := .collected D, args := #[] } :: a.defers } W) :
    (Code.rangeFunc g ps assign body).wpIn F n P Q a w := by
  refine wpIn_rangeFunc fun fn hfn => ?_
  rw [hro]
  let W0 := w.alloc (.deferred (some []))
  let r : Loop := { state := .ready, pending := none, fn, tmps := a.tmps, params := ps, assign, body, defers := w.heap.size }
  let W1 := W0.alloc (.loop r)
  have s0 : W0.heap.size = w.heap.size + 1 := World.size_alloc _ _
  have s1 : W1.heap.size = w.heap.size + 2 := by rw [World.size_alloc, s0]
  have B1 : Below w.heap.size w W1 := ((Below.refl _ w).alloc (Nat.le_refl _) _).alloc (by simp) _
  have L1 : W1.heap[w.heap.size + 1]? = some (.loop r) := by
    have h := World.alloc_heap_new W0 (.loop r)
    rwa [s0] at h
  have D1 : W1.heap[w.heap.size]? = some (.deferred (some [])) := (Below.heap_alloc _ _ _ (by rw [s0]; omega)).trans (World.alloc_heap_new w _)
  refine ⟨w.heap.size + 1, [{ target := .collected w.heap.size, args := #[] }], W1, { target := .fn (.func gf) lb, args := #[.func (.yield (w.heap.size + 1)) #[] #[]] }, W1, gf, #[.func (.yield (w.heap.size + 1)) #[] #[]] ++ lb, W1, run_enterLoop_outer _ _ _ _ _, ?_, ?_, ?_, fun _ => h1, ?_⟩
  · simp only [resolve, hg]
    simp [go_sem]
  · intro f' hf'
    simp [Target.leads] at hf'
    subst hf'
    exact hF
  · simp [invoke, go_sem, eg]
  · refine (hc (w.heap.size + 1) W1 B1).mono ?_
    rintro e W2 ⟨⟨v, rfl⟩, B2⟩
    have L2 : W2.heap[w.heap.size + 1]? = some (.loop r) := (B2.block _ (by rw [s1]; omega)).trans L1
    have D2 : W2.heap[w.heap.size]? = some (.deferred (some [])) := (B2.block _ (by rw [s1]; omega)).trans D1
    refine ⟨none, _, run_endLoop L2 (by simp [r]), hd _ _ (Nat.le_refl _) ?_ ((World.putObj_heap_other (by omega)).trans D2)⟩
    exact (B1.trans (B2.mono B1.size)).trans (belowK_b (w := w) (Nat.le_refl _) W2 _ _ _ (by omega) L2 rfl rfl)
set_option maxRecDepth 100000 in
set_option maxHeartbeats 4000000 in
theorem new_no  (w : World) : Calls Tryz.prog 58 #[] w fun e w' => e = .returned (.pointer (some ⟨w.heap.size, 0, none⟩)) ∧ w'.cell? ⟨w.heap.size, 0, none⟩ = some .nilIface ∧ Below w.heap.size w w' := by
  go_enter Tryz.func58, Tryz.ntmps58
  go_wp2
  simp [bodyPost, results, Tryz.results58, go_sem]
  exact (Below.refl _ _).alloc (Nat.le_refl _) _
set_option maxRecDepth 100000 in
set_option maxHeartbeats 4000000 in
theorem top_no {b : Nat} (w : World) (hc : w.cell? ⟨b, 0, none⟩ = some .nilIface) : Calls Tryz.prog 68 #[.pointer (some ⟨b, 0, none⟩)] w fun e w' => e = .returned .nilIface ∧ Below w.heap.size w w' := by
  go_enter Tryz.func68, Tryz.ntmps68
  go_wp2
  simp [bodyPost, results, Tryz.results68, go_sem]
  exact Below.refl _ _
theorem if_nilN (w : World) : (binOp .eql 105 .nilIface .nilIface).run Tryz.prog w = .ok (.bool true) w := by kernel_rfl
set_option maxRecDepth 100000 in
set_option maxHeartbeats 4000000 in
theorem nodes_no {b : Nat} {v : Value} (w : World) (hc : w.cell? ⟨b, 0, none⟩ = some .nilIface) : Calls Tryz.prog 46 #[.pointer (some ⟨b, 0, none⟩), v] w fun e w' => e = .returned (.slice none 0 0) ∧ Below w.heap.size w w' := by
  have TP := top_no w hc
  have ifn := if_nilN
  clear hc
  go_enter Tryz.func46, Tryz.ntmps46
  go_wp2_with fail
  with_reducible refine TP.mono ?_
  rintro e w1 ⟨rfl, hb⟩
  go_wp2
  simp [bodyPost, results, Tryz.results46, go_sem]
  exact hb
set_option maxRecDepth 100000 in
set_option maxHeartbeats 4000000 in
theorem Each_no  (w : World) : Calls Tryz.prog 39 #[.pointer none] w fun e w' => e = .returned (.func (.func 52) #[] #[]) ∧ Below w.heap.size w w' := by
  go_enter Tryz.func39, Tryz.ntmps39
  go_wp2
  simp [bodyPost, results, Tryz.results39, go_sem]
  exact Below.refl _ _
set_option maxRecDepth 100000 in
set_option maxHeartbeats 4000000 in
theorem Each1_no (v : Value) (w : World) : Calls Tryz.prog 52 #[v] w fun e w' => (∃ x, e = .returned x) ∧ Below w.heap.size w w' := by
  go_enter Tryz.func52, Tryz.ntmps52
  go_wp2
  simp [bodyPost, results, Tryz.results52, go_sem]
  exact Below.refl _ _
set_option maxRecDepth 100000 in
set_option maxHeartbeats 4000000 in
theorem accTrie_no (w : World) : Calls Tryz.prog 42 #[.pointer none] w fun e w' => ∃ b, e = .returned (.pointer (some ⟨b, 0, none⟩)) ∧ w'.cell? ⟨b, 0, none⟩ = some .nilIface ∧ Below w.heap.size w w' := by
  refine (callsIn_wide (n := 3)).1 ?_
  have cs : (w.alloc (.cells #[.pointer none] 22)).cell? ⟨w.heap.size, 0, none⟩ = some (.pointer none) := World.cell?_alloc_mark w #[.pointer none] _ (0, 0) 0
  refine callsIn_of_wp_marks Tryz.func42 rfl trivial ?_ rfl
  simp only [Tryz.ntmps42, List.size_toArray, List.length_cons, List.length_nil, Nat.reduceAdd, Nat.reduceSub, Array.replicate_succ, Array.replicate_zero, List.push_toArray, List.append_toArray, List.nil_append, List.cons_append]
  gi_wp2_with first | (refine ⟨trivial, ?_⟩; gi_at_call 58; refine (callsIn_wide.2 (new_no _)).mono ?_; rintro e w1 ⟨rfl, c1, B1⟩; (have c9 := fun o => cell_keep ((Below.refl w1.heap.size w1).alloc (Nat.le_refl _) o) (cell_keep B1 cs))) | (refine ⟨trivial, ?_⟩; gi_at_call 39; refine (callsIn_wide.2 (Each_no _)).mono ?_; rintro e w2 ⟨rfl, B2⟩)
  have BW : Below w.heap.size w w1 := ((Below.refl _ w).alloc (Nat.le_refl _) _).trans (B1.mono (by simp))
  have ct : w2.cell? ⟨w1.heap.size, 0, none⟩ = some (.pointer (some ⟨w.heap.size + 1, 0, none⟩)) := cell_keep B2 (World.cell?_alloc_mark w1 _ _ (0, 0) 0)
  have cn : w2.cell? ⟨w.heap.size + 1, 0, none⟩ = some .nilIface := by
    have h := c1
    rw [World.size_alloc] at h
    exact cell_keep B2 (cell_keep ((Below.refl w1.heap.size w1).alloc (Nat.le_refl _) _) h)
  have BV : Below w.heap.size w w2 := (BW.alloc BW.size _).trans (B2.mono (by have := BW.size; simp; omega))
  clear c9 c1 cs B1 B2
  refine wpIn_range_none (F := Fence.wide) (n := 3) (P := Tryz.prog) rfl (by decide) (gf := 52) (lb := #[]) ?_ trivial (enters_of Tryz.func52 (by kernel_rfl) rfl) ?_ ?_
  · rfl
  · intro l W B
    exact callsIn_wide.2 (Each1_no _ W)
  · intro D W hD B hK
    have c6 : W.cell? ⟨w1.heap.size, 0, none⟩ = some (.pointer (some ⟨w.heap.size + 1, 0, none⟩)) := cell_keep B ct
    have c7 : W.cell? ⟨w.heap.size + 1, 0, none⟩ = some .nilIface := cell_keep B cn
    gi_wp2
    have BK := belowK_b (w := w2) (n₀ := w2.heap.size) (Nat.le_refl _) W D _ (.deferred none) hD hK rfl rfl
    refine ⟨by simp, .inl ⟨_, _, rfl, run_takeDeferred hK, ?_⟩⟩
    refine ⟨.pointer (some ⟨w.heap.size + 1, 0, none⟩), ?_, _, rfl, ?_, ?_⟩
    · simp [results, Tryz.f42, go_sem]
    · rw [BK.cell (p := ⟨w.heap.size + 1, 0, none⟩) (World.block_lt_of_cell? w2 _ cn)]; exact c7
    · exact (BV.trans (B.mono BV.size)).trans (BK.mono BV.size)
set_option maxRecDepth 100000 in
set_option maxHeartbeats 4000000 in
theorem keys_no  (w : World) : Calls Tryz.prog 63 #[.map none] w fun e w' => e = .returned (.func (.func 88) #[] #[.pointer (some ⟨w.heap.size, 0, none⟩)]) ∧ w'.cell? ⟨w.heap.size, 0, none⟩ = some (.map none) ∧ Below w.heap.size w w' := by
  go_enter Tryz.func63, Tryz.ntmps63
  go_wp2
  simp [bodyPost, results, Tryz.results63, go_sem]
  exact (Below.refl _ _).alloc (Nat.le_refl _) _
set_option maxRecDepth 100000 in
set_option maxHeartbeats 4000000 in
theorem keys1_no {b : Nat} {v : Value} (w : World) (hc : w.cell? ⟨b, 0, none⟩ = some (.map none)) : Calls Tryz.prog 88 #[v, .pointer (some ⟨b, 0, none⟩)] w fun e w' => (∃ x, e = .returned x) ∧ Below w.heap.size w w' := by
  have rg := fun w : World => run_range_nilMap (P := Tryz.prog) w 61 _ _ Tryz.underlying61
  have nx := fun (w : World) (ty : TypeId) => run_next_nilMap (P := Tryz.prog) w ty 0 0 #[]
  go_enter Tryz.func88, Tryz.ntmps88
  go_wp2_with fail
  go_loopg [] 1 (fun k wr => k = 1 ∧ wr = w.alloc (.mapIter none 0 #[] 0))
  case atStart => exact ⟨rfl, rfl⟩
  case round =>
    obtain ⟨rfl, rfl⟩ := hrel
    go_wp2
    simp [bodyPost, results, Tryz.results88, go_sem]
    exact (Below.refl _ _).alloc (Nat.le_refl _) _
set_option maxRecDepth 100000 in
set_option maxHeartbeats 4000000 in
theorem insert_no {v : Value} (w : World) : Calls Tryz.prog 142 #[.slice none 0 0, .int .i64 0, .int .i64 0, v] w fun e w' => (∃ x, e = .returned x) ∧ Below w.heap.size w w' := by
  go_enter Tryz.func142, Tryz.ntmps142
  go_wp2_with fail
  go_loopg [8] 1 (fun k iv wr => k = 1 ∧ iv = .int .i64 1 ∧ wr = w)
  case atStart => exact ⟨rfl, rfl, rfl⟩
  case round =>
    obtain ⟨rfl, rfl, rfl⟩ := hrel
    go_wp2
    simp [bodyPost, results, Tryz.results142, go_sem]
    exact Below.refl _ _
end Go.Proofs.YtpgpciaafjodgaaGreatDoor

import Derived.Test.YtagcbcmbojggkaaDoorFProd
import Derived.Test.YtagcbcmbojggkaaDoorFInvs
import Derived.Test.YtagcbcmbojggkaaDoorFBin
import Derived.Test.YtagcbcmbojggkaaDoorQTail
namespace Go.Proofs.YtagcbcmbojggkaaDoor
open Go.RowKit Go.Sort

set_option maxHeartbeats 8000000 in
theorem Inverses_some {k m c : Int} (hk : Kind k m c) (hp : Prm m) {L : List Int} (hl : L.length ≤ 65536) (hN : ∀ i, i < L.length → Num (L.getD i 0)) (hz : preN m L L.length ≠ 0) {a : Option Addr} {g o cap : Nat} (ha : L = [] ∨ a = some ⟨g, o, none⟩) (w : World) (hm : Mds w) (hI : Nms w g o L) (hg : g < w.heap.size) :
    Calls Tryd.prog 4 #[.int .i64 k, .slice a L.length cap] w fun e w' => ∃ b, e = .returned (.tuple #[.slice (some ⟨b, 0, none⟩) L.length L.length, .int .i64 0]) ∧ w.heap.size ≤ b ∧ Own4 w' b (L.map (invN m)) ∧ Below w.heap.size w w' := by
  have hf := hk.fit
  have HL : Hid (L.length ≤ 65536) := hl
  have HA : Hid (L = [] ∨ a = some ⟨g, o, none⟩) := ha
  have HN : Hid (∀ i, i < L.length → Num (L.getD i 0)) := hN
  have hq := feq_zero (preN_Num hf L L.length)
  rw [show decide (preN m L L.length = 0) = false by simp [hz]] at hq
  have BK : Hid (BackOf m L L.length (invN m (preN m L L.length))) := back_first hf hp L L.length hz
  have bz := build_zero
  have nl : decide ((L.length : Int) > 65536) = false := by simp; omega
  have IV : Hid (∀ w, Calls Tryd.prog 10 #[.agg #[.int .u64 (l0 m), .int .u64 (l1 m), .int .u64 (l2 m), .int .u64 (l3 m), .int .u64 (l0 c), .int .u64 (l1 c), .int .u64 (l2 c), .int .u64 (l3 c)], .agg #[.int .u64 (l0 (preN m L L.length)), .int .u64 (l1 (preN m L L.length)), .int .u64 (l2 (preN m L L.length)), .int .u64 (l3 (preN m L L.length))]] w fun e w' => e = .returned (.agg #[.int .u64 (l0 (invN m (preN m L L.length))), .int .u64 (l1 (invN m (preN m L L.length))), .int .u64 (l2 (invN m (preN m L L.length))), .int .u64 (l3 (invN m (preN m L L.length)))]) ∧ Below w.heap.size w w') := finverse_any hf (preN_Num hf L L.length)
  clear ha hN hz
  go_enter Tryd.func4, Tryd.ntmps4
  go_wp2_with fail
  refine calls_world (fun W => Below w.heap.size w W ∧ Mds W ∧ Nms W g o L) ⟨by repeat (first | with_reducible exact Below.refl _ _ | with_reducible refine Below.alloc ?_ (by first | omega | (simp; done) | (simp; omega)) _), hm, hI⟩ ?_
  clear hm hI
  rintro W ⟨B, hD, hI⟩
  with_reducible refine (of_good hk _ hD).mono ?_
  rintro e w1 ⟨rfl, hb⟩
  replace B := B.trans (hb.mono B.size)
  replace hI := hI.keep hb
  clear hb hD W
  go_wp2_with fail
  refine calls_world (fun W => Below w.heap.size w W ∧ HoldM W w1.heap.size m c ∧ Nms W g o L) ⟨B.alloc B.size _, HoldM.new _ _ _ _, hI.alloc _⟩ ?_
  have o1 : w.heap.size ≤ w1.heap.size := B.size
  clear B hI
  rintro W ⟨B, hF, hI⟩
  generalize w1.heap.size = bf at *
  have hgW : g < W.heap.size := Nat.lt_of_lt_of_le hg B.size
  have PR := products_any hf HL.out HN.out (cap := cap) HA.out W hI hgW
  with_reducible refine PR.mono ?_
  rintro e w2 ⟨ba, rfl, gb, hA, hb⟩
  have o2 : w.heap.size ≤ ba := Nat.le_trans B.size gb
  have n1 : ba ≠ bf := by have := hF.lt; omega
  have n2 : ba ≠ g := by omega
  replace B := B.trans (hb.mono B.size)
  replace hF := hF.keep hb; replace hI := hI.keep hb
  clear hb hgW gb PR W
  have gF := fun o => (hF.alloc o).cells
  go_wp2_with fail
  refine calls_world (fun W => Below w.heap.size w W ∧ HoldM W bf m c ∧ Nms W g o L ∧ Own4 W ba (aheadL m L L.length)) ⟨B.alloc B.size _, hF.alloc _, hI.alloc _, hA.alloc _⟩ ?_
  clear B hF hI hA gF
  rintro W ⟨B, hF, hI, hA⟩
  generalize w2.heap.size = bq at *
  with_reducible refine (IV.out _).mono ?_
  rintro e w3 ⟨rfl, hb⟩
  replace B := B.trans (hb.mono B.size)
  replace hF := hF.keep hb; replace hI := hI.keep hb; replace hA := hA.keep hb
  clear hb W
  clear hq bz nl IV
  have l6 : (L.length : Int) ≤ 65536 := by have := HL.out; omega
  go_wp2_with fail
  have c0 : w3.heap.size ≠ bf := by have := hF.lt; omega
  have c1 : w3.heap.size ≠ ba := by have := hA.lt; omega
  have c2 : w3.heap.size ≠ g := by have := B.size; omega
  have o3 : w.heap.size ≤ w3.heap.size := B.size
  refine wp_world (fun W => Below w.heap.size w W ∧ HoldM W bf m c ∧ Nms W g o L ∧ Own4 W ba (turnL m L L.length) ∧ Var W w3.heap.size (invN m (preN m L L.length))) ⟨B.alloc B.size _, hF.alloc _, hI.alloc _, by rw [turnL_all]; exact hA.alloc _, Var.new rfl⟩ ?_
  clear B hF hI hA
  rintro W ⟨B, hF, hI, hA, hP⟩
  generalize w3.heap.size = bp at *
  go_loopg [11] L.length (fun k iv wr => ∃ (i : Nat) (b : Int), k = i ∧ i ≤ L.length ∧ iv = .int .i64 ((i : Int) - 1) ∧ BackOf m L i b ∧ Below w.heap.size w wr ∧ HoldM wr bf m c ∧ Nms wr g o L ∧ Own4 wr ba (turnL m L i) ∧ Var wr bp b)
  case atStart => exact ⟨L.length, _, rfl, Nat.le_refl _, by go_num, BK.out, B, hF, hI, hA, hP⟩
  case round =>
    clear B hF hI hA hP W BK
    obtain ⟨i, b, rfl, hi, rfl, hB, B, hF, hI, hA, hP⟩ := hrel
    have HB : Hid (BackOf m L gk b ∧ gk ≤ L.length) := ⟨hB, hi⟩
    clear hB hi
    by_cases hz : gk = 0
    · subst hz
      go_wp2
      simp [bodyPost, results, Tryd.results4, go_sem]
      rw [turnL_none] at hA
      exact ⟨o2, hA, B⟩
    · obtain ⟨j, rfl⟩ : ∃ j, gk = j + 1 := ⟨gk - 1, by omega⟩
      have e1 : ((j + 1 : Nat) : Int) - 1 = j := by omega
      rw [e1]
      clear e1 hz
      have hlt : j < L.length := by have := HB.out.2; omega
      obtain rfl : a = some ⟨g, o, none⟩ := by
        rcases HA.out with h | h
        · rw [h] at hlt; simp at hlt
        · exact h
      have gI := hI j hlt
      have la := turnL_len m L HB.out.2
      have nx := HN.out j hlt
      obtain ⟨st1, st2⟩ := back_step hf hp nx.1 HB.out.1
      have nb := HB.out.1.1
      have M1 : Hid (∀ w, Calls Tryd.prog 11 #[.agg #[.int .u64 (l0 m), .int .u64 (l1 m), .int .u64 (l2 m), .int .u64 (l3 m), .int .u64 (l0 c), .int .u64 (l1 c), .int .u64 (l2 c), .int .u64 (l3 c)], .agg #[.int .u64 (l0 (preN m L j)), .int .u64 (l1 (preN m L j)), .int .u64 (l2 (preN m L j)), .int .u64 (l3 (preN m L j))], .agg #[.int .u64 (l0 b), .int .u64 (l1 b), .int .u64 (l2 b), .int .u64 (l3 b)]] w fun e w' => e = .returned (.agg #[.int .u64 (l0 (invN m (L.getD j 0))), .int .u64 (l1 (invN m (L.getD j 0))), .int .u64 (l2 (invN m (L.getD j 0))), .int .u64 (l3 (invN m (L.getD j 0)))]) ∧ Below w.heap.size w w') := fun w => by
        have := fmul_any hf (preN_Num hf L j) nb w; rw [st1] at this; exact this
      have M2 : Hid (∀ w, Calls Tryd.prog 11 #[.agg #[.int .u64 (l0 m), .int .u64 (l1 m), .int .u64 (l2 m), .int .u64 (l3 m), .int .u64 (l0 c), .int .u64 (l1 c), .int .u64 (l2 c), .int .u64 (l3 c)], .agg #[.int .u64 (l0 b), .int .u64 (l1 b), .int .u64 (l2 b), .int .u64 (l3 b)], .agg #[.int .u64 (l0 (L.getD j 0)), .int .u64 (l1 (L.getD j 0)), .int .u64 (l2 (L.getD j 0)), .int .u64 (l3 (L.getD j 0))]] w fun e w' => e = .returned (.agg #[.int .u64 (l0 (modN m (b * L.getD j 0))), .int .u64 (l1 (modN m (b * L.getD j 0))), .int .u64 (l2 (modN m (b * L.getD j 0))), .int .u64 (l3 (modN m (b * L.getD j 0)))]) ∧ Below w.heap.size w w') := fmul_any hf nb nx
      have HS : Hid (BackOf m L j (modN m (b * L.getD j 0)) ∧ (turnL m L (j + 1)).set j (invN m (L.getD j 0)) = turnL m L j ∧ j < (turnL m L (j + 1)).length) := ⟨st2, turnL_set m L hlt, by rw [la]; exact hlt⟩
      clear st1 st2 nb nx
      have gAg : ∀ d os, (grow (redrawn wr d) os).cell? ⟨ba, j * 4, none⟩ = some (.int .u64 (l0 (preN m L j))) ∧ (grow (redrawn wr d) os).cell? ⟨ba, j * 4 + 1, none⟩ = some (.int .u64 (l1 (preN m L j))) ∧ (grow (redrawn wr d) os).cell? ⟨ba, j * 4 + 2, none⟩ = some (.int .u64 (l2 (preN m L j))) ∧ (grow (redrawn wr d) os).cell? ⟨ba, j * 4 + 3, none⟩ = some (.int .u64 (l3 (preN m L j))) := fun d os => by
        have := (hA.keep (below_regrown wr d os)).1 j (by rw [la]; exact hlt)
        rw [turnL_at m L hlt] at this
        simpa using this
      have gPg := hP.1.grown; have gFg := hF.grown
      have EX0 : L.getD j 0 = L.getD j 0 := rfl
      generalize hxv : L.getD j 0 = xv at gI M1 M2 HS
      have EX : Hid (L.getD j 0 = xv) := hxv
      clear hxv EX0
      generalize modN m (b * xv) = yv at M2 HS
      generalize invN m xv = zv at M1 HS
      go_wp2_with fail
      refine below_tail 9 (by kernel_rfl) (by kernel_rfl) ?_
      simp only [List.take_succ_cons, List.take_zero, List.drop_succ_cons, List.drop_zero]
      repeat
        first
          | go_big_quiet_skip
          | (go_big_quiet_want; go_big_quiet_op; go_big_quiet_on)
          | (go_big_quiet_want
             go_big_quiet_op
             apply Exists.intro
             refine ⟨fun p => ?_, ?_⟩
             · (first | (go_at_call 11; with_reducible exact Calls.regrown_of (M1.out _)))
             go_big_quiet_on)
      refine wpQuiet_nil ?_
      rintro w4 ⟨p, rfl⟩
      have hb := below_regrown wr p.d p.os
      generalize grow (redrawn wr p.d) p.os = w4 at *
      replace B := B.trans (hb.mono B.size)
      replace hF := hF.keep hb; replace hI := hI.keep hb; replace hA := hA.keep hb; replace hP := hP.keep hb
      clear hb gAg gPg gFg gI M1
      have gA := hA.1 j (by rw [la]; exact hlt)
      rw [turnL_at m L hlt] at gA
      simp only [Nat.zero_add] at gA
      have fA0 : w4.frozen? ⟨ba, j * 4, none⟩ = false := hA.2.1 _ (by rw [la]; omega)
      have fA1 : w4.frozen? ⟨ba, j * 4 + 1, none⟩ = false := hA.2.1 _ (by rw [la]; omega)
      have fA2 : w4.frozen? ⟨ba, j * 4 + 2, none⟩ = false := hA.2.1 _ (by rw [la]; omega)
      have fA3 : w4.frozen? ⟨ba, j * 4 + 3, none⟩ = false := hA.2.1 _ (by rw [la]; omega)
      clear la
      have na : ba ≠ bp := fun h => c1 h.symm
      go_wp2_with fail
      refine wp_world (fun W => Below w.heap.size w W ∧ HoldM W bf m c ∧ Nms W g o L ∧ Own4 W ba (turnL m L j) ∧ Var W bp b) ⟨(((B.setCell o2 _).setCell o2 _).setCell o2 _).setCell o2 _, hF.setAt n1 _ _ _ _, hI.set4 n2 _ _ _ _, ?_, hP.setAt na _ _ _ _⟩ ?_
      · rw [← HS.out.2.1]; exact hA.sets HS.out.2.2 _
      clear B hF hI hA hP gA fA0 fA1 fA2 fA3 w4
      rintro W ⟨B, hF, hI, hA, hP⟩
      have gIg : ∀ d os, (grow (redrawn W d) os).cell? ⟨g, o + j * 4, none⟩ = some (.int .u64 (l0 xv)) ∧ (grow (redrawn W d) os).cell? ⟨g, o + j * 4 + 1, none⟩ = some (.int .u64 (l1 xv)) ∧ (grow (redrawn W d) os).cell? ⟨g, o + j * 4 + 2, none⟩ = some (.int .u64 (l2 xv)) ∧ (grow (redrawn W d) os).cell? ⟨g, o + j * 4 + 3, none⟩ = some (.int .u64 (l3 xv)) := fun d os => by
        have := (hI.keep (below_regrown W d os)) j hlt
        rw [EX.out] at this
        exact this
      have gPg := hP.1.grown; have gFg := hF.grown
      refine below_tail 7 (by kernel_rfl) (by kernel_rfl) ?_
      simp only [List.take_succ_cons, List.take_zero, List.drop_succ_cons, List.drop_zero]
      repeat
        first
          | go_big_quiet_skip
          | (go_big_quiet_want; go_big_quiet_op; go_big_quiet_on)
          | (go_big_quiet_want
             go_big_quiet_op
             apply Exists.intro
             refine ⟨fun p => ?_, ?_⟩
             · (first | (go_at_call 11; with_reducible exact Calls.regrown_of (M2.out _)))
             go_big_quiet_on)
      refine wpQuiet_nil ?_
      rintro w5 ⟨p, rfl⟩
      have hb := below_regrown W p.d p.os
      generalize grow (redrawn W p.d) p.os = w5 at *
      replace B := B.trans (hb.mono B.size)
      replace hF := hF.keep hb; replace hI := hI.keep hb; replace hA := hA.keep hb; replace hP := hP.keep hb
      clear hb gIg gPg gFg M2 W
      have gP := hP.1.cells; have fP := hP.2.all4
      have j6 : (j : Int) < 65536 := by omega
      go_wp2
      go_roundg j
      case measure => omega
      case rel => exact ⟨j, yv, rfl, Nat.le_of_lt hlt, by go_num, HS.out.1, below_set4 B o3 _ _ _ _, hF.set4 c0 _ _ _ _, hI.set4 (k := 0) c2 _ _ _ _, hA.set4 (k := 0) c1 _ _ _ _, hP.sets _⟩
end Go.Proofs.YtagcbcmbojggkaaDoor

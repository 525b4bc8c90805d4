import Derived.Test.YtbcjikoajjhfaaaDoorFReduce
import Derived.Test.YtbcjikoajjhfaaaDoorRefCmp
namespace Go.Proofs.YtbcjikoajjhfaaaDoor
open Go.RowKit Go.Sort

/-- The modulus of the document: p for the kind 0, n for every other. -/
def rM (k : Int) : Int := if k = 0 then pN else nN
def rC (k : Int) : Int := if k = 0 then pC else nC
theorem rfit (k : Int) : Fit (rM k) (rC k) := by
  unfold rM rC
  by_cases h : k = 0
  · rw [if_pos h, if_pos h]; exact fit_p
  · rw [if_neg h, if_neg h]; exact fit_n

set_option maxHeartbeats 1000000 in
theorem rmodulus_any (k : Int) (w : World) :
    Calls Tryd.prog 109 #[.int .i64 k] w fun e w' => e = .returned (.agg #[.int .u64 (l0 (rM k)), .int .u64 (l1 (rM k)), .int .u64 (l2 (rM k)), .int .u64 (l3 (rM k))]) ∧ Below w.heap.size w w' := by
  by_cases h0 : k = 0
  · obtain ⟨a0, a1, a2, a3⟩ := limbs_p
    rw [show rM k = pN by simp [rM, h0], a0, a1, a2, a3]
    subst h0
    clear a0 a1 a2 a3
    go_enter Tryd.func109, Tryd.ntmps109
    go_wp2
    simp [bodyPost, results, Tryd.results109, go_sem]
    repeat (first | with_reducible exact Below.refl _ _ | with_reducible refine Below.drew ?_ | with_reducible refine Below.alloc ?_ (by first | omega | (simp; done) | (simp; omega)) _ | with_reducible refine Below.setCell ?_ (by first | omega | (simp; done)) _)
  · obtain ⟨a0, a1, a2, a3⟩ := limbs_n
    rw [show rM k = nN by simp [rM, h0], a0, a1, a2, a3]
    have t0 : (k == 0) = false := by simp [h0]
    clear a0 a1 a2 a3
    go_enter Tryd.func109, Tryd.ntmps109
    go_wp2
    simp [bodyPost, results, Tryd.results109, go_sem]
    repeat (first | with_reducible exact Below.refl _ _ | with_reducible refine Below.drew ?_ | with_reducible refine Below.alloc ?_ (by first | omega | (simp; done) | (simp; omega)) _ | with_reducible refine Below.setCell ?_ (by first | omega | (simp; done)) _)

theorem rc_eq (k : Int) : difN 0 (rM k) = rC k := by
  obtain ⟨a, b, c⟩ := rfit k
  unfold difN; omega


/-- The state of fold. -/
structure RF (w W : World) (bh bl br bz bm bc : Nat) (H L m c : Int) : Prop where
  B : RowKit.Below w.heap.size w W
  hH : Var W bh H
  hL : Var W bl L
  hR : Blank W br
  hZ : Blank W bz
  hM : Hold W bm m
  hC : Hold W bc c
theorem RF.keep {w W w1 : World} {bh bl br bz bm bc : Nat} {H L m c : Int} (s : RF w W bh bl br bz bm bc H L m c) (hb : RowKit.Below W.heap.size W w1) : RF w w1 bh bl br bz bm bc H L m c :=
  ⟨s.B.trans (hb.mono s.B.size), s.hH.keep hb, s.hL.keep hb, s.hR.keep hb, s.hZ.keep hb, s.hM.keep hb, s.hC.keep hb⟩
theorem RF.alloc {w W : World} {bh bl br bz bm bc : Nat} {H L m c : Int} (s : RF w W bh bl br bz bm bc H L m c) (o : Obj) : RF w (W.alloc o) bh bl br bz bm bc H L m c := s.keep ((Below.refl _ _).alloc (Nat.le_refl _) o)
theorem RF.drew {w W : World} {bh bl br bz bm bc : Nat} {H L m c : Int} (s : RF w W bh bl br bz bm bc H L m c) : RF w W.drew bh bl br bz bm bc H L m c := ⟨s.B.drew, s.hH, s.hL, s.hR, s.hZ, s.hM, s.hC⟩
/-- The blocks are apart. -/
structure RA (w : World) (bh bl br bz bm bc : Nat) : Prop where
  h : w.heap.size ≤ bh
  l : w.heap.size ≤ bl
  r : w.heap.size ≤ br
  hl : bh ≠ bl
  hr : bh ≠ br
  hz : bh ≠ bz
  hm : bh ≠ bm
  hc : bh ≠ bc
  lr : bl ≠ br
  lz : bl ≠ bz
  lm : bl ≠ bm
  lc : bl ≠ bc
theorem RF.setH {w W : World} {bh bl br bz bm bc : Nat} {H L m c : Int} (s : RF w W bh bl br bz bm bc H L m c) (a : RA w bh bl br bz bm bc) (k : Int) : RF w ((((W.setCell ⟨bh, 0, none⟩ (.int .u64 (l0 k))).setCell ⟨bh, 1, none⟩ (.int .u64 (l1 k))).setCell ⟨bh, 2, none⟩ (.int .u64 (l2 k))).setCell ⟨bh, 3, none⟩ (.int .u64 (l3 k))) bh bl br bz bm bc k L m c :=
  ⟨below_set4 s.B a.h _ _ _ _, s.hH.sets k, s.hL.set4 a.hl _ _ _ _, s.hR.set4 a.hr _ _ _ _, s.hZ.set4 a.hz _ _ _ _, s.hM.set4 a.hm _ _ _ _, s.hC.set4 a.hc _ _ _ _⟩
theorem RF.setL {w W : World} {bh bl br bz bm bc : Nat} {H L m c : Int} (s : RF w W bh bl br bz bm bc H L m c) (a : RA w bh bl br bz bm bc) (k : Int) : RF w ((((W.setCell ⟨bl, 0, none⟩ (.int .u64 (l0 k))).setCell ⟨bl, 1, none⟩ (.int .u64 (l1 k))).setCell ⟨bl, 2, none⟩ (.int .u64 (l2 k))).setCell ⟨bl, 3, none⟩ (.int .u64 (l3 k))) bh bl br bz bm bc H k m c :=
  ⟨below_set4 s.B a.l _ _ _ _, s.hH.set4 a.hl.symm _ _ _ _, s.hL.sets k, s.hR.set4 a.lr _ _ _ _, s.hZ.set4 a.lz _ _ _ _, s.hM.set4 a.lm _ _ _ _, s.hC.set4 a.lc _ _ _ _⟩

end Go.Proofs.YtbcjikoajjhfaaaDoor

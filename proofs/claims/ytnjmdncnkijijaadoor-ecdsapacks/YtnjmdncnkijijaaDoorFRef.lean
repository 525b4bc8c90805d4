import Derived.Test.YtnjmdncnkijijaaDoorFReduce
import Derived.Test.YtnjmdncnkijijaaDoorFFold
import Derived.Test.YtnjmdncnkijijaaDoorHold
import Derived.Test.YtnjmdncnkijijaaDoorLen
import Derived.Deep.LoopGhost
import Derived.Deep.RegionHeld3
import Derived.Test.YtnjmdncnkijijaaDoorFExp
import Derived.Test.YtnjmdncnkijijaaDoorFAdd
import Derived.Test.YtnjmdncnkijijaaDoorAdd
import Derived.Test.YtnjmdncnkijijaaDoorDivAny
namespace Go.Proofs.YtnjmdncnkijijaaDoor
open Go.RowKit Go.Sort

/-- The modulus of the document: p for the kind 0, n for every other. -/
def rM (k : Int) : Int := if k = 0 then pN else nN
set_option maxHeartbeats 1000000 in
theorem rmodulus_any (k : Int) (w : World) :
    Calls Tryd.prog 44 #[.int .i64 k] w fun e w' => e = .returned (.agg #[.int .u64 (l0 (rM k)), .int .u64 (l1 (rM k)), .int .u64 (l2 (rM k)), .int .u64 (l3 (rM k))]) ∧ Below w.heap.size w w' := by
  by_cases h0 : k = 0
  · obtain ⟨a0, a1, a2, a3⟩ := limbs_p
    rw [show rM k = pN by simp [rM, h0], a0, a1, a2, a3]
    subst h0
    clear a0 a1 a2 a3
    go_enter Tryd.func44, Tryd.ntmps44
    go_wp2
    simp [bodyPost, results, Tryd.results44, go_sem]
    repeat (first | with_reducible exact Below.refl _ _ | with_reducible refine Below.drew ?_ | with_reducible refine Below.alloc ?_ (by first | omega | (simp; done) | (simp; omega)) _ | with_reducible refine Below.setCell ?_ (by first | omega | (simp; done)) _)
  · obtain ⟨a0, a1, a2, a3⟩ := limbs_n
    rw [show rM k = nN by simp [rM, h0], a0, a1, a2, a3]
    have t0 : (k == 0) = false := by simp [h0]
    clear a0 a1 a2 a3
    go_enter Tryd.func44, Tryd.ntmps44
    go_wp2
    simp [bodyPost, results, Tryd.results44, go_sem]
    repeat (first | with_reducible exact Below.refl _ _ | with_reducible refine Below.drew ?_ | with_reducible refine Below.alloc ?_ (by first | omega | (simp; done) | (simp; omega)) _ | with_reducible refine Below.setCell ?_ (by first | omega | (simp; done)) _)

/-- The state of fold. -/
structure RF (w W : World) (bh bl br bz bm bc : Nat) (H L m c : Int) : Prop where
  B : RowKit.Below w.heap.size w W
  hH : Var W bh H
  hL : Var W bl L
  hR : Blank W br
  hZ : Blank W bz
  hM : Hold W bm m
  hC : Hold W bc c
theorem RF.keep {w W w1 : World} {bh bl br bz bm bc : Nat} {H L m c : Int} (s : RF w W bh bl br bz bm bc H L m c) (hb : RowKit.Below W.heap.size W w1) : RF w w1 bh bl br bz bm bc H L m c :=
  ⟨s.B.trans (hb.mono s.B.size), s.hH.keep hb, s.hL.keep hb, s.hR.keep hb, s.hZ.keep hb, s.hM.keep hb, s.hC.keep hb⟩
theorem RF.alloc {w W : World} {bh bl br bz bm bc : Nat} {H L m c : Int} (s : RF w W bh bl br bz bm bc H L m c) (o : Obj) : RF w (W.alloc o) bh bl br bz bm bc H L m c := s.keep ((Below.refl _ _).alloc (Nat.le_refl _) o)
theorem RF.drew {w W : World} {bh bl br bz bm bc : Nat} {H L m c : Int} (s : RF w W bh bl br bz bm bc H L m c) : RF w W.drew bh bl br bz bm bc H L m c := ⟨s.B.drew, s.hH, s.hL, s.hR, s.hZ, s.hM, s.hC⟩
/-- The blocks are apart. -/
structure RA (w : World) (bh bl br bz bm bc : Nat) : Prop where
  h : w.heap.size ≤ bh
  l : w.heap.size ≤ bl
  r : w.heap.size ≤ br
  hl : bh ≠ bl
  hr : bh ≠ br
  hz : bh ≠ bz
  hm : bh ≠ bm
  hc : bh ≠ bc
  lr : bl ≠ br
  lz : bl ≠ bz
  lm : bl ≠ bm
  lc : bl ≠ bc
end Go.Proofs.YtnjmdncnkijijaaDoor

namespace Go.Proofs.YtnjmdncnkijijaaDoor
open Go.RowKit Go.Sort

/-- k is a kind; m its modulus, c what is left of 2^256. -/
structure Kind (k m c : Int) : Prop where
  em : kM k = m
  ec : kC k = c
  ee : kE k = 0
  fit : Fit m c
theorem kind_n : Kind 1 nN nC := ⟨rfl, rfl, rfl, fit_n⟩
theorem of_good {k m c : Int} (h : Kind k m c) (w : World) (hm : Mds w) :
    Calls Tryd.prog 42 #[.int .i64 k] w fun e w' => e = .returned (.tuple #[.agg #[.int .u64 (l0 m), .int .u64 (l1 m), .int .u64 (l2 m), .int .u64 (l3 m), .int .u64 (l0 c), .int .u64 (l1 c), .int .u64 (l2 c), .int .u64 (l3 c)], .int .i64 0]) ∧ Below w.heap.size w w' := by
  have := of_any k w hm
  rw [h.em, h.ec, h.ee] at this
  exact this
end Go.Proofs.YtnjmdncnkijijaaDoor

namespace Go.Proofs.YtnjmdncnkijijaaDoor
open Go.RowKit Go.Sort

set_option maxHeartbeats 2000000 in
theorem Modulus_walk {k m c e0 : Int} (O : Hid (∀ w, Mds w → Calls Tryd.prog 42 #[.int .i64 k] w fun e w' => e = .returned (.tuple #[.agg #[.int .u64 (l0 m), .int .u64 (l1 m), .int .u64 (l2 m), .int .u64 (l3 m), .int .u64 (l0 c), .int .u64 (l1 c), .int .u64 (l2 c), .int .u64 (l3 c)], .int .i64 e0]) ∧ Below w.heap.size w w')) (w : World) (hm : Mds w) :
    Calls Tryd.prog 38 #[.int .i64 k] w fun e w' => e = .returned (.tuple #[.agg #[.int .u64 (l0 m), .int .u64 (l1 m), .int .u64 (l2 m), .int .u64 (l3 m)], .int .i64 e0]) ∧ Below w.heap.size w w' := by
  go_enter Tryd.func38, Tryd.ntmps38
  go_wp2_with fail
  refine calls_world (fun W => Below w.heap.size w W ∧ Mds W ∧ Blank W w.heap.size) ⟨by repeat (first | with_reducible exact Below.refl _ _ | with_reducible refine Below.alloc ?_ (by first | omega | (simp; done) | (simp; omega)) _), hm.alloc _, Blank.new (by simp)⟩ ?_
  rintro W ⟨B, hD, hR⟩
  have o3 : w.heap.size ≤ w.heap.size := by omega
  with_reducible refine (O.out _ hD).mono ?_
  rintro e w1 ⟨rfl, hb⟩
  replace B := B.trans (hb.mono B.size)
  replace hR := hR.keep hb
  have lr := hR.1.lt (by simp)
  have nr : w1.heap.size ≠ w.heap.size := by omega
  have nr' := nr.symm
  clear hb hD W lr
  have gR := fun o => (hR.alloc o).1.all4
  have fR := fun o => (hR.alloc o).2.all4
  have BB : Hid (∀ o, Below w.heap.size w (w1.alloc o)) := fun o => B.alloc B.size o
  clear B hR
  go_wp2
  simp [bodyPost, results, Tryd.results38, go_sem, *]
  repeat (first | with_reducible exact BB.out _ | with_reducible refine Below.drew ?_ | with_reducible refine Below.setCell ?_ (by with_reducible assumption) _)

theorem Modulus_good {k m c : Int} (hk : Kind k m c) (w : World) (hm : Mds w) :
    Calls Tryd.prog 38 #[.int .i64 k] w fun e w' => e = .returned (.tuple #[.agg #[.int .u64 (l0 m), .int .u64 (l1 m), .int .u64 (l2 m), .int .u64 (l3 m)], .int .i64 0]) ∧ Below w.heap.size w w' := Modulus_walk (fun w h => of_good hk w h) w hm
end Go.Proofs.YtnjmdncnkijijaaDoor

namespace Go.Proofs.YtnjmdncnkijijaaDoor
open Go.RowKit Go.Sort

/-- The inverse by Fermat. -/
def invN (m x : Int) : Int := powN m x (m - 2)
end Go.Proofs.YtnjmdncnkijijaaDoor

namespace Go.Proofs.YtnjmdncnkijijaaDoor
open Go.RowKit Go.Sort

end Go.Proofs.YtnjmdncnkijijaaDoor

namespace Go.Proofs.YtnjmdncnkijijaaDoor
open Go.RowKit Go.Sort

set_option maxHeartbeats 1000000 in
theorem rgood_yes {k : Int} (hk : k = 0 ∨ k = 1) (w : World) : Calls Tryd.prog 43 #[.int .i64 k] w fun e w' => e = .returned (.bool true) ∧ Below w.heap.size w w' := by
  rcases hk with rfl | rfl
  · skip
    go_enter Tryd.func43, Tryd.ntmps43
    go_wp2
    simp [bodyPost, results, Tryd.results43, go_sem]
    repeat (first | with_reducible exact Below.refl _ _ | with_reducible refine Below.drew ?_ | with_reducible refine Below.alloc ?_ (by first | omega | (simp; done) | (simp; omega)) _ | with_reducible refine Below.setCell ?_ (by first | omega | (simp; done)) _)
  · skip
    go_enter Tryd.func43, Tryd.ntmps43
    go_wp2
    simp [bodyPost, results, Tryd.results43, go_sem]
    repeat (first | with_reducible exact Below.refl _ _ | with_reducible refine Below.drew ?_ | with_reducible refine Below.alloc ?_ (by first | omega | (simp; done) | (simp; omega)) _ | with_reducible refine Below.setCell ?_ (by first | omega | (simp; done)) _)

end Go.Proofs.YtnjmdncnkijijaaDoor

namespace Go.Proofs.YtnjmdncnkijijaaDoor
open Go.RowKit Go.Sort

set_option maxHeartbeats 2000000 in
theorem rModulus_good {k : Int} (hk : k = 0 ∨ k = 1) (w : World) :
    Calls Tryd.prog 39 #[.int .i64 k] w fun e w' => e = .returned (.tuple #[.agg #[.int .u64 (l0 (rM k)), .int .u64 (l1 (rM k)), .int .u64 (l2 (rM k)), .int .u64 (l3 (rM k))], .int .i64 0]) ∧ Below w.heap.size w w' := by
  have G : Hid (∀ w, Calls Tryd.prog 43 #[.int .i64 k] w fun e w' => e = .returned (.bool true) ∧ Below w.heap.size w w') := rgood_yes hk
  have C : Hid (∀ w, Calls Tryd.prog 44 #[.int .i64 k] w fun e w' => e = .returned (.agg #[.int .u64 (l0 (rM k)), .int .u64 (l1 (rM k)), .int .u64 (l2 (rM k)), .int .u64 (l3 (rM k))]) ∧ Below w.heap.size w w') := rmodulus_any k
  generalize rM k = r at *
  clear hk
  go_enter Tryd.func39, Tryd.ntmps39
  go_wp2_with fail
  refine calls_world (fun W => Below w.heap.size w W ∧ Blank W w.heap.size) ⟨by repeat (first | with_reducible exact Below.refl _ _ | with_reducible refine Below.alloc ?_ (by first | omega | (simp; done) | (simp; omega)) _), Blank.new (by simp)⟩ ?_
  rintro W ⟨B, hR⟩
  have o3 : w.heap.size ≤ w.heap.size := by omega
  with_reducible refine (G.out _).mono ?_
  rintro e w1 ⟨rfl, hb⟩
  replace B := B.trans (hb.mono B.size)
  replace hR := hR.keep hb
  clear hb W
  go_wp2_with fail
  with_reducible refine (C.out _).mono ?_
  rintro e w2 ⟨rfl, hb⟩
  replace B := B.trans (hb.mono B.size)
  replace hR := hR.keep hb
  clear hb w1
  have gR := hR.1.all4; have fR := hR.2.all4
  go_wp2
  simp [bodyPost, results, Tryd.results39, go_sem, gR]
  exact below_set4 B o3 _ _ _ _

end Go.Proofs.YtnjmdncnkijijaaDoor

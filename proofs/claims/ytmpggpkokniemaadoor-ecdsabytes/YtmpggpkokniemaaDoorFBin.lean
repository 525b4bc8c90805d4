import Derived.Test.YtmpggpkokniemaaDoorFExp
import Derived.Test.YtmpggpkokniemaaDoorFAdd
import Derived.Test.YtmpggpkokniemaaDoorFReduce
import Derived.Test.YtmpggpkokniemaaDoorFFold
import Derived.Test.YtmpggpkokniemaaDoorHold
import Derived.Test.YtmpggpkokniemaaDoorLen
import Derived.Deep.LoopGhost
import Derived.Deep.RegionHeld3
import Derived.Test.YtmpggpkokniemaaDoorAdd
import Derived.Test.YtmpggpkokniemaaDoorDivAny
namespace Go.Proofs.YtmpggpkokniemaaDoor
open Go.RowKit Go.Sort

/-- k is a kind; m its modulus, c what is left of 2^256. -/
structure Kind (k m c : Int) : Prop where
  em : kM k = m
  ec : kC k = c
  ee : kE k = 0
  fit : Fit m c
theorem kind_n : Kind 1 nN nC := ⟨rfl, rfl, rfl, fit_n⟩
theorem of_good {k m c : Int} (h : Kind k m c) (w : World) (hm : Mds w) :
    Calls Tryd.prog 27 #[.int .i64 k] w fun e w' => e = .returned (.tuple #[.agg #[.int .u64 (l0 m), .int .u64 (l1 m), .int .u64 (l2 m), .int .u64 (l3 m), .int .u64 (l0 c), .int .u64 (l1 c), .int .u64 (l2 c), .int .u64 (l3 c)], .int .i64 0]) ∧ Below w.heap.size w w' := by
  have := of_any k w hm
  rw [h.em, h.ec, h.ee] at this
  exact this
end Go.Proofs.YtmpggpkokniemaaDoor

namespace Go.Proofs.YtmpggpkokniemaaDoor
open Go.RowKit Go.Sort

set_option maxHeartbeats 2000000 in
theorem Modulus_walk {k m c e0 : Int} (O : Hid (∀ w, Mds w → Calls Tryd.prog 27 #[.int .i64 k] w fun e w' => e = .returned (.tuple #[.agg #[.int .u64 (l0 m), .int .u64 (l1 m), .int .u64 (l2 m), .int .u64 (l3 m), .int .u64 (l0 c), .int .u64 (l1 c), .int .u64 (l2 c), .int .u64 (l3 c)], .int .i64 e0]) ∧ Below w.heap.size w w')) (w : World) (hm : Mds w) :
    Calls Tryd.prog 25 #[.int .i64 k] w fun e w' => e = .returned (.tuple #[.agg #[.int .u64 (l0 m), .int .u64 (l1 m), .int .u64 (l2 m), .int .u64 (l3 m)], .int .i64 e0]) ∧ Below w.heap.size w w' := by
  go_enter Tryd.func25, Tryd.ntmps25
  go_wp2_with fail
  refine calls_world (fun W => Below w.heap.size w W ∧ Mds W ∧ Blank W w.heap.size) ⟨by repeat (first | with_reducible exact Below.refl _ _ | with_reducible refine Below.alloc ?_ (by first | omega | (simp; done) | (simp; omega)) _), hm.alloc _, Blank.new (by simp)⟩ ?_
  rintro W ⟨B, hD, hR⟩
  have o3 : w.heap.size ≤ w.heap.size := by omega
  with_reducible refine (O.out _ hD).mono ?_
  rintro e w1 ⟨rfl, hb⟩
  replace B := B.trans (hb.mono B.size)
  replace hR := hR.keep hb
  have lr := hR.1.lt (by simp)
  have nr : w1.heap.size ≠ w.heap.size := by omega
  have nr' := nr.symm
  clear hb hD W lr
  have gR := fun o => (hR.alloc o).1.all4
  have fR := fun o => (hR.alloc o).2.all4
  have BB : Hid (∀ o, Below w.heap.size w (w1.alloc o)) := fun o => B.alloc B.size o
  clear B hR
  go_wp2
  simp [bodyPost, results, Tryd.results25, go_sem, *]
  repeat (first | with_reducible exact BB.out _ | with_reducible refine Below.drew ?_ | with_reducible refine Below.setCell ?_ (by with_reducible assumption) _)

theorem Modulus_good {k m c : Int} (hk : Kind k m c) (w : World) (hm : Mds w) :
    Calls Tryd.prog 25 #[.int .i64 k] w fun e w' => e = .returned (.tuple #[.agg #[.int .u64 (l0 m), .int .u64 (l1 m), .int .u64 (l2 m), .int .u64 (l3 m)], .int .i64 0]) ∧ Below w.heap.size w w' := Modulus_walk (fun w h => of_good hk w h) w hm
end Go.Proofs.YtmpggpkokniemaaDoor

namespace Go.Proofs.YtmpggpkokniemaaDoor
open Go.RowKit Go.Sort

/-- The state of fold. -/
structure RF (w W : World) (bh bl br bz bm bc : Nat) (H L m c : Int) : Prop where
  B : RowKit.Below w.heap.size w W
  hH : Var W bh H
  hL : Var W bl L
  hR : Blank W br
  hZ : Blank W bz
  hM : Hold W bm m
  hC : Hold W bc c
theorem RF.keep {w W w1 : World} {bh bl br bz bm bc : Nat} {H L m c : Int} (s : RF w W bh bl br bz bm bc H L m c) (hb : RowKit.Below W.heap.size W w1) : RF w w1 bh bl br bz bm bc H L m c :=
  ⟨s.B.trans (hb.mono s.B.size), s.hH.keep hb, s.hL.keep hb, s.hR.keep hb, s.hZ.keep hb, s.hM.keep hb, s.hC.keep hb⟩
theorem RF.alloc {w W : World} {bh bl br bz bm bc : Nat} {H L m c : Int} (s : RF w W bh bl br bz bm bc H L m c) (o : Obj) : RF w (W.alloc o) bh bl br bz bm bc H L m c := s.keep ((Below.refl _ _).alloc (Nat.le_refl _) o)
theorem RF.drew {w W : World} {bh bl br bz bm bc : Nat} {H L m c : Int} (s : RF w W bh bl br bz bm bc H L m c) : RF w W.drew bh bl br bz bm bc H L m c := ⟨s.B.drew, s.hH, s.hL, s.hR, s.hZ, s.hM, s.hC⟩
/-- The blocks are apart. -/
structure RA (w : World) (bh bl br bz bm bc : Nat) : Prop where
  h : w.heap.size ≤ bh
  l : w.heap.size ≤ bl
  r : w.heap.size ≤ br
  hl : bh ≠ bl
  hr : bh ≠ br
  hz : bh ≠ bz
  hm : bh ≠ bm
  hc : bh ≠ bc
  lr : bl ≠ br
  lz : bl ≠ bz
  lm : bl ≠ bm
  lc : bl ≠ bc
end Go.Proofs.YtmpggpkokniemaaDoor

namespace Go.Proofs.YtmpggpkokniemaaDoor
open Go.RowKit Go.Sort

/-- The inverse by Fermat. -/
def invN (m x : Int) : Int := powN m x (m - 2)
end Go.Proofs.YtmpggpkokniemaaDoor

namespace Go.Proofs.YtmpggpkokniemaaDoor
open Go.RowKit Go.Sort

end Go.Proofs.YtmpggpkokniemaaDoor

namespace Go.Proofs.YtmpggpkokniemaaDoor
open Go.RowKit Go.Sort

end Go.Proofs.YtmpggpkokniemaaDoor

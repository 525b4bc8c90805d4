import Derived.Test.YtmegdnalpaddmaaRefAddSub
import Derived.Test.YtmegdnalpaddmaaRefBit
import Derived.Test.YtmegdnalpaddmaaReduce
import Derived.Deep.RegionHeld3
import Derived.Test.YtmegdnalpaddmaaRef1
import Derived.Test.YtmegdnalpaddmaaRowHold
import Derived.Test.YtmegdnalpaddmaaLen
import Derived.Deep.LoopGhost
import Derived.Test.YtmegdnalpaddmaaFeA
import Derived.Test.YtmegdnalpaddmaaQLate
namespace Go.Proofs.Ytmegdnalpaddmaa
open Go.RowKit Go.Sort

theorem Blank.zero {W : World} {b : Nat} (h : Blank W b) : Var W b 0 := by
  obtain ⟨z0, z1, z2, z3⟩ := zero_limbs
  refine ⟨Row.hold ?_, h.2⟩
  rw [z0, z1, z2, z3]
  exact h.1

structure St (w W : World) (b0 bl bm e1 e2 e3 b1 b2 bv : Nat) (h l m Q1 Q0 R : Int) : Prop where
  B : Below w.heap.size w W
  hh : Hold W b0 h
  hl : Hold W bl l
  hm : Hold W bm m
  z1 : Blank W e1
  z2 : Blank W e2
  z3 : Blank W e3
  q1 : Var W b1 Q1
  q0 : Var W b2 Q0
  r : Var W bv R

theorem St.keep {w W : World} {b0 bl bm e1 e2 e3 b1 b2 bv : Nat} {h l m Q1 Q0 R : Int} (s : St w W b0 bl bm e1 e2 e3 b1 b2 bv h l m Q1 Q0 R) {w1 : World} (hb : Below W.heap.size W w1) : St w w1 b0 bl bm e1 e2 e3 b1 b2 bv h l m Q1 Q0 R := ⟨s.B.trans (hb.mono s.B.size), s.hh.keep hb, s.hl.keep hb, s.hm.keep hb, s.z1.keep hb, s.z2.keep hb, s.z3.keep hb, s.q1.keep hb, s.q0.keep hb, s.r.keep hb⟩
theorem St.alloc {w W : World} {b0 bl bm e1 e2 e3 b1 b2 bv : Nat} {h l m Q1 Q0 R : Int} (s : St w W b0 bl bm e1 e2 e3 b1 b2 bv h l m Q1 Q0 R) (o : Obj) : St w (W.alloc o) b0 bl bm e1 e2 e3 b1 b2 bv h l m Q1 Q0 R := ⟨s.B.alloc s.B.size o, s.hh.alloc o, s.hl.alloc o, s.hm.alloc o, s.z1.alloc o, s.z2.alloc o, s.z3.alloc o, s.q1.alloc o, s.q0.alloc o, s.r.alloc o⟩
end Go.Proofs.Ytmegdnalpaddmaa

namespace Go.Proofs.Ytmegdnalpaddmaa
open Go.RowKit

end Go.Proofs.Ytmegdnalpaddmaa

namespace Go.Proofs.Ytmegdnalpaddmaa
open Go.RowKit Go.Sort

end Go.Proofs.Ytmegdnalpaddmaa

namespace Go.Proofs.Ytmegdnalpaddmaa
open Go.RowKit Go.Sort

end Go.Proofs.Ytmegdnalpaddmaa

namespace Go.Proofs.Ytmegdnalpaddmaa
open Go.RowKit Go.Sort

end Go.Proofs.Ytmegdnalpaddmaa

import Derived.Test.YtaefmdofchjofaaRows
import Derived.Test.YtaefmdofchjofaaNum
import Derived.WalkKit
import Derived.WalkSpells
import Derived.WalkLawsBesides
import Derived.Laws.Externs
import Derived.Shelf.Spec.BitsCarry
import Derived.Lib.Mul64
import Derived.Laws.Bits64b
import Derived.LoopN
import Derived.BigRegion
import Derived.Deep.RegionWith
namespace Go.Proofs.Ytaefmdofchjofaa
open Go.RowKit

theorem from_val {v : Int} (h : Word v) : l0 v = v ∧ l1 v = 0 ∧ l2 v = 0 ∧ l3 v = 0 := by
  obtain ⟨_, _⟩ := h
  unfold l0 l1 l2 l3; refine ⟨by omega, by omega, by omega, by omega⟩

theorem from_any {v : Int} (h : Word v) (w : World) :
    Calls Try.prog 35 #[.int .u64 v] w fun e w' => e = .returned (.agg #[.int .u64 (l0 v), .int .u64 (l1 v), .int .u64 (l2 v), .int .u64 (l3 v)]) ∧ Below w.heap.size w w' := by
  obtain ⟨r0, r1, r2, r3⟩ := from_val h
  rw [r0, r1, r2, r3]
  clear r0 r1 r2 r3
  go_enter Try.func35, Try.ntmps35
  go_wp2
  simp [bodyPost, results, Try.results35, go_sem]
  repeat (first | with_reducible exact Below.refl _ _ | with_reducible refine Below.drew ?_ | with_reducible refine Below.alloc ?_ (by first | omega | (simp; done) | (simp; omega)) _)

end Go.Proofs.Ytaefmdofchjofaa

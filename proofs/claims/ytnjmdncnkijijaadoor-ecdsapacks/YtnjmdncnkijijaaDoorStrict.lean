import Derived.Test.YtnjmdncnkijijaaDoorGet
import Derived.Test.YtnjmdncnkijijaaDoorReduce
import Derived.Test.YtnjmdncnkijijaaDoorHold
import Derived.Test.YtnjmdncnkijijaaDoorLen
import Derived.Test.YtnjmdncnkijijaaDoorAdd
import Derived.Test.YtnjmdncnkijijaaDoorTail
import Derived.Test.YtnjmdncnkijijaaDoorNum
namespace Go.Proofs.YtnjmdncnkijijaaDoor
open Go.RowKit

theorem rget_long {n : Nat} {p : Option Addr} {cb : Nat} (hl : 32 < n) (w : World) :
    Calls Tryd.prog 20 #[.slice p n cb] w fun e w' => e = .returned (.tuple #[.agg #[.int .u64 (l0 0), .int .u64 (l1 0), .int .u64 (l2 0), .int .u64 (l3 0)], .int .i64 11]) ∧ Below w.heap.size w w' := by
  have hl' : (32 : Int) < n := by omega
  obtain ⟨z0, z1, z2, z3⟩ := zero_limbs
  rw [z0, z1, z2, z3]
  clear z0 z1 z2 z3
  have hb := build_zero
  go_enter Tryd.func20, Tryd.ntmps20
  go_wp2
  simp [bodyPost, results, Tryd.results20, go_sem]
  repeat (first | with_reducible exact Below.refl _ _ | with_reducible refine Below.drew ?_ | with_reducible refine Below.alloc ?_ (by first | omega | (simp; done) | (simp; omega)) _)

end Go.Proofs.YtnjmdncnkijijaaDoor

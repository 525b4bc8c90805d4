import Derived.Test.YtmegdnalpaddmaaFeF
import Derived.Test.YtmegdnalpaddmaaRefLong
import Derived.Test.YtmegdnalpaddmaaFeE
import Derived.Test.YtmegdnalpaddmaaFeD
namespace Go.Proofs.Ytmegdnalpaddmaa
open Go.RowKit Go.Sort

theorem blob_zero {x : Int} (w : World) :
    Calls Try.prog 12 #[.int .u64 x, .int .u64 0] w fun e w' => e = .returned (.tuple #[.agg #[.int .u64 (l0 0), .int .u64 (l1 0), .int .u64 (l2 0), .int .u64 (l3 0)], .int .i64 1]) ∧ Below w.heap.size w w' := by
  have hz := build_zero
  obtain ⟨z0, z1, z2, z3⟩ := zero_limbs
  rw [z0, z1, z2, z3]
  clear z0 z1 z2 z3
  go_enter Try.func12, Try.ntmps12
  go_wp2
  simp [bodyPost, results, Try.results12, go_sem]
  repeat (first | with_reducible exact Below.refl _ _ | with_reducible refine Below.drew ?_ | with_reducible refine Below.alloc ?_ (by first | omega | (simp; done) | (simp; omega)) _)
end Go.Proofs.Ytmegdnalpaddmaa

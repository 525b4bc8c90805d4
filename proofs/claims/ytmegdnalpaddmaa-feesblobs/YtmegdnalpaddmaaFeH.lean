import Derived.Test.YtmegdnalpaddmaaFeF
import Derived.Test.YtmegdnalpaddmaaFeG
import Derived.Test.YtmegdnalpaddmaaFeE
import Derived.Test.YtmegdnalpaddmaaFeA
namespace Go.Proofs.Ytmegdnalpaddmaa
open Go.RowKit Go.Sort

theorem blob_zero {x : Int} (w : World) :
    Calls Try.prog 12 #[.int .u64 x, .int .u64 0] w fun e w' => e = .returned (.tuple #[.agg #[.int .u64 (l0 0), .int .u64 (l1 0), .int .u64 (l2 0), .int .u64 (l3 0)], .int .i64 1]) ∧ Below w.heap.size w w' := by
  have hz := build_zero
  obtain ⟨z0, z1, z2, z3⟩ := zero_limbs
  rw [z0, z1, z2, z3]
  clear z0 z1 z2 z3
  go_enter Try.func12, Try.ntmps12
  go_wp2
  simp [bodyPost, results, Try.results12, go_sem]
  repeat (first | with_reducible exact Below.refl _ _ | with_reducible refine Below.drew ?_ | with_reducible refine Below.alloc ?_ (by first | omega | (simp; done) | (simp; omega)) _)
theorem rblob_zero {x : Int} (w : World) :
    Calls Try.prog 17 #[.int .u64 x, .int .u64 0] w fun e w' => e = .returned (.tuple #[.agg #[.int .u64 (l0 0), .int .u64 (l1 0), .int .u64 (l2 0), .int .u64 (l3 0)], .int .i64 1]) ∧ Below w.heap.size w w' := by
  have hz := build_zero
  obtain ⟨z0, z1, z2, z3⟩ := zero_limbs
  rw [z0, z1, z2, z3]
  clear z0 z1 z2 z3
  go_enter Try.func17, Try.ntmps17
  go_wp2
  simp [bodyPost, results, Try.results17, go_sem]
  repeat (first | with_reducible exact Below.refl _ _ | with_reducible refine Below.drew ?_ | with_reducible refine Below.alloc ?_ (by first | omega | (simp; done) | (simp; omega)) _)

theorem blobsF_any {a u t f : Int} (ha : Word a) (hu : Word u) (ht : Word t) (hf : Word f) (w : World) :
    Calls Try.prog 6 #[.int .u64 a, .int .u64 u, .int .u64 t, .int .u64 f] w fun e w' => e = .returned (.bool true) ∧ Below w.heap.size w w' := by
  by_cases h : f = 0
  · subst h
    exact blobs_walk (fun w => nx_any ha hu ht w) (fun w => rnx_any ha hu ht w) (fun w => blob_zero w) (fun w => rblob_zero w) w
  · have f0 : 0 < f := by have := hf.1; omega
    obtain ⟨K, s⟩ := stop_ex f0 ha.1
    exact blobs_walk (fun w => nx_any ha hu ht w) (fun w => rnx_any ha hu ht w) (fun w => blob_walk hf f0 ha s w) (fun w => rblob_walk hf f0 ha s w) w
end Go.Proofs.Ytmegdnalpaddmaa

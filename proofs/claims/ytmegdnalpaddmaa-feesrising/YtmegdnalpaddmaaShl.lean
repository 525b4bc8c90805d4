import Derived.Test.YtmegdnalpaddmaaUpAny
namespace Go.Proofs.Ytmegdnalpaddmaa
open Go.RowKit

theorem zero_limbs : l0 0 = 0 ∧ l1 0 = 0 ∧ l2 0 = 0 ∧ l3 0 = 0 := by decide
theorem build_zero (w : World) : (Instr.build 24 #[]).run Try.prog w = .ok (.agg #[.int .u64 0, .int .u64 0, .int .u64 0, .int .u64 0]) w := run_build w 24 _ _ (by kernel_rfl)

set_option maxHeartbeats 400000 in
theorem shl_near {n k : Int} (hn : Num n) (h0 : 0 ≤ k) (h1 : k ≤ 255) (w : World) :
    Calls Try.prog 52 #[.agg #[.int .u64 (l0 n), .int .u64 (l1 n), .int .u64 (l2 n), .int .u64 (l3 n)], .int .i64 k] w fun e w' => e = .returned (.agg #[.int .u64 (l0 (upN n k)), .int .u64 (l1 (upN n k)), .int .u64 (l2 (upN n k)), .int .u64 (l3 (upN n k))]) ∧ Below w.heap.size w w' := by
  go_enter Try.func52, Try.ntmps52
  go_wp2_with fail
  refine (up_any hn h0 h1 _).mono ?_
  rintro e w' ⟨rfl, hw⟩
  have hc := oldCells hw
  go_wp2
  simp [bodyPost, results, Try.results52, go_sem, hc]
  clear hc
  have hz := hw.size
  simp at hz
  repeat (first | with_reducible exact Below.refl _ _ | with_reducible refine Below.drew ?_ | with_reducible refine Below.setCell ?_ (by first | omega | (simp; done) | (simp; omega)) _ | with_reducible refine Below.alloc ?_ (by first | omega | (simp; done) | (simp; omega)) _ | with_reducible refine Below.trans ?_ (Below.mono hw (by first | omega | (simp; done) | (simp; omega))))

set_option maxHeartbeats 400000 in
theorem shr_near {n k : Int} (hn : Num n) (h0 : 0 ≤ k) (h1 : k ≤ 255) (w : World) :
    Calls Try.prog 8 #[.agg #[.int .u64 (l0 n), .int .u64 (l1 n), .int .u64 (l2 n), .int .u64 (l3 n)], .int .i64 k] w fun e w' => e = .returned (.agg #[.int .u64 (l0 (downN n k)), .int .u64 (l1 (downN n k)), .int .u64 (l2 (downN n k)), .int .u64 (l3 (downN n k))]) ∧ Below w.heap.size w w' := by
  go_enter Try.func8, Try.ntmps8
  go_wp2_with fail
  refine (down_any hn h0 h1 _).mono ?_
  rintro e w' ⟨rfl, hw⟩
  have hc := oldCells hw
  go_wp2
  simp [bodyPost, results, Try.results8, go_sem, hc]
  clear hc
  have hz := hw.size
  simp at hz
  repeat (first | with_reducible exact Below.refl _ _ | with_reducible refine Below.drew ?_ | with_reducible refine Below.setCell ?_ (by first | omega | (simp; done) | (simp; omega)) _ | with_reducible refine Below.alloc ?_ (by first | omega | (simp; done) | (simp; omega)) _ | with_reducible refine Below.trans ?_ (Below.mono hw (by first | omega | (simp; done) | (simp; omega))))

end Go.Proofs.Ytmegdnalpaddmaa

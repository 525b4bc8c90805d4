import Derived.Test.YtjjimkhppoppbabRoot
import Derived.Test.YtjjimkhppoppbabDivMod
namespace Go.Proofs.Ytjjimkhppoppbab
open Go.RowKit Go.Sort

theorem root_zero (w : World) :
    Calls Try.prog 8 #[.agg #[.int .u64 (l0 0), .int .u64 (l1 0), .int .u64 (l2 0), .int .u64 (l3 0)]] w fun e w' => e = .returned (.agg #[.int .u64 (l0 0), .int .u64 (l1 0), .int .u64 (l2 0), .int .u64 (l3 0)]) ∧ Below w.heap.size w w' := by
  have he := eq_zero (m := 0) (show Num 0 from ⟨by decide, by decide⟩)
  obtain ⟨z0, z1, z2, z3⟩ := zero_limbs
  rw [z0, z1, z2, z3] at he ⊢
  clear z0 z1 z2 z3
  have hb := build_zero
  go_enter Try.func8, Try.ntmps8
  go_wp2
  simp [bodyPost, results, Try.results8, go_sem]
  repeat (first | with_reducible exact Below.refl _ _ | with_reducible refine Below.drew ?_ | with_reducible refine Below.alloc ?_ (by first | omega | (simp; done) | (simp; omega)) _)

theorem root_any {n s : Int} (hn : Num n) (hs : IsRoot n s) (w : World) :
    Calls Try.prog 8 #[.agg #[.int .u64 (l0 n), .int .u64 (l1 n), .int .u64 (l2 n), .int .u64 (l3 n)]] w fun e w' => e = .returned (.agg #[.int .u64 (l0 s), .int .u64 (l1 s), .int .u64 (l2 s), .int .u64 (l3 s)]) ∧ Below w.heap.size w w' := by
  by_cases hz : n = 0
  · subst hz
    have : s = 0 := root_one hs ⟨by decide, by decide, by decide⟩
    subst this
    exact root_zero w
  · exact root_some hn hz hs (fun m hm mz w => divMod_some hn hm mz w) w

end Go.Proofs.Ytjjimkhppoppbab

import Derived.Test.YtncpjgpioajbeaaGreatDoorUpAny
namespace Go.Proofs.YtncpjgpioajbeaaGreatDoor
open Go.RowKit

def shrN (n k : Int) : Int := if k ≤ -256 ∨ 256 ≤ k then 0 else if k < 0 then upN n (-k) else downN n k

theorem zero_limbs : l0 0 = 0 ∧ l1 0 = 0 ∧ l2 0 = 0 ∧ l3 0 = 0 := by decide
theorem build_zero (w : World) : (Instr.build 24 #[]).run Tryz.prog w = .ok (.agg #[.int .u64 0, .int .u64 0, .int .u64 0, .int .u64 0]) w := run_build w 24 _ _ (by kernel_rfl)

set_option maxHeartbeats 400000 in
theorem shr_far {n k : Int} (h : k ≤ -256 ∨ 256 ≤ k) (w : World) :
    Calls Tryz.prog 82 #[.agg #[.int .u64 (l0 n), .int .u64 (l1 n), .int .u64 (l2 n), .int .u64 (l3 n)], .int .i64 k] w fun e w' => e = .returned (.agg #[.int .u64 (l0 0), .int .u64 (l1 0), .int .u64 (l2 0), .int .u64 (l3 0)]) ∧ Below w.heap.size w w' := by
  obtain ⟨z0, z1, z2, z3⟩ := zero_limbs
  rw [z0, z1, z2, z3]
  clear z0 z1 z2 z3
  have hb := build_zero
  rcases h with h | h
  · go_enter Tryz.func82, Tryz.ntmps82
    go_wp2
    simp [bodyPost, results, Tryz.results82, go_sem]
    repeat (first | with_reducible exact Below.refl _ _ | with_reducible refine Below.drew ?_ | with_reducible refine Below.alloc ?_ (by first | omega | (simp; done) | (simp; omega)) _)
  · have h' : ¬ k ≤ -256 := by omega
    go_enter Tryz.func82, Tryz.ntmps82
    go_wp2
    simp [bodyPost, results, Tryz.results82, go_sem]
    repeat (first | with_reducible exact Below.refl _ _ | with_reducible refine Below.drew ?_ | with_reducible refine Below.alloc ?_ (by first | omega | (simp; done) | (simp; omega)) _)

set_option maxHeartbeats 400000 in
theorem shr_near {n k : Int} (hn : Num n) (h0 : 0 ≤ k) (h1 : k ≤ 255) (w : World) :
    Calls Tryz.prog 82 #[.agg #[.int .u64 (l0 n), .int .u64 (l1 n), .int .u64 (l2 n), .int .u64 (l3 n)], .int .i64 k] w fun e w' => e = .returned (.agg #[.int .u64 (l0 (downN n k)), .int .u64 (l1 (downN n k)), .int .u64 (l2 (downN n k)), .int .u64 (l3 (downN n k))]) ∧ Below w.heap.size w w' := by
  go_enter Tryz.func82, Tryz.ntmps82
  go_wp2_with fail
  refine (down_any hn h0 h1 _).mono ?_
  rintro e w' ⟨rfl, hw⟩
  have hc := oldCells hw
  go_wp2
  simp [bodyPost, results, Tryz.results82, go_sem, hc]
  clear hc
  have hz := hw.size
  simp at hz
  repeat (first | with_reducible exact Below.refl _ _ | with_reducible refine Below.drew ?_ | with_reducible refine Below.setCell ?_ (by first | omega | (simp; done) | (simp; omega)) _ | with_reducible refine Below.alloc ?_ (by first | omega | (simp; done) | (simp; omega)) _ | with_reducible refine Below.trans ?_ (Below.mono hw (by first | omega | (simp; done) | (simp; omega))))

set_option maxHeartbeats 400000 in
theorem shr_neg {n k : Int} (hn : Num n) (h0 : k < 0) (h1 : -255 ≤ k) (w : World) :
    Calls Tryz.prog 82 #[.agg #[.int .u64 (l0 n), .int .u64 (l1 n), .int .u64 (l2 n), .int .u64 (l3 n)], .int .i64 k] w fun e w' => e = .returned (.agg #[.int .u64 (l0 (upN n (-k))), .int .u64 (l1 (upN n (-k))), .int .u64 (l2 (upN n (-k))), .int .u64 (l3 (upN n (-k)))]) ∧ Below w.heap.size w w' := by
  go_enter Tryz.func82, Tryz.ntmps82
  go_wp2_with fail
  refine (up_any hn (by omega) (by omega) _).mono ?_
  rintro e w' ⟨rfl, hw⟩
  have hc := oldCells hw
  go_wp2
  simp [bodyPost, results, Tryz.results82, go_sem, hc]
  clear hc
  have hz := hw.size
  simp at hz
  repeat (first | with_reducible exact Below.refl _ _ | with_reducible refine Below.drew ?_ | with_reducible refine Below.setCell ?_ (by first | omega | (simp; done) | (simp; omega)) _ | with_reducible refine Below.alloc ?_ (by first | omega | (simp; done) | (simp; omega)) _ | with_reducible refine Below.trans ?_ (Below.mono hw (by first | omega | (simp; done) | (simp; omega))))

theorem shr_any {n k : Int} (hn : Num n) (w : World) :
    Calls Tryz.prog 82 #[.agg #[.int .u64 (l0 n), .int .u64 (l1 n), .int .u64 (l2 n), .int .u64 (l3 n)], .int .i64 k] w fun e w' => e = .returned (.agg #[.int .u64 (l0 (shrN n k)), .int .u64 (l1 (shrN n k)), .int .u64 (l2 (shrN n k)), .int .u64 (l3 (shrN n k))]) ∧ Below w.heap.size w w' := by
  unfold shrN
  split
  · rename_i h; exact shr_far h w
  · split
    · exact shr_neg hn (by omega) (by omega) w
    · exact shr_near hn (by omega) (by omega) w

end Go.Proofs.YtncpjgpioajbeaaGreatDoor

import Derived.Test.YtncpjgpioajbeaaGreatDoorCmp
import Derived.Test.YtncpjgpioajbeaaGreatDoorTail
import Derived.Test.YtncpjgpioajbeaaGreatDoorShiftNum
namespace Go.Proofs.YtncpjgpioajbeaaGreatDoor
open Go.RowKit

set_option maxHeartbeats 1000000 in
theorem up_0 {x0 x1 x2 x3 n s : Int} (hx0 : Word x0) (hx1 : Word x1) (hx2 : Word x2) (hx3 : Word x3) (_n0 : 0 ≤ n) (_n1 : n ≤ 255) (s0 : 0 ≤ s) (s1 : s ≤ 63) (hq : n / 64 = 0) (hr : n % 64 = s) (w : World) :
    Calls Tryz.prog 111 #[.agg #[.int .u64 x0, .int .u64 x1, .int .u64 x2, .int .u64 x3], .int .i64 n] w fun e w' => e = .returned (.agg #[.int .u64 (IntKind.u64.wrap (x0 * 2 ^ s.toNat)), .int .u64 (bits .or .u64 (IntKind.u64.wrap (x1 * 2 ^ s.toNat)) (x0 / 2 ^ (64 - s).toNat)), .int .u64 (bits .or .u64 (IntKind.u64.wrap (x2 * 2 ^ s.toNat)) (x1 / 2 ^ (64 - s).toNat)), .int .u64 (bits .or .u64 (IntKind.u64.wrap (x3 * 2 ^ s.toNat)) (x2 / 2 ^ (64 - s).toNat))]) ∧ Below w.heap.size w w' := by
  obtain ⟨_, _⟩ := hx0; obtain ⟨_, _⟩ := hx1; obtain ⟨_, _⟩ := hx2; obtain ⟨_, _⟩ := hx3
  go_enter Tryz.func111, Tryz.ntmps111
  go_wp2
  refine wp_loop_rounds 5 ?_
  rw [rounds_succ]; go_wp2
  rw [rounds_succ]; go_wp2; go_region; go_wp2
  rw [rounds_succ]; go_wp2; go_region; go_wp2
  rw [rounds_succ]; go_wp2; go_region; go_wp2
  rw [rounds_succ]; go_wp2
  simp [bodyPost, results, Tryz.results111, go_sem]
  repeat (first | with_reducible exact Below.refl _ _ | with_reducible refine Below.drew ?_ | with_reducible refine Below.alloc ?_ (by first | omega | (simp; done) | (simp; omega)) _)

set_option maxHeartbeats 1000000 in
theorem up_1 {x0 x1 x2 x3 n s : Int} (hx0 : Word x0) (hx1 : Word x1) (hx2 : Word x2) (hx3 : Word x3) (_n0 : 0 ≤ n) (_n1 : n ≤ 255) (s0 : 0 ≤ s) (s1 : s ≤ 63) (hq : n / 64 = 1) (hr : n % 64 = s) (w : World) :
    Calls Tryz.prog 111 #[.agg #[.int .u64 x0, .int .u64 x1, .int .u64 x2, .int .u64 x3], .int .i64 n] w fun e w' => e = .returned (.agg #[.int .u64 0, .int .u64 (IntKind.u64.wrap (x0 * 2 ^ s.toNat)), .int .u64 (bits .or .u64 (IntKind.u64.wrap (x1 * 2 ^ s.toNat)) (x0 / 2 ^ (64 - s).toNat)), .int .u64 (bits .or .u64 (IntKind.u64.wrap (x2 * 2 ^ s.toNat)) (x1 / 2 ^ (64 - s).toNat))]) ∧ Below w.heap.size w w' := by
  obtain ⟨_, _⟩ := hx0; obtain ⟨_, _⟩ := hx1; obtain ⟨_, _⟩ := hx2; obtain ⟨_, _⟩ := hx3
  go_enter Tryz.func111, Tryz.ntmps111
  go_wp2
  refine wp_loop_rounds 5 ?_
  rw [rounds_succ]; go_wp2
  rw [rounds_succ]; go_wp2; go_region; go_wp2
  rw [rounds_succ]; go_wp2; go_region; go_wp2
  rw [rounds_succ]; go_wp2
  simp [bodyPost, results, Tryz.results111, go_sem]
  repeat (first | with_reducible exact Below.refl _ _ | with_reducible refine Below.drew ?_ | with_reducible refine Below.alloc ?_ (by first | omega | (simp; done) | (simp; omega)) _)

set_option maxHeartbeats 1000000 in
theorem up_2 {x0 x1 x2 x3 n s : Int} (hx0 : Word x0) (hx1 : Word x1) (hx2 : Word x2) (hx3 : Word x3) (_n0 : 0 ≤ n) (_n1 : n ≤ 255) (s0 : 0 ≤ s) (s1 : s ≤ 63) (hq : n / 64 = 2) (hr : n % 64 = s) (w : World) :
    Calls Tryz.prog 111 #[.agg #[.int .u64 x0, .int .u64 x1, .int .u64 x2, .int .u64 x3], .int .i64 n] w fun e w' => e = .returned (.agg #[.int .u64 0, .int .u64 0, .int .u64 (IntKind.u64.wrap (x0 * 2 ^ s.toNat)), .int .u64 (bits .or .u64 (IntKind.u64.wrap (x1 * 2 ^ s.toNat)) (x0 / 2 ^ (64 - s).toNat))]) ∧ Below w.heap.size w w' := by
  obtain ⟨_, _⟩ := hx0; obtain ⟨_, _⟩ := hx1; obtain ⟨_, _⟩ := hx2; obtain ⟨_, _⟩ := hx3
  go_enter Tryz.func111, Tryz.ntmps111
  go_wp2
  refine wp_loop_rounds 5 ?_
  rw [rounds_succ]; go_wp2
  rw [rounds_succ]; go_wp2; go_region; go_wp2
  rw [rounds_succ]; go_wp2
  simp [bodyPost, results, Tryz.results111, go_sem]
  repeat (first | with_reducible exact Below.refl _ _ | with_reducible refine Below.drew ?_ | with_reducible refine Below.alloc ?_ (by first | omega | (simp; done) | (simp; omega)) _)

set_option maxHeartbeats 1000000 in
theorem up_3 {x0 x1 x2 x3 n s : Int} (hx0 : Word x0) (hx1 : Word x1) (hx2 : Word x2) (hx3 : Word x3) (_n0 : 0 ≤ n) (_n1 : n ≤ 255) (s0 : 0 ≤ s) (s1 : s ≤ 63) (hq : n / 64 = 3) (hr : n % 64 = s) (w : World) :
    Calls Tryz.prog 111 #[.agg #[.int .u64 x0, .int .u64 x1, .int .u64 x2, .int .u64 x3], .int .i64 n] w fun e w' => e = .returned (.agg #[.int .u64 0, .int .u64 0, .int .u64 0, .int .u64 (IntKind.u64.wrap (x0 * 2 ^ s.toNat))]) ∧ Below w.heap.size w w' := by
  obtain ⟨_, _⟩ := hx0; obtain ⟨_, _⟩ := hx1; obtain ⟨_, _⟩ := hx2; obtain ⟨_, _⟩ := hx3
  go_enter Tryz.func111, Tryz.ntmps111
  go_wp2
  refine wp_loop_rounds 5 ?_
  rw [rounds_succ]; go_wp2
  rw [rounds_succ]; go_wp2
  simp [bodyPost, results, Tryz.results111, go_sem]
  repeat (first | with_reducible exact Below.refl _ _ | with_reducible refine Below.drew ?_ | with_reducible refine Below.alloc ?_ (by first | omega | (simp; done) | (simp; omega)) _)

set_option maxHeartbeats 1000000 in
theorem down_0 {x0 x1 x2 x3 n s : Int} (hx0 : Word x0) (hx1 : Word x1) (hx2 : Word x2) (hx3 : Word x3) (_n0 : 0 ≤ n) (_n1 : n ≤ 255) (s0 : 0 ≤ s) (s1 : s ≤ 63) (hq : n / 64 = 0) (hr : n % 64 = s) (w : World) :
    Calls Tryz.prog 112 #[.agg #[.int .u64 x0, .int .u64 x1, .int .u64 x2, .int .u64 x3], .int .i64 n] w fun e w' => e = .returned (.agg #[.int .u64 (bits .or .u64 (x0 / 2 ^ s.toNat) (IntKind.u64.wrap (x1 * 2 ^ (64 - s).toNat))), .int .u64 (bits .or .u64 (x1 / 2 ^ s.toNat) (IntKind.u64.wrap (x2 * 2 ^ (64 - s).toNat))), .int .u64 (bits .or .u64 (x2 / 2 ^ s.toNat) (IntKind.u64.wrap (x3 * 2 ^ (64 - s).toNat))), .int .u64 (x3 / 2 ^ s.toNat)]) ∧ Below w.heap.size w w' := by
  obtain ⟨_, _⟩ := hx0; obtain ⟨_, _⟩ := hx1; obtain ⟨_, _⟩ := hx2; obtain ⟨_, _⟩ := hx3
  go_enter Tryz.func112, Tryz.ntmps112
  go_wp2
  refine wp_loop_rounds 5 ?_
  rw [rounds_succ]; go_wp2
  rw [rounds_succ]; go_wp2; go_region; go_wp2
  rw [rounds_succ]; go_wp2; go_region; go_wp2
  rw [rounds_succ]; go_wp2; go_region; go_wp2
  rw [rounds_succ]; go_wp2
  simp [bodyPost, results, Tryz.results112, go_sem]
  repeat (first | with_reducible exact Below.refl _ _ | with_reducible refine Below.drew ?_ | with_reducible refine Below.alloc ?_ (by first | omega | (simp; done) | (simp; omega)) _)

set_option maxHeartbeats 1000000 in
theorem down_1 {x0 x1 x2 x3 n s : Int} (hx0 : Word x0) (hx1 : Word x1) (hx2 : Word x2) (hx3 : Word x3) (_n0 : 0 ≤ n) (_n1 : n ≤ 255) (s0 : 0 ≤ s) (s1 : s ≤ 63) (hq : n / 64 = 1) (hr : n % 64 = s) (w : World) :
    Calls Tryz.prog 112 #[.agg #[.int .u64 x0, .int .u64 x1, .int .u64 x2, .int .u64 x3], .int .i64 n] w fun e w' => e = .returned (.agg #[.int .u64 (bits .or .u64 (x1 / 2 ^ s.toNat) (IntKind.u64.wrap (x2 * 2 ^ (64 - s).toNat))), .int .u64 (bits .or .u64 (x2 / 2 ^ s.toNat) (IntKind.u64.wrap (x3 * 2 ^ (64 - s).toNat))), .int .u64 (x3 / 2 ^ s.toNat), .int .u64 0]) ∧ Below w.heap.size w w' := by
  obtain ⟨_, _⟩ := hx0; obtain ⟨_, _⟩ := hx1; obtain ⟨_, _⟩ := hx2; obtain ⟨_, _⟩ := hx3
  go_enter Tryz.func112, Tryz.ntmps112
  go_wp2
  refine wp_loop_rounds 5 ?_
  rw [rounds_succ]; go_wp2
  rw [rounds_succ]; go_wp2; go_region; go_wp2
  rw [rounds_succ]; go_wp2; go_region; go_wp2
  rw [rounds_succ]; go_wp2
  simp [bodyPost, results, Tryz.results112, go_sem]
  repeat (first | with_reducible exact Below.refl _ _ | with_reducible refine Below.drew ?_ | with_reducible refine Below.alloc ?_ (by first | omega | (simp; done) | (simp; omega)) _)

set_option maxHeartbeats 1000000 in
theorem down_2 {x0 x1 x2 x3 n s : Int} (hx0 : Word x0) (hx1 : Word x1) (hx2 : Word x2) (hx3 : Word x3) (_n0 : 0 ≤ n) (_n1 : n ≤ 255) (s0 : 0 ≤ s) (s1 : s ≤ 63) (hq : n / 64 = 2) (hr : n % 64 = s) (w : World) :
    Calls Tryz.prog 112 #[.agg #[.int .u64 x0, .int .u64 x1, .int .u64 x2, .int .u64 x3], .int .i64 n] w fun e w' => e = .returned (.agg #[.int .u64 (bits .or .u64 (x2 / 2 ^ s.toNat) (IntKind.u64.wrap (x3 * 2 ^ (64 - s).toNat))), .int .u64 (x3 / 2 ^ s.toNat), .int .u64 0, .int .u64 0]) ∧ Below w.heap.size w w' := by
  obtain ⟨_, _⟩ := hx0; obtain ⟨_, _⟩ := hx1; obtain ⟨_, _⟩ := hx2; obtain ⟨_, _⟩ := hx3
  go_enter Tryz.func112, Tryz.ntmps112
  go_wp2
  refine wp_loop_rounds 5 ?_
  rw [rounds_succ]; go_wp2
  rw [rounds_succ]; go_wp2; go_region; go_wp2
  rw [rounds_succ]; go_wp2
  simp [bodyPost, results, Tryz.results112, go_sem]
  repeat (first | with_reducible exact Below.refl _ _ | with_reducible refine Below.drew ?_ | with_reducible refine Below.alloc ?_ (by first | omega | (simp; done) | (simp; omega)) _)

set_option maxHeartbeats 1000000 in
theorem down_3 {x0 x1 x2 x3 n s : Int} (hx0 : Word x0) (hx1 : Word x1) (hx2 : Word x2) (hx3 : Word x3) (_n0 : 0 ≤ n) (_n1 : n ≤ 255) (s0 : 0 ≤ s) (s1 : s ≤ 63) (hq : n / 64 = 3) (hr : n % 64 = s) (w : World) :
    Calls Tryz.prog 112 #[.agg #[.int .u64 x0, .int .u64 x1, .int .u64 x2, .int .u64 x3], .int .i64 n] w fun e w' => e = .returned (.agg #[.int .u64 (x3 / 2 ^ s.toNat), .int .u64 0, .int .u64 0, .int .u64 0]) ∧ Below w.heap.size w w' := by
  obtain ⟨_, _⟩ := hx0; obtain ⟨_, _⟩ := hx1; obtain ⟨_, _⟩ := hx2; obtain ⟨_, _⟩ := hx3
  go_enter Tryz.func112, Tryz.ntmps112
  go_wp2
  refine wp_loop_rounds 5 ?_
  rw [rounds_succ]; go_wp2
  rw [rounds_succ]; go_wp2
  simp [bodyPost, results, Tryz.results112, go_sem]
  repeat (first | with_reducible exact Below.refl _ _ | with_reducible refine Below.drew ?_ | with_reducible refine Below.alloc ?_ (by first | omega | (simp; done) | (simp; omega)) _)

end Go.Proofs.YtncpjgpioajbeaaGreatDoor

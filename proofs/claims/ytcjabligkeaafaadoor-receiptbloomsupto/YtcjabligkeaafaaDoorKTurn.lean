import Derived.Test.YtcjabligkeaafaaDoorKBase
namespace Go.Proofs.YtcjabligkeaafaaDoor.K
open Go.RowKit Go.Sort

theorem and63 {k : Nat} (h : k < 64) : bits .and .u64 (k : Int) 63 = k := by
  rw [show (63 : Int) = ((63 : Nat) : Int) by rfl, u64_and_nat _ _ (by omega) (by omega), show (63 : Nat) = 2 ^ 6 - 1 by rfl, Nat.and_two_pow_sub_one_eq_mod, Nat.mod_eq_of_lt (by omega)]

set_option maxHeartbeats 1000000 in
theorem rotl_any (x : BitVec 64) {k : Nat} (hk : k < 64) (w : World) :
    Calls Tryd.prog 28 #[.int .u64 (V x), .int .i64 k] w fun e w' => e = .returned (.int .u64 (V (x.rotateLeft k))) ∧ w' = w := by
  have a := and63 hk
  have r := V_rot x hk
  have b0 : (k : Int) < 64 := by omega
  have e1 : (64 - (k : Int)).toNat = 64 - k := by omega
  go_enter Tryd.func28, Tryd.ntmps28
  go_wp2
  go_ret
  exact ⟨rfl, rfl⟩

theorem rotl_b (x : BitVec 64) {k : Nat} (hk : k < 64) (w : World) :
    Calls Tryd.prog 28 #[.int .u64 (V x), .int .i64 k] w fun e w' => e = .returned (.int .u64 (V (x.rotateLeft k))) ∧ Below w.heap.size w w' :=
  (rotl_any x hk w).mono fun _ _ ⟨h1, h2⟩ => ⟨h1, by rw [h2]; exact Below.refl _ _⟩

set_option maxHeartbeats 1000000 in
theorem turn_any {b i k : Nat} {x : BitVec 64} (d : BitVec 64) (hi : i < 25) (hk : k < 64) (w : World) (hx : w.cell? ⟨b, i, none⟩ = some (.int .u64 (V x))) (ht : w.cell? ⟨1, i, none⟩ = some (.int .i64 k)) :
    Calls Tryd.prog 30 #[.pointer (some ⟨b, 0, none⟩), .int .i64 i, .int .u64 (V d)] w fun e w' => e = .returned (.int .u64 (V ((x ^^^ d).rotateLeft k))) ∧ Below w.heap.size w w' := by
  have vx := V_xor x d
  have b0 : (i : Int) < 25 := by omega
  go_enter Tryd.func30, Tryd.ntmps30
  go_wp2
  have gx := fun d os => cell_regrown hx d os
  have gt := fun d os => cell_regrown ht d os
  refine wp_region_quiet_below (by kernel_rfl) (by kernel_rfl) ?_
  repeat
    first
      | go_big_quiet_skip
      | (go_big_quiet_want; go_big_quiet_op; go_big_quiet_on)
      | (go_big_quiet_want
         go_big_quiet_op
         apply Exists.intro
         refine ⟨fun p => ?_, ?_⟩
         · (go_at_call 28; exact Calls.regrown_of (rotl_b (x ^^^ d) hk _))
         go_big_quiet_on)
  refine wpQuiet_nil ?_
  rintro w1 ⟨p, rfl⟩
  have hb := below_regrown w p.d p.os
  generalize grow (redrawn w p.d) p.os = w1 at *
  go_wp2
  go_ret
  exact ⟨rfl, hb⟩

end Go.Proofs.YtcjabligkeaafaaDoor.K

import Derived.Test.YtjjimkhppoppbaaAndOr
import Derived.Test.YtjjimkhppoppbaaRefShl
namespace Go.Proofs.Ytjjimkhppoppbaa
open Go.RowKit Go.Sort

set_option maxHeartbeats 4000000 in
theorem bits_any {x y n : Int} (hx : Num x) (w : World) :
    Calls Try.prog 8 #[.agg #[.int .u64 (l0 x), .int .u64 (l1 x), .int .u64 (l2 x), .int .u64 (l3 x)], .agg #[.int .u64 (l0 y), .int .u64 (l1 y), .int .u64 (l2 y), .int .u64 (l3 y)], .int .i64 n] w fun e w' => e = .returned (.bool true) ∧ Below w.heap.size w w' := by
  have eqy : ∀ a0 a1 a2 a3 w, (Op.equalIn 10000 24 (.agg #[.int .u64 a0, .int .u64 a1, .int .u64 a2, .int .u64 a3]) (.agg #[.int .u64 a0, .int .u64 a1, .int .u64 a2, .int .u64 a3])).run Try.prog w = .ok true w := fun a0 a1 a2 a3 w => eq_same a0 a1 a2 a3 w
  go_enter Try.func8, Try.ntmps8
  go_wp2_with fail
  refine wp_world (fun W => Below w.heap.size w W ∧ Hold W w.heap.size x ∧ Hold W (w.heap.size + 1) y) ⟨?_, ?_, ?_⟩ ?_
  · repeat (first | with_reducible exact Below.refl _ _ | with_reducible refine Below.alloc ?_ (by first | omega | (simp; done) | (simp; omega)) _)
  · exact (Hold.new w x _).alloc _
  · have := Hold.new (w.alloc (.cells #[.int .u64 (l0 x), .int .u64 (l1 x), .int .u64 (l2 x), .int .u64 (l3 x)] 24)) y 24
    simp at this
    exact this
  rintro W ⟨B, hX, hY⟩
  generalize w.heap.size + 1 = by' at *
  have gX := hX.grown; have gY := hY.grown
  refine wp_region_quiet_below (by kernel_rfl) (by kernel_rfl) ?_
  repeat
    first
      | go_big_quiet_skip
      | (go_big_quiet_want; go_big_quiet_op; go_big_quiet_on)
      | (go_big_quiet_want
         go_big_quiet_op
         apply Exists.intro
         refine ⟨fun p => ?_, ?_⟩
         · (first | (go_at_call 37; exact Calls.regrown_of (and_p _ _ _ _ _ _ _ _ _)) | (go_at_call 38; exact Calls.regrown_of (and_r _ _ _ _ _ _ _ _ _)) | (go_at_call 39; exact Calls.regrown_of (or_p _ _ _ _ _ _ _ _ _)) | (go_at_call 40; exact Calls.regrown_of (or_r _ _ _ _ _ _ _ _ _)) | (go_at_call 41; exact Calls.regrown_of (xor_p _ _ _ _ _ _ _ _ _)) | (go_at_call 42; exact Calls.regrown_of (xor_r _ _ _ _ _ _ _ _ _)) | (go_at_call 43; exact Calls.regrown_of (not_p _ _ _ _ _)) | (go_at_call 44; exact Calls.regrown_of (not_r _ _ _ _ _)) | (go_at_call 32; exact Calls.regrown_of (shl_any hx _)) | (go_at_call 45; exact Calls.regrown_of (rshl_any hx _)) | (go_at_call 33; exact Calls.regrown_of (shr_any hx _)) | (go_at_call 46; exact Calls.regrown_of (rshr_any hx _)) | (go_at_call 35; exact Calls.regrown_of (bit_any hx _)) | (go_at_call 47; exact Calls.regrown_of (rbit_any hx _)) | (go_at_call 36; exact Calls.regrown_of (len_any hx _)) | (go_at_call 48; exact Calls.regrown_of (rlen_any hx _)))
         go_big_quiet_on)
  refine wpQuiet_nil ?_
  rintro w1 ⟨p, rfl⟩
  have hb := below_regrown W p.d p.os
  generalize grow (redrawn W p.d) p.os = w1 at *
  replace B := B.trans (hb.mono B.size)
  replace hX := hX.keep hb
  clear hb gX gY hY
  have gX := hX.grown
  go_wp2_with fail
  refine wp_region_quiet_below (by kernel_rfl) (by kernel_rfl) ?_
  repeat
    first
      | go_big_quiet_skip
      | (go_big_quiet_want; go_big_quiet_op; go_big_quiet_on)
      | (go_big_quiet_want
         go_big_quiet_op
         apply Exists.intro
         refine ⟨fun p => ?_, ?_⟩
         · (first | (go_at_call 37; exact Calls.regrown_of (and_p _ _ _ _ _ _ _ _ _)) | (go_at_call 38; exact Calls.regrown_of (and_r _ _ _ _ _ _ _ _ _)) | (go_at_call 39; exact Calls.regrown_of (or_p _ _ _ _ _ _ _ _ _)) | (go_at_call 40; exact Calls.regrown_of (or_r _ _ _ _ _ _ _ _ _)) | (go_at_call 41; exact Calls.regrown_of (xor_p _ _ _ _ _ _ _ _ _)) | (go_at_call 42; exact Calls.regrown_of (xor_r _ _ _ _ _ _ _ _ _)) | (go_at_call 43; exact Calls.regrown_of (not_p _ _ _ _ _)) | (go_at_call 44; exact Calls.regrown_of (not_r _ _ _ _ _)) | (go_at_call 32; exact Calls.regrown_of (shl_any hx _)) | (go_at_call 45; exact Calls.regrown_of (rshl_any hx _)) | (go_at_call 33; exact Calls.regrown_of (shr_any hx _)) | (go_at_call 46; exact Calls.regrown_of (rshr_any hx _)) | (go_at_call 35; exact Calls.regrown_of (bit_any hx _)) | (go_at_call 47; exact Calls.regrown_of (rbit_any hx _)) | (go_at_call 36; exact Calls.regrown_of (len_any hx _)) | (go_at_call 48; exact Calls.regrown_of (rlen_any hx _)))
         go_big_quiet_on)
  refine wpQuiet_nil ?_
  rintro w2 ⟨p, rfl⟩
  have hb := below_regrown w1 p.d p.os
  generalize grow (redrawn w1 p.d) p.os = w2 at *
  replace B := B.trans (hb.mono B.size)
  replace hX := hX.keep hb
  clear hb gX
  have gX := hX.grown
  go_wp2_with fail
  refine wp_region_quiet_below (by kernel_rfl) (by kernel_rfl) ?_
  repeat
    first
      | go_big_quiet_skip
      | (go_big_quiet_want; go_big_quiet_op; go_big_quiet_on)
      | (go_big_quiet_want
         go_big_quiet_op
         apply Exists.intro
         refine ⟨fun p => ?_, ?_⟩
         · (first | (go_at_call 37; exact Calls.regrown_of (and_p _ _ _ _ _ _ _ _ _)) | (go_at_call 38; exact Calls.regrown_of (and_r _ _ _ _ _ _ _ _ _)) | (go_at_call 39; exact Calls.regrown_of (or_p _ _ _ _ _ _ _ _ _)) | (go_at_call 40; exact Calls.regrown_of (or_r _ _ _ _ _ _ _ _ _)) | (go_at_call 41; exact Calls.regrown_of (xor_p _ _ _ _ _ _ _ _ _)) | (go_at_call 42; exact Calls.regrown_of (xor_r _ _ _ _ _ _ _ _ _)) | (go_at_call 43; exact Calls.regrown_of (not_p _ _ _ _ _)) | (go_at_call 44; exact Calls.regrown_of (not_r _ _ _ _ _)) | (go_at_call 32; exact Calls.regrown_of (shl_any hx _)) | (go_at_call 45; exact Calls.regrown_of (rshl_any hx _)) | (go_at_call 33; exact Calls.regrown_of (shr_any hx _)) | (go_at_call 46; exact Calls.regrown_of (rshr_any hx _)) | (go_at_call 35; exact Calls.regrown_of (bit_any hx _)) | (go_at_call 47; exact Calls.regrown_of (rbit_any hx _)) | (go_at_call 36; exact Calls.regrown_of (len_any hx _)) | (go_at_call 48; exact Calls.regrown_of (rlen_any hx _)))
         go_big_quiet_on)
  refine wpQuiet_nil ?_
  rintro w3 ⟨p, rfl⟩
  have hb := below_regrown w2 p.d p.os
  generalize grow (redrawn w2 p.d) p.os = w3 at *
  go_wp2
  go_ret
  exact ⟨rfl, B.trans (hb.mono B.size)⟩

end Go.Proofs.Ytjjimkhppoppbaa

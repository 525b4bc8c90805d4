import Derived.Test.YtjjimkhppoppbabRefRoot
import Derived.Test.YtjjimkhppoppbabRootAny
import Derived.Test.YtjjimkhppoppbabQTail
namespace Go.Proofs.Ytjjimkhppoppbab
open Go.RowKit Go.Sort

set_option maxRecDepth 100000 in
set_option maxHeartbeats 4000000 in
theorem powers_any {n m : Int} (hn : Num n) (hm : Num m) (w : World) :
    Calls Try.prog 3 #[.agg #[.int .u64 (l0 n), .int .u64 (l1 n), .int .u64 (l2 n), .int .u64 (l3 n)], .agg #[.int .u64 (l0 m), .int .u64 (l1 m), .int .u64 (l2 m), .int .u64 (l3 m)]] w fun e w' => e = .returned (.bool true) ∧ Below w.heap.size w w' := by
  have ey : ∀ n w, (Op.equalIn 10000 24 (.agg #[.int .u64 (l0 n), .int .u64 (l1 n), .int .u64 (l2 n), .int .u64 (l3 n)]) (.agg #[.int .u64 (l0 n), .int .u64 (l1 n), .int .u64 (l2 n), .int .u64 (l3 n)])).run Try.prog w = .ok true w := fun n w => eq_yes w
  obtain ⟨s, hs⟩ := root_exists hn.1
  have E1 : Hid (∀ w, Calls Try.prog 6 #[.agg #[.int .u64 (l0 n), .int .u64 (l1 n), .int .u64 (l2 n), .int .u64 (l3 n)], .agg #[.int .u64 (l0 m), .int .u64 (l1 m), .int .u64 (l2 m), .int .u64 (l3 m)]] w fun e w' => e = .returned (.agg #[.int .u64 (l0 (expN n m)), .int .u64 (l1 (expN n m)), .int .u64 (l2 (expN n m)), .int .u64 (l3 (expN n m))]) ∧ Below w.heap.size w w') := fun w => exp_any hn hm w
  have E2 : Hid (∀ w, Calls Try.prog 7 #[.agg #[.int .u64 (l0 n), .int .u64 (l1 n), .int .u64 (l2 n), .int .u64 (l3 n)], .agg #[.int .u64 (l0 m), .int .u64 (l1 m), .int .u64 (l2 m), .int .u64 (l3 m)]] w fun e w' => e = .returned (.agg #[.int .u64 (l0 (expN n m)), .int .u64 (l1 (expN n m)), .int .u64 (l2 (expN n m)), .int .u64 (l3 (expN n m))]) ∧ Below w.heap.size w w') := fun w => rexp_any hn hm w
  have R1 : Hid (∀ w, Calls Try.prog 8 #[.agg #[.int .u64 (l0 n), .int .u64 (l1 n), .int .u64 (l2 n), .int .u64 (l3 n)]] w fun e w' => e = .returned (.agg #[.int .u64 (l0 s), .int .u64 (l1 s), .int .u64 (l2 s), .int .u64 (l3 s)]) ∧ Below w.heap.size w w') := fun w => root_any hn hs w
  have R2 : Hid (∀ w, Calls Try.prog 9 #[.agg #[.int .u64 (l0 n), .int .u64 (l1 n), .int .u64 (l2 n), .int .u64 (l3 n)]] w fun e w' => e = .returned (.agg #[.int .u64 (l0 s), .int .u64 (l1 s), .int .u64 (l2 s), .int .u64 (l3 s)]) ∧ Below w.heap.size w w') := fun w => rroot_any hn hs w
  generalize expN n m = p at *
  clear hs hn hm
  go_enter Try.func3, Try.ntmps3
  go_wp2_with fail
  refine wp_world (fun W => Below w.heap.size w W ∧ Hold W w.heap.size n ∧ Hold W (w.heap.size + 1) m) ⟨?_, ?_, ?_⟩ ?_
  · repeat (first | with_reducible exact Below.refl _ _ | with_reducible refine Below.alloc ?_ (by first | omega | (simp; done) | (simp; omega)) _)
  · have := Hold.new w n 24
    (try simp at this)
    exact (this.alloc _)
  · have := Hold.new (w.alloc (.cells #[.int .u64 (l0 n), .int .u64 (l1 n), .int .u64 (l2 n), .int .u64 (l3 n)] 24)) m 24
    (try simp at this)
    exact this
  rintro W ⟨B, hX, hY⟩
  generalize w.heap.size + 1 = bw at *
  have ghX := hX.grown
  have ghY := hY.grown
  refine wp_region_quiet_below (by kernel_rfl) (by kernel_rfl) ?_
  repeat
    first
      | go_big_quiet_skip
      | (go_big_quiet_want; go_big_quiet_op; go_big_quiet_on)
      | (go_big_quiet_want
         go_big_quiet_op
         apply Exists.intro
         refine ⟨fun p => ?_, ?_⟩
         · (first | (go_at_call 6; exact Calls.regrown_of (E1.out _)) | (go_at_call 7; exact Calls.regrown_of (E2.out _)) | (go_at_call 8; exact Calls.regrown_of (R1.out _)) | (go_at_call 9; exact Calls.regrown_of (R2.out _)))
         go_big_quiet_on)
  refine wpQuiet_nil ?_
  rintro w1 ⟨p, rfl⟩
  have hb := below_regrown W p.d p.os
  generalize grow (redrawn W p.d) p.os = w1 at *
  replace B := B.trans (hb.mono B.size)
  replace hX := hX.keep hb; replace hY := hY.keep hb
  clear hb W ghX ghY
  go_wp2
  go_ret
  exact ⟨rfl, B⟩

end Go.Proofs.Ytjjimkhppoppbab

import Derived.Test.YtmegdnalpaddmaaFeH
import Derived.Test.YtmegdnalpaddmaaFeB
namespace Go.Proofs.Ytmegdnalpaddmaa
open Go.RowKit Go.Sort

theorem eq_oneF (w : World) : (Op.equalIn 10000 24 (.agg #[.int .u64 (l0 1), .int .u64 (l1 1), .int .u64 (l2 1), .int .u64 (l3 1)]) (.agg #[.int .u64 1, .int .u64 0, .int .u64 0, .int .u64 0])).run Try.prog w = .ok true w := by
  have := eq_yes (n := 1) w
  rw [show l0 1 = 1 from rfl, show l1 1 = 0 from rfl, show l2 1 = 0 from rfl, show l3 1 = 0 from rfl] at this ⊢
  exact this

set_option maxRecDepth 100000 in
set_option maxHeartbeats 4000000 in
theorem rising_n0 {p q t f : Int} (c : ¬ q < p) (hf : f = 0) (B0 : Hid (∀ w, Calls Try.prog 12 #[.int .u64 0, .int .u64 f] w fun e w' => e = .returned (.tuple #[.agg #[.int .u64 (l0 0), .int .u64 (l1 0), .int .u64 (l2 0), .int .u64 (l3 0)], .int .i64 1]) ∧ Below w.heap.size w w')) (B1 : Hid (∀ w, Calls Try.prog 12 #[.int .u64 p, .int .u64 f] w fun e w' => e = .returned (.tuple #[.agg #[.int .u64 (l0 0), .int .u64 (l1 0), .int .u64 (l2 0), .int .u64 (l3 0)], .int .i64 1]) ∧ Below w.heap.size w w')) (B2 : Hid (∀ w, Calls Try.prog 12 #[.int .u64 q, .int .u64 f] w fun e w' => e = .returned (.tuple #[.agg #[.int .u64 (l0 0), .int .u64 (l1 0), .int .u64 (l2 0), .int .u64 (l3 0)], .int .i64 1]) ∧ Below w.heap.size w w')) (w : World) :
    Calls Try.prog 4 #[.int .u64 p, .int .u64 q, .int .u64 t, .int .u64 f] w fun e w' => e = .returned (.bool true) ∧ Below w.heap.size w w' := by
  subst hf
  go_enter Try.func4, Try.ntmps4
  go_wp2_with fail
  refine calls_world (fun W => Below w.heap.size w W) (Below.refl _ _) ?_
  rintro W B
  with_reducible refine (B0.out _).mono ?_
  rintro e w1 ⟨rfl, hb⟩
  replace B := B.trans (hb.mono B.size)
  clear hb W
  go_wp2_with fail
  refine calls_world (fun W => Below w.heap.size w W ∧ Hold W w1.heap.size 0) ⟨B.alloc B.size _, Hold.new _ _ _⟩ ?_
  clear B  
  rintro W ⟨B, hN⟩
  generalize w1.heap.size = bn at *
  with_reducible refine (B1.out _).mono ?_
  rintro e w2 ⟨rfl, hb⟩
  replace B := B.trans (hb.mono B.size)
  replace hN := hN.keep hb
  clear hb W
  go_wp2_with fail
  refine calls_world (fun W => Below w.heap.size w W ∧ Hold W bn 0 ∧ Hold W w2.heap.size 0) ⟨B.alloc B.size _, hN.alloc _, Hold.new _ _ _⟩ ?_
  clear B hN 
  rintro W ⟨B, hN, hP⟩
  generalize w2.heap.size = bp at *
  with_reducible refine (B2.out _).mono ?_
  rintro e w9 ⟨rfl, hb⟩
  replace B := B.trans (hb.mono B.size)
  replace hN := hN.keep hb; replace hP := hP.keep hb
  clear hb
  go_wp2
  simp [bodyPost, results, Try.results4, go_sem]
  exact B.alloc B.size _

set_option maxRecDepth 100000 in
set_option maxHeartbeats 8000000 in
theorem rising_nhh {p q t f u v xl xh k : Int} (c : ¬ q < p) (fn : f ≠ 0) (B0 : Hid (∀ w, Calls Try.prog 12 #[.int .u64 0, .int .u64 f] w fun e w' => e = .returned (.tuple #[.agg #[.int .u64 (l0 1), .int .u64 (l1 1), .int .u64 (l2 1), .int .u64 (l3 1)], .int .i64 0]) ∧ Below w.heap.size w w')) (B1 : Hid (∀ w, Calls Try.prog 12 #[.int .u64 p, .int .u64 f] w fun e w' => e = .returned (.tuple #[.agg #[.int .u64 (l0 u), .int .u64 (l1 u), .int .u64 (l2 u), .int .u64 (l3 u)], .int .i64 0]) ∧ Below w.heap.size w w')) (B2 : Hid (∀ w, Calls Try.prog 12 #[.int .u64 q, .int .u64 f] w fun e w' => e = .returned (.tuple #[.agg #[.int .u64 (l0 v), .int .u64 (l1 v), .int .u64 (l2 v), .int .u64 (l3 v)], .int .i64 0]) ∧ Below w.heap.size w w')) (CM : Hid (∀ w, Calls Try.prog 11 #[.agg #[.int .u64 (l0 u), .int .u64 (l1 u), .int .u64 (l2 u), .int .u64 (l3 u)], .agg #[.int .u64 (l0 v), .int .u64 (l1 v), .int .u64 (l2 v), .int .u64 (l3 v)]] w fun e w' => e = .returned (.int .i64 k) ∧ Below w.heap.size w w')) (hk : ¬ 0 < k)
    (N1 : Hid (∀ w, Calls Try.prog 13 #[.int .u64 p, .int .u64 0, .int .u64 t] w fun e w' => e = .returned (.tuple #[.int .u64 xl, .int .i64 0]) ∧ Below w.heap.size w w')) (N2 : Hid (∀ w, Calls Try.prog 13 #[.int .u64 q, .int .u64 0, .int .u64 t] w fun e w' => e = .returned (.tuple #[.int .u64 xh, .int .i64 0]) ∧ Below w.heap.size w w')) (hxx : ¬ xh < xl) (HX : p < t ∧ xl = 0 ∨ ¬ p < t ∧ 0 ≤ p - t ∧ p - t < 18446744073709551616 ∧ xl = p - t) (w : World) :
    Calls Try.prog 4 #[.int .u64 p, .int .u64 q, .int .u64 t, .int .u64 f] w fun e w' => e = .returned (.bool true) ∧ Below w.heap.size w w' := by
  have eo := eq_oneF
  go_enter Try.func4, Try.ntmps4
  go_wp2_with fail
  refine calls_world (fun W => Below w.heap.size w W) (Below.refl _ _) ?_
  rintro W B
  with_reducible refine (B0.out _).mono ?_
  rintro e w1 ⟨rfl, hb⟩
  replace B := B.trans (hb.mono B.size)
  clear hb W
  go_wp2_with fail
  refine calls_world (fun W => Below w.heap.size w W ∧ Hold W w1.heap.size 1) ⟨B.alloc B.size _, Hold.new _ _ _⟩ ?_
  clear B  
  rintro W ⟨B, hN⟩
  generalize w1.heap.size = bn at *
  with_reducible refine (B1.out _).mono ?_
  rintro e w2 ⟨rfl, hb⟩
  replace B := B.trans (hb.mono B.size)
  replace hN := hN.keep hb
  clear hb W
  go_wp2_with fail
  refine calls_world (fun W => Below w.heap.size w W ∧ Hold W bn 1 ∧ Hold W w2.heap.size u) ⟨B.alloc B.size _, hN.alloc _, Hold.new _ _ _⟩ ?_
  clear B hN 
  rintro W ⟨B, hN, hP⟩
  generalize w2.heap.size = bp at *
  with_reducible refine (B2.out _).mono ?_
  rintro e w3 ⟨rfl, hb⟩
  replace B := B.trans (hb.mono B.size)
  replace hN := hN.keep hb; replace hP := hP.keep hb
  clear hb W
  have ghN := hN.allocs
  have ghP := hP.allocs
  go_wp2_with fail
  refine calls_world (fun W => Below w.heap.size w W ∧ Hold W bn 1 ∧ Hold W bp u ∧ Hold W w3.heap.size v) ⟨B.alloc B.size _, hN.alloc _, hP.alloc _, Hold.new _ _ _⟩ ?_
  clear B hN hP ghN ghP
  rintro W ⟨B, hN, hP, hV⟩
  generalize w3.heap.size = bv at *
  with_reducible refine (CM.out _).mono ?_
  rintro e w4 ⟨rfl, hb⟩
  replace B := B.trans (hb.mono B.size)
  replace hN := hN.keep hb; replace hP := hP.keep hb; replace hV := hV.keep hb
  clear hb W
  go_wp2_with fail
  refine calls_world (fun W => Below w.heap.size w W ∧ Hold W bn 1 ∧ Hold W bp u ∧ Hold W bv v) ⟨B, hN, hP, hV⟩ ?_
  clear B hN hP hV 
  rintro W ⟨B, hN, hP, hV⟩
  with_reducible refine (N1.out _).mono ?_
  rintro e w5 ⟨rfl, hb⟩
  replace B := B.trans (hb.mono B.size)
  replace hN := hN.keep hb; replace hP := hP.keep hb; replace hV := hV.keep hb
  clear hb W
  go_wp2_with fail
  refine calls_world (fun W => Below w.heap.size w W ∧ Hold W bn 1 ∧ Hold W bp u ∧ Hold W bv v) ⟨B, hN, hP, hV⟩ ?_
  clear B hN hP hV 
  rintro W ⟨B, hN, hP, hV⟩
  with_reducible refine (N2.out _).mono ?_
  rintro e w9 ⟨rfl, hb⟩
  replace B := B.trans (hb.mono B.size)
  replace hN := hN.keep hb; replace hP := hP.keep hb; replace hV := hV.keep hb
  clear hb
  rcases HX with ⟨c5, rfl⟩ | ⟨c5, c6, c7, rfl⟩
  all_goals (go_wp2; simp [bodyPost, results, Try.results4, go_sem]; exact B)

set_option maxRecDepth 100000 in
set_option maxHeartbeats 8000000 in
theorem rising_nhw {p q t f u v xl xh : Int} (c : ¬ q < p) (fn : f ≠ 0) (B0 : Hid (∀ w, Calls Try.prog 12 #[.int .u64 0, .int .u64 f] w fun e w' => e = .returned (.tuple #[.agg #[.int .u64 (l0 1), .int .u64 (l1 1), .int .u64 (l2 1), .int .u64 (l3 1)], .int .i64 0]) ∧ Below w.heap.size w w')) (B1 : Hid (∀ w, Calls Try.prog 12 #[.int .u64 p, .int .u64 f] w fun e w' => e = .returned (.tuple #[.agg #[.int .u64 (l0 u), .int .u64 (l1 u), .int .u64 (l2 u), .int .u64 (l3 u)], .int .i64 0]) ∧ Below w.heap.size w w')) (B2 : Hid (∀ w, Calls Try.prog 12 #[.int .u64 q, .int .u64 f] w fun e w' => e = .returned (.tuple #[.agg #[.int .u64 (l0 v), .int .u64 (l1 v), .int .u64 (l2 v), .int .u64 (l3 v)], .int .i64 183]) ∧ Below w.heap.size w w'))
    (N1 : Hid (∀ w, Calls Try.prog 13 #[.int .u64 p, .int .u64 0, .int .u64 t] w fun e w' => e = .returned (.tuple #[.int .u64 xl, .int .i64 0]) ∧ Below w.heap.size w w')) (N2 : Hid (∀ w, Calls Try.prog 13 #[.int .u64 q, .int .u64 0, .int .u64 t] w fun e w' => e = .returned (.tuple #[.int .u64 xh, .int .i64 0]) ∧ Below w.heap.size w w')) (hxx : ¬ xh < xl) (HX : p < t ∧ xl = 0 ∨ ¬ p < t ∧ 0 ≤ p - t ∧ p - t < 18446744073709551616 ∧ xl = p - t) (w : World) :
    Calls Try.prog 4 #[.int .u64 p, .int .u64 q, .int .u64 t, .int .u64 f] w fun e w' => e = .returned (.bool true) ∧ Below w.heap.size w w' := by
  have eo := eq_oneF
  go_enter Try.func4, Try.ntmps4
  go_wp2_with fail
  refine calls_world (fun W => Below w.heap.size w W) (Below.refl _ _) ?_
  rintro W B
  with_reducible refine (B0.out _).mono ?_
  rintro e w1 ⟨rfl, hb⟩
  replace B := B.trans (hb.mono B.size)
  clear hb W
  go_wp2_with fail
  refine calls_world (fun W => Below w.heap.size w W ∧ Hold W w1.heap.size 1) ⟨B.alloc B.size _, Hold.new _ _ _⟩ ?_
  clear B  
  rintro W ⟨B, hN⟩
  generalize w1.heap.size = bn at *
  with_reducible refine (B1.out _).mono ?_
  rintro e w2 ⟨rfl, hb⟩
  replace B := B.trans (hb.mono B.size)
  replace hN := hN.keep hb
  clear hb W
  go_wp2_with fail
  refine calls_world (fun W => Below w.heap.size w W ∧ Hold W bn 1 ∧ Hold W w2.heap.size u) ⟨B.alloc B.size _, hN.alloc _, Hold.new _ _ _⟩ ?_
  clear B hN 
  rintro W ⟨B, hN, hP⟩
  generalize w2.heap.size = bp at *
  with_reducible refine (B2.out _).mono ?_
  rintro e w3 ⟨rfl, hb⟩
  replace B := B.trans (hb.mono B.size)
  replace hN := hN.keep hb; replace hP := hP.keep hb
  clear hb W
  have ghN := hN.allocs
  go_wp2_with fail
  refine calls_world (fun W => Below w.heap.size w W ∧ Hold W bn 1 ∧ Hold W bp u ∧ Hold W w3.heap.size v) ⟨B.alloc B.size _, hN.alloc _, hP.alloc _, Hold.new _ _ _⟩ ?_
  clear B hN hP ghN
  rintro W ⟨B, hN, hP, hV⟩
  generalize w3.heap.size = bv at *
  with_reducible refine (N1.out _).mono ?_
  rintro e w4 ⟨rfl, hb⟩
  replace B := B.trans (hb.mono B.size)
  replace hN := hN.keep hb; replace hP := hP.keep hb; replace hV := hV.keep hb
  clear hb W
  go_wp2_with fail
  refine calls_world (fun W => Below w.heap.size w W ∧ Hold W bn 1 ∧ Hold W bp u ∧ Hold W bv v) ⟨B, hN, hP, hV⟩ ?_
  clear B hN hP hV 
  rintro W ⟨B, hN, hP, hV⟩
  with_reducible refine (N2.out _).mono ?_
  rintro e w9 ⟨rfl, hb⟩
  replace B := B.trans (hb.mono B.size)
  replace hN := hN.keep hb; replace hP := hP.keep hb; replace hV := hV.keep hb
  clear hb
  rcases HX with ⟨c5, rfl⟩ | ⟨c5, c6, c7, rfl⟩
  all_goals (go_wp2; simp [bodyPost, results, Try.results4, go_sem]; exact B)

set_option maxRecDepth 100000 in
set_option maxHeartbeats 8000000 in
theorem rising_nww {p q t f u v xl xh : Int} (c : ¬ q < p) (fn : f ≠ 0) (B0 : Hid (∀ w, Calls Try.prog 12 #[.int .u64 0, .int .u64 f] w fun e w' => e = .returned (.tuple #[.agg #[.int .u64 (l0 1), .int .u64 (l1 1), .int .u64 (l2 1), .int .u64 (l3 1)], .int .i64 0]) ∧ Below w.heap.size w w')) (B1 : Hid (∀ w, Calls Try.prog 12 #[.int .u64 p, .int .u64 f] w fun e w' => e = .returned (.tuple #[.agg #[.int .u64 (l0 u), .int .u64 (l1 u), .int .u64 (l2 u), .int .u64 (l3 u)], .int .i64 183]) ∧ Below w.heap.size w w')) (B2 : Hid (∀ w, Calls Try.prog 12 #[.int .u64 q, .int .u64 f] w fun e w' => e = .returned (.tuple #[.agg #[.int .u64 (l0 v), .int .u64 (l1 v), .int .u64 (l2 v), .int .u64 (l3 v)], .int .i64 183]) ∧ Below w.heap.size w w'))
    (N1 : Hid (∀ w, Calls Try.prog 13 #[.int .u64 p, .int .u64 0, .int .u64 t] w fun e w' => e = .returned (.tuple #[.int .u64 xl, .int .i64 0]) ∧ Below w.heap.size w w')) (N2 : Hid (∀ w, Calls Try.prog 13 #[.int .u64 q, .int .u64 0, .int .u64 t] w fun e w' => e = .returned (.tuple #[.int .u64 xh, .int .i64 0]) ∧ Below w.heap.size w w')) (hxx : ¬ xh < xl) (HX : p < t ∧ xl = 0 ∨ ¬ p < t ∧ 0 ≤ p - t ∧ p - t < 18446744073709551616 ∧ xl = p - t) (w : World) :
    Calls Try.prog 4 #[.int .u64 p, .int .u64 q, .int .u64 t, .int .u64 f] w fun e w' => e = .returned (.bool true) ∧ Below w.heap.size w w' := by
  have eo := eq_oneF
  go_enter Try.func4, Try.ntmps4
  go_wp2_with fail
  refine calls_world (fun W => Below w.heap.size w W) (Below.refl _ _) ?_
  rintro W B
  with_reducible refine (B0.out _).mono ?_
  rintro e w1 ⟨rfl, hb⟩
  replace B := B.trans (hb.mono B.size)
  clear hb W
  go_wp2_with fail
  refine calls_world (fun W => Below w.heap.size w W ∧ Hold W w1.heap.size 1) ⟨B.alloc B.size _, Hold.new _ _ _⟩ ?_
  clear B  
  rintro W ⟨B, hN⟩
  generalize w1.heap.size = bn at *
  with_reducible refine (B1.out _).mono ?_
  rintro e w2 ⟨rfl, hb⟩
  replace B := B.trans (hb.mono B.size)
  replace hN := hN.keep hb
  clear hb W
  go_wp2_with fail
  refine calls_world (fun W => Below w.heap.size w W ∧ Hold W bn 1 ∧ Hold W w2.heap.size u) ⟨B.alloc B.size _, hN.alloc _, Hold.new _ _ _⟩ ?_
  clear B hN 
  rintro W ⟨B, hN, hP⟩
  generalize w2.heap.size = bp at *
  with_reducible refine (B2.out _).mono ?_
  rintro e w3 ⟨rfl, hb⟩
  replace B := B.trans (hb.mono B.size)
  replace hN := hN.keep hb; replace hP := hP.keep hb
  clear hb W
  have ghN := hN.allocs
  go_wp2_with fail
  refine calls_world (fun W => Below w.heap.size w W ∧ Hold W bn 1 ∧ Hold W bp u ∧ Hold W w3.heap.size v) ⟨B.alloc B.size _, hN.alloc _, hP.alloc _, Hold.new _ _ _⟩ ?_
  clear B hN hP ghN
  rintro W ⟨B, hN, hP, hV⟩
  generalize w3.heap.size = bv at *
  with_reducible refine (N1.out _).mono ?_
  rintro e w4 ⟨rfl, hb⟩
  replace B := B.trans (hb.mono B.size)
  replace hN := hN.keep hb; replace hP := hP.keep hb; replace hV := hV.keep hb
  clear hb W
  go_wp2_with fail
  refine calls_world (fun W => Below w.heap.size w W ∧ Hold W bn 1 ∧ Hold W bp u ∧ Hold W bv v) ⟨B, hN, hP, hV⟩ ?_
  clear B hN hP hV 
  rintro W ⟨B, hN, hP, hV⟩
  with_reducible refine (N2.out _).mono ?_
  rintro e w9 ⟨rfl, hb⟩
  replace B := B.trans (hb.mono B.size)
  replace hN := hN.keep hb; replace hP := hP.keep hb; replace hV := hV.keep hb
  clear hb
  rcases HX with ⟨c5, rfl⟩ | ⟨c5, c6, c7, rfl⟩
  all_goals (go_wp2; simp [bodyPost, results, Try.results4, go_sem]; exact B)

set_option maxRecDepth 100000 in
set_option maxHeartbeats 4000000 in
theorem rising_s0 {p q t f : Int} (c : p < q) (hf : f = 0) (B0 : Hid (∀ w, Calls Try.prog 12 #[.int .u64 0, .int .u64 f] w fun e w' => e = .returned (.tuple #[.agg #[.int .u64 (l0 0), .int .u64 (l1 0), .int .u64 (l2 0), .int .u64 (l3 0)], .int .i64 1]) ∧ Below w.heap.size w w')) (B1 : Hid (∀ w, Calls Try.prog 12 #[.int .u64 p, .int .u64 f] w fun e w' => e = .returned (.tuple #[.agg #[.int .u64 (l0 0), .int .u64 (l1 0), .int .u64 (l2 0), .int .u64 (l3 0)], .int .i64 1]) ∧ Below w.heap.size w w')) (B2 : Hid (∀ w, Calls Try.prog 12 #[.int .u64 q, .int .u64 f] w fun e w' => e = .returned (.tuple #[.agg #[.int .u64 (l0 0), .int .u64 (l1 0), .int .u64 (l2 0), .int .u64 (l3 0)], .int .i64 1]) ∧ Below w.heap.size w w')) (w : World) :
    Calls Try.prog 4 #[.int .u64 q, .int .u64 p, .int .u64 t, .int .u64 f] w fun e w' => e = .returned (.bool true) ∧ Below w.heap.size w w' := by
  subst hf
  go_enter Try.func4, Try.ntmps4
  go_wp2_with fail
  refine calls_world (fun W => Below w.heap.size w W) (Below.refl _ _) ?_
  rintro W B
  with_reducible refine (B0.out _).mono ?_
  rintro e w1 ⟨rfl, hb⟩
  replace B := B.trans (hb.mono B.size)
  clear hb W
  go_wp2_with fail
  refine calls_world (fun W => Below w.heap.size w W ∧ Hold W w1.heap.size 0) ⟨B.alloc B.size _, Hold.new _ _ _⟩ ?_
  clear B  
  rintro W ⟨B, hN⟩
  generalize w1.heap.size = bn at *
  with_reducible refine (B1.out _).mono ?_
  rintro e w2 ⟨rfl, hb⟩
  replace B := B.trans (hb.mono B.size)
  replace hN := hN.keep hb
  clear hb W
  go_wp2_with fail
  refine calls_world (fun W => Below w.heap.size w W ∧ Hold W bn 0 ∧ Hold W w2.heap.size 0) ⟨B.alloc B.size _, hN.alloc _, Hold.new _ _ _⟩ ?_
  clear B hN 
  rintro W ⟨B, hN, hP⟩
  generalize w2.heap.size = bp at *
  with_reducible refine (B2.out _).mono ?_
  rintro e w9 ⟨rfl, hb⟩
  replace B := B.trans (hb.mono B.size)
  replace hN := hN.keep hb; replace hP := hP.keep hb
  clear hb
  go_wp2
  simp [bodyPost, results, Try.results4, go_sem]
  exact B.alloc B.size _

set_option maxRecDepth 100000 in
set_option maxHeartbeats 8000000 in
theorem rising_shh {p q t f u v xl xh k : Int} (c : p < q) (fn : f ≠ 0) (B0 : Hid (∀ w, Calls Try.prog 12 #[.int .u64 0, .int .u64 f] w fun e w' => e = .returned (.tuple #[.agg #[.int .u64 (l0 1), .int .u64 (l1 1), .int .u64 (l2 1), .int .u64 (l3 1)], .int .i64 0]) ∧ Below w.heap.size w w')) (B1 : Hid (∀ w, Calls Try.prog 12 #[.int .u64 p, .int .u64 f] w fun e w' => e = .returned (.tuple #[.agg #[.int .u64 (l0 u), .int .u64 (l1 u), .int .u64 (l2 u), .int .u64 (l3 u)], .int .i64 0]) ∧ Below w.heap.size w w')) (B2 : Hid (∀ w, Calls Try.prog 12 #[.int .u64 q, .int .u64 f] w fun e w' => e = .returned (.tuple #[.agg #[.int .u64 (l0 v), .int .u64 (l1 v), .int .u64 (l2 v), .int .u64 (l3 v)], .int .i64 0]) ∧ Below w.heap.size w w')) (CM : Hid (∀ w, Calls Try.prog 11 #[.agg #[.int .u64 (l0 u), .int .u64 (l1 u), .int .u64 (l2 u), .int .u64 (l3 u)], .agg #[.int .u64 (l0 v), .int .u64 (l1 v), .int .u64 (l2 v), .int .u64 (l3 v)]] w fun e w' => e = .returned (.int .i64 k) ∧ Below w.heap.size w w')) (hk : ¬ 0 < k)
    (N1 : Hid (∀ w, Calls Try.prog 13 #[.int .u64 p, .int .u64 0, .int .u64 t] w fun e w' => e = .returned (.tuple #[.int .u64 xl, .int .i64 0]) ∧ Below w.heap.size w w')) (N2 : Hid (∀ w, Calls Try.prog 13 #[.int .u64 q, .int .u64 0, .int .u64 t] w fun e w' => e = .returned (.tuple #[.int .u64 xh, .int .i64 0]) ∧ Below w.heap.size w w')) (hxx : ¬ xh < xl) (HX : p < t ∧ xl = 0 ∨ ¬ p < t ∧ 0 ≤ p - t ∧ p - t < 18446744073709551616 ∧ xl = p - t) (w : World) :
    Calls Try.prog 4 #[.int .u64 q, .int .u64 p, .int .u64 t, .int .u64 f] w fun e w' => e = .returned (.bool true) ∧ Below w.heap.size w w' := by
  have eo := eq_oneF
  go_enter Try.func4, Try.ntmps4
  go_wp2_with fail
  refine calls_world (fun W => Below w.heap.size w W) (Below.refl _ _) ?_
  rintro W B
  with_reducible refine (B0.out _).mono ?_
  rintro e w1 ⟨rfl, hb⟩
  replace B := B.trans (hb.mono B.size)
  clear hb W
  go_wp2_with fail
  refine calls_world (fun W => Below w.heap.size w W ∧ Hold W w1.heap.size 1) ⟨B.alloc B.size _, Hold.new _ _ _⟩ ?_
  clear B  
  rintro W ⟨B, hN⟩
  generalize w1.heap.size = bn at *
  with_reducible refine (B1.out _).mono ?_
  rintro e w2 ⟨rfl, hb⟩
  replace B := B.trans (hb.mono B.size)
  replace hN := hN.keep hb
  clear hb W
  go_wp2_with fail
  refine calls_world (fun W => Below w.heap.size w W ∧ Hold W bn 1 ∧ Hold W w2.heap.size u) ⟨B.alloc B.size _, hN.alloc _, Hold.new _ _ _⟩ ?_
  clear B hN 
  rintro W ⟨B, hN, hP⟩
  generalize w2.heap.size = bp at *
  with_reducible refine (B2.out _).mono ?_
  rintro e w3 ⟨rfl, hb⟩
  replace B := B.trans (hb.mono B.size)
  replace hN := hN.keep hb; replace hP := hP.keep hb
  clear hb W
  have ghN := hN.allocs
  have ghP := hP.allocs
  go_wp2_with fail
  refine calls_world (fun W => Below w.heap.size w W ∧ Hold W bn 1 ∧ Hold W bp u ∧ Hold W w3.heap.size v) ⟨B.alloc B.size _, hN.alloc _, hP.alloc _, Hold.new _ _ _⟩ ?_
  clear B hN hP ghN ghP
  rintro W ⟨B, hN, hP, hV⟩
  generalize w3.heap.size = bv at *
  with_reducible refine (CM.out _).mono ?_
  rintro e w4 ⟨rfl, hb⟩
  replace B := B.trans (hb.mono B.size)
  replace hN := hN.keep hb; replace hP := hP.keep hb; replace hV := hV.keep hb
  clear hb W
  go_wp2_with fail
  refine calls_world (fun W => Below w.heap.size w W ∧ Hold W bn 1 ∧ Hold W bp u ∧ Hold W bv v) ⟨B, hN, hP, hV⟩ ?_
  clear B hN hP hV 
  rintro W ⟨B, hN, hP, hV⟩
  with_reducible refine (N1.out _).mono ?_
  rintro e w5 ⟨rfl, hb⟩
  replace B := B.trans (hb.mono B.size)
  replace hN := hN.keep hb; replace hP := hP.keep hb; replace hV := hV.keep hb
  clear hb W
  go_wp2_with fail
  refine calls_world (fun W => Below w.heap.size w W ∧ Hold W bn 1 ∧ Hold W bp u ∧ Hold W bv v) ⟨B, hN, hP, hV⟩ ?_
  clear B hN hP hV 
  rintro W ⟨B, hN, hP, hV⟩
  with_reducible refine (N2.out _).mono ?_
  rintro e w9 ⟨rfl, hb⟩
  replace B := B.trans (hb.mono B.size)
  replace hN := hN.keep hb; replace hP := hP.keep hb; replace hV := hV.keep hb
  clear hb
  rcases HX with ⟨c5, rfl⟩ | ⟨c5, c6, c7, rfl⟩
  all_goals (go_wp2; simp [bodyPost, results, Try.results4, go_sem]; exact B)

set_option maxRecDepth 100000 in
set_option maxHeartbeats 8000000 in
theorem rising_shw {p q t f u v xl xh : Int} (c : p < q) (fn : f ≠ 0) (B0 : Hid (∀ w, Calls Try.prog 12 #[.int .u64 0, .int .u64 f] w fun e w' => e = .returned (.tuple #[.agg #[.int .u64 (l0 1), .int .u64 (l1 1), .int .u64 (l2 1), .int .u64 (l3 1)], .int .i64 0]) ∧ Below w.heap.size w w')) (B1 : Hid (∀ w, Calls Try.prog 12 #[.int .u64 p, .int .u64 f] w fun e w' => e = .returned (.tuple #[.agg #[.int .u64 (l0 u), .int .u64 (l1 u), .int .u64 (l2 u), .int .u64 (l3 u)], .int .i64 0]) ∧ Below w.heap.size w w')) (B2 : Hid (∀ w, Calls Try.prog 12 #[.int .u64 q, .int .u64 f] w fun e w' => e = .returned (.tuple #[.agg #[.int .u64 (l0 v), .int .u64 (l1 v), .int .u64 (l2 v), .int .u64 (l3 v)], .int .i64 183]) ∧ Below w.heap.size w w'))
    (N1 : Hid (∀ w, Calls Try.prog 13 #[.int .u64 p, .int .u64 0, .int .u64 t] w fun e w' => e = .returned (.tuple #[.int .u64 xl, .int .i64 0]) ∧ Below w.heap.size w w')) (N2 : Hid (∀ w, Calls Try.prog 13 #[.int .u64 q, .int .u64 0, .int .u64 t] w fun e w' => e = .returned (.tuple #[.int .u64 xh, .int .i64 0]) ∧ Below w.heap.size w w')) (hxx : ¬ xh < xl) (HX : p < t ∧ xl = 0 ∨ ¬ p < t ∧ 0 ≤ p - t ∧ p - t < 18446744073709551616 ∧ xl = p - t) (w : World) :
    Calls Try.prog 4 #[.int .u64 q, .int .u64 p, .int .u64 t, .int .u64 f] w fun e w' => e = .returned (.bool true) ∧ Below w.heap.size w w' := by
  have eo := eq_oneF
  go_enter Try.func4, Try.ntmps4
  go_wp2_with fail
  refine calls_world (fun W => Below w.heap.size w W) (Below.refl _ _) ?_
  rintro W B
  with_reducible refine (B0.out _).mono ?_
  rintro e w1 ⟨rfl, hb⟩
  replace B := B.trans (hb.mono B.size)
  clear hb W
  go_wp2_with fail
  refine calls_world (fun W => Below w.heap.size w W ∧ Hold W w1.heap.size 1) ⟨B.alloc B.size _, Hold.new _ _ _⟩ ?_
  clear B  
  rintro W ⟨B, hN⟩
  generalize w1.heap.size = bn at *
  with_reducible refine (B1.out _).mono ?_
  rintro e w2 ⟨rfl, hb⟩
  replace B := B.trans (hb.mono B.size)
  replace hN := hN.keep hb
  clear hb W
  go_wp2_with fail
  refine calls_world (fun W => Below w.heap.size w W ∧ Hold W bn 1 ∧ Hold W w2.heap.size u) ⟨B.alloc B.size _, hN.alloc _, Hold.new _ _ _⟩ ?_
  clear B hN 
  rintro W ⟨B, hN, hP⟩
  generalize w2.heap.size = bp at *
  with_reducible refine (B2.out _).mono ?_
  rintro e w3 ⟨rfl, hb⟩
  replace B := B.trans (hb.mono B.size)
  replace hN := hN.keep hb; replace hP := hP.keep hb
  clear hb W
  have ghN := hN.allocs
  go_wp2_with fail
  refine calls_world (fun W => Below w.heap.size w W ∧ Hold W bn 1 ∧ Hold W bp u ∧ Hold W w3.heap.size v) ⟨B.alloc B.size _, hN.alloc _, hP.alloc _, Hold.new _ _ _⟩ ?_
  clear B hN hP ghN
  rintro W ⟨B, hN, hP, hV⟩
  generalize w3.heap.size = bv at *
  with_reducible refine (N1.out _).mono ?_
  rintro e w4 ⟨rfl, hb⟩
  replace B := B.trans (hb.mono B.size)
  replace hN := hN.keep hb; replace hP := hP.keep hb; replace hV := hV.keep hb
  clear hb W
  go_wp2_with fail
  refine calls_world (fun W => Below w.heap.size w W ∧ Hold W bn 1 ∧ Hold W bp u ∧ Hold W bv v) ⟨B, hN, hP, hV⟩ ?_
  clear B hN hP hV 
  rintro W ⟨B, hN, hP, hV⟩
  with_reducible refine (N2.out _).mono ?_
  rintro e w9 ⟨rfl, hb⟩
  replace B := B.trans (hb.mono B.size)
  replace hN := hN.keep hb; replace hP := hP.keep hb; replace hV := hV.keep hb
  clear hb
  rcases HX with ⟨c5, rfl⟩ | ⟨c5, c6, c7, rfl⟩
  all_goals (go_wp2; simp [bodyPost, results, Try.results4, go_sem]; exact B)

set_option maxRecDepth 100000 in
set_option maxHeartbeats 8000000 in
theorem rising_sww {p q t f u v xl xh : Int} (c : p < q) (fn : f ≠ 0) (B0 : Hid (∀ w, Calls Try.prog 12 #[.int .u64 0, .int .u64 f] w fun e w' => e = .returned (.tuple #[.agg #[.int .u64 (l0 1), .int .u64 (l1 1), .int .u64 (l2 1), .int .u64 (l3 1)], .int .i64 0]) ∧ Below w.heap.size w w')) (B1 : Hid (∀ w, Calls Try.prog 12 #[.int .u64 p, .int .u64 f] w fun e w' => e = .returned (.tuple #[.agg #[.int .u64 (l0 u), .int .u64 (l1 u), .int .u64 (l2 u), .int .u64 (l3 u)], .int .i64 183]) ∧ Below w.heap.size w w')) (B2 : Hid (∀ w, Calls Try.prog 12 #[.int .u64 q, .int .u64 f] w fun e w' => e = .returned (.tuple #[.agg #[.int .u64 (l0 v), .int .u64 (l1 v), .int .u64 (l2 v), .int .u64 (l3 v)], .int .i64 183]) ∧ Below w.heap.size w w'))
    (N1 : Hid (∀ w, Calls Try.prog 13 #[.int .u64 p, .int .u64 0, .int .u64 t] w fun e w' => e = .returned (.tuple #[.int .u64 xl, .int .i64 0]) ∧ Below w.heap.size w w')) (N2 : Hid (∀ w, Calls Try.prog 13 #[.int .u64 q, .int .u64 0, .int .u64 t] w fun e w' => e = .returned (.tuple #[.int .u64 xh, .int .i64 0]) ∧ Below w.heap.size w w')) (hxx : ¬ xh < xl) (HX : p < t ∧ xl = 0 ∨ ¬ p < t ∧ 0 ≤ p - t ∧ p - t < 18446744073709551616 ∧ xl = p - t) (w : World) :
    Calls Try.prog 4 #[.int .u64 q, .int .u64 p, .int .u64 t, .int .u64 f] w fun e w' => e = .returned (.bool true) ∧ Below w.heap.size w w' := by
  have eo := eq_oneF
  go_enter Try.func4, Try.ntmps4
  go_wp2_with fail
  refine calls_world (fun W => Below w.heap.size w W) (Below.refl _ _) ?_
  rintro W B
  with_reducible refine (B0.out _).mono ?_
  rintro e w1 ⟨rfl, hb⟩
  replace B := B.trans (hb.mono B.size)
  clear hb W
  go_wp2_with fail
  refine calls_world (fun W => Below w.heap.size w W ∧ Hold W w1.heap.size 1) ⟨B.alloc B.size _, Hold.new _ _ _⟩ ?_
  clear B  
  rintro W ⟨B, hN⟩
  generalize w1.heap.size = bn at *
  with_reducible refine (B1.out _).mono ?_
  rintro e w2 ⟨rfl, hb⟩
  replace B := B.trans (hb.mono B.size)
  replace hN := hN.keep hb
  clear hb W
  go_wp2_with fail
  refine calls_world (fun W => Below w.heap.size w W ∧ Hold W bn 1 ∧ Hold W w2.heap.size u) ⟨B.alloc B.size _, hN.alloc _, Hold.new _ _ _⟩ ?_
  clear B hN 
  rintro W ⟨B, hN, hP⟩
  generalize w2.heap.size = bp at *
  with_reducible refine (B2.out _).mono ?_
  rintro e w3 ⟨rfl, hb⟩
  replace B := B.trans (hb.mono B.size)
  replace hN := hN.keep hb; replace hP := hP.keep hb
  clear hb W
  have ghN := hN.allocs
  go_wp2_with fail
  refine calls_world (fun W => Below w.heap.size w W ∧ Hold W bn 1 ∧ Hold W bp u ∧ Hold W w3.heap.size v) ⟨B.alloc B.size _, hN.alloc _, hP.alloc _, Hold.new _ _ _⟩ ?_
  clear B hN hP ghN
  rintro W ⟨B, hN, hP, hV⟩
  generalize w3.heap.size = bv at *
  with_reducible refine (N1.out _).mono ?_
  rintro e w4 ⟨rfl, hb⟩
  replace B := B.trans (hb.mono B.size)
  replace hN := hN.keep hb; replace hP := hP.keep hb; replace hV := hV.keep hb
  clear hb W
  go_wp2_with fail
  refine calls_world (fun W => Below w.heap.size w W ∧ Hold W bn 1 ∧ Hold W bp u ∧ Hold W bv v) ⟨B, hN, hP, hV⟩ ?_
  clear B hN hP hV 
  rintro W ⟨B, hN, hP, hV⟩
  with_reducible refine (N2.out _).mono ?_
  rintro e w9 ⟨rfl, hb⟩
  replace B := B.trans (hb.mono B.size)
  replace hN := hN.keep hb; replace hP := hP.keep hb; replace hV := hV.keep hb
  clear hb
  rcases HX with ⟨c5, rfl⟩ | ⟨c5, c6, c7, rfl⟩
  all_goals (go_wp2; simp [bodyPost, results, Try.results4, go_sem]; exact B)

theorem nx_low {p t : Int} (hp : Word p) (ht : Word t) : nxE p 0 t = 0 ∧ (p < t ∧ nxV p 0 t = 0 ∨ ¬ p < t ∧ 0 ≤ p - t ∧ p - t < 18446744073709551616 ∧ nxV p 0 t = p - t) := by
  obtain ⟨_, _⟩ := hp; obtain ⟨_, _⟩ := ht
  have e : p + 0 = p := by omega
  by_cases c : p < t
  · refine ⟨?_, .inl ⟨c, ?_⟩⟩
    · unfold nxE; rw [e, if_pos c]
    · unfold nxV; rw [e, if_pos c]
  · have h2 : p - t < 18446744073709551616 := by omega
    refine ⟨?_, .inr ⟨c, by omega, h2, ?_⟩⟩
    · unfold nxE; rw [e, if_neg c, if_pos h2]
    · unfold nxV; rw [e, if_neg c, if_pos h2]
theorem nx_rise {p q t : Int} (hp : Word p) (hq : Word q) (ht : Word t) (h : p ≤ q) : ¬ nxV q 0 t < nxV p 0 t := by
  obtain ⟨_, h1⟩ := nx_low hp ht
  obtain ⟨_, h2⟩ := nx_low hq ht
  rcases h1 with ⟨a, b⟩ | ⟨a, b, c, e⟩
  · rcases h2 with ⟨a2, b2⟩ | ⟨a2, b2, c2, e2⟩ <;> omega
  · rcases h2 with ⟨a2, b2⟩ | ⟨a2, b2, c2, e2⟩ <;> omega

theorem rising_any {a b t f : Int} (ha : Word a) (hb : Word b) (ht : Word t) (hf : Word f) (w : World) :
    Calls Try.prog 4 #[.int .u64 a, .int .u64 b, .int .u64 t, .int .u64 f] w fun e w' => e = .returned (.bool true) ∧ Below w.heap.size w w' := by
  have key : ∀ p q : Int, Word p → Word q → p ≤ q → ∀ w, (¬ q < p → Calls Try.prog 4 #[.int .u64 p, .int .u64 q, .int .u64 t, .int .u64 f] w fun e w' => e = .returned (.bool true) ∧ Below w.heap.size w w') ∧
      (p < q → Calls Try.prog 4 #[.int .u64 q, .int .u64 p, .int .u64 t, .int .u64 f] w fun e w' => e = .returned (.bool true) ∧ Below w.heap.size w w') := by
    intro p q hp hq hpq w
    by_cases h : f = 0
    · have Z : ∀ x w, Calls Try.prog 12 #[.int .u64 x, .int .u64 f] w fun e w' => e = .returned (.tuple #[.agg #[.int .u64 (l0 0), .int .u64 (l1 0), .int .u64 (l2 0), .int .u64 (l3 0)], .int .i64 1]) ∧ Below w.heap.size w w' := fun x w => by rw [h]; exact blob_zero w
      exact ⟨fun c => rising_n0 c h (Z 0) (Z p) (Z q) w, fun c => rising_s0 c h (Z 0) (Z p) (Z q) w⟩
    · have f0 : 0 < f := by have := hf.1; omega
      have w0 : Word 0 := ⟨by decide, by decide⟩
      obtain ⟨K0, s0⟩ := stop_ex f0 w0.1
      obtain ⟨K1, s1⟩ := stop_ex f0 hp.1
      obtain ⟨K2, s2⟩ := stop_ex f0 hq.1
      have B0 := fun w => blob_walk hf f0 w0 s0 w
      obtain ⟨z1, z2⟩ := bl_none hf f0 s0
      rw [show blV f 0 K0 = 1 by unfold blV; rw [if_pos z1, z2], show blE f 0 K0 = 0 from if_pos z1] at B0
      have B1 := fun w => blob_walk hf f0 hp s1 w
      have B2 := fun w => blob_walk hf f0 hq s2 w
      have N1 := fun w => nx_any hp w0 ht w
      have N2 := fun w => nx_any hq w0 ht w
      obtain ⟨y1, HX⟩ := nx_low hp ht
      obtain ⟨y2, _⟩ := nx_low hq ht
      rw [y1] at N1
      rw [y2] at N2
      have hxx := nx_rise hp hq ht hpq
      by_cases c2 : apN f q K2 = 0
      · obtain ⟨c1, le⟩ := bl_mono f0 hp.1 hpq s1 s2 c2
        rw [show blV f p K1 = smN f p K1 / f from if_pos c1, show blE f p K1 = 0 from if_pos c1] at B1
        rw [show blV f q K2 = smN f q K2 / f from if_pos c2, show blE f q K2 = 0 from if_pos c2] at B2
        have nq : ∀ {x : Int} {K : Nat}, Word x → Stop f x K → Num (smN f x K / f) := fun {x K} hx s => by
          obtain ⟨m0, m1⟩ := s.sm_Num f0 hx.1 K (Nat.le_refl _)
          refine ⟨Int.ediv_nonneg m0 (by omega), Int.lt_of_le_of_lt (Int.ediv_le_self _ m0) m1⟩
        have hc : ¬ 0 < cmpN (smN f p K1 / f) (smN f q K2 / f) := by have := cmp_low le; omega
        exact ⟨fun c => rising_nhh c h B0 B1 B2 (fun w => cmp_any (nq hp s1) (nq hq s2) w) hc N1 N2 hxx HX w, fun c => rising_shh c h B0 B1 B2 (fun w => cmp_any (nq hp s1) (nq hq s2) w) hc N1 N2 hxx HX w⟩
      · rw [show blE f q K2 = 183 from if_neg c2] at B2
        by_cases c1 : apN f p K1 = 0
        · rw [show blE f p K1 = 0 from if_pos c1] at B1
          exact ⟨fun c => rising_nhw c h B0 B1 B2 N1 N2 hxx HX w, fun c => rising_shw c h B0 B1 B2 N1 N2 hxx HX w⟩
        · rw [show blE f p K1 = 183 from if_neg c1] at B1
          exact ⟨fun c => rising_nww c h B0 B1 B2 N1 N2 hxx HX w, fun c => rising_sww c h B0 B1 B2 N1 N2 hxx HX w⟩
  by_cases hab : a ≤ b
  · exact (key a b ha hb hab w).1 (by omega)
  · exact (key b a hb ha (by omega) w).2 (by omega)
end Go.Proofs.Ytmegdnalpaddmaa

import Derived.Test.YtmegdnalpaddmaaFeB
namespace Go.Proofs.Ytmegdnalpaddmaa
open Go.RowKit Go.Sort

set_option maxRecDepth 100000 in
set_option maxHeartbeats 4000000 in
theorem steady_low {b l u x : Int} (c : l < 2) (NB : Hid (∀ w, Calls Try.prog 7 #[.agg #[.int .u64 (l0 b), .int .u64 (l1 b), .int .u64 (l2 b), .int .u64 (l3 b)], .int .u64 l, .int .u64 u] w fun e w' => e = .returned (.tuple #[.agg #[.int .u64 (l0 x), .int .u64 (l1 x), .int .u64 (l2 x), .int .u64 (l3 x)], .int .i64 1]) ∧ Below w.heap.size w w')) (w : World) :
    Calls Try.prog 3 #[.agg #[.int .u64 (l0 b), .int .u64 (l1 b), .int .u64 (l2 b), .int .u64 (l3 b)], .int .u64 l, .int .u64 u] w fun e w' => e = .returned (.bool true) ∧ Below w.heap.size w w' := by
  go_enter Try.func3, Try.ntmps3
  go_wp2_with fail
  refine calls_world (fun W => Below w.heap.size w W ∧ Hold W w.heap.size b) ⟨by repeat (first | with_reducible exact Below.refl _ _ | with_reducible refine Below.alloc ?_ (by first | omega | (simp; done) | (simp; omega)) _), Hold.fresh rfl⟩ ?_
  rintro W ⟨B, hX⟩
  with_reducible refine (NB.out _).mono ?_
  rintro e w9 ⟨rfl, hb⟩
  replace B := B.trans (hb.mono B.size)
  replace hX := hX.keep hb
  clear hb W
  have BB : Hid (Below w.heap.size w w9) := B
  have BA : Hid (∀ o, Below w.heap.size w (w9.alloc o)) := fun o => B.alloc B.size o
  clear B hX
  go_wp2
  simp [bodyPost, results, Try.results3, go_sem]
  first | exact BB.out | exact BA.out _

set_option maxRecDepth 100000 in
set_option maxHeartbeats 4000000 in
theorem steady_over {b l u x : Int} (c : ¬ l < 2) (c2 : l < u) (NB : Hid (∀ w, Calls Try.prog 7 #[.agg #[.int .u64 (l0 b), .int .u64 (l1 b), .int .u64 (l2 b), .int .u64 (l3 b)], .int .u64 l, .int .u64 u] w fun e w' => e = .returned (.tuple #[.agg #[.int .u64 (l0 x), .int .u64 (l1 x), .int .u64 (l2 x), .int .u64 (l3 x)], .int .i64 184]) ∧ Below w.heap.size w w')) (w : World) :
    Calls Try.prog 3 #[.agg #[.int .u64 (l0 b), .int .u64 (l1 b), .int .u64 (l2 b), .int .u64 (l3 b)], .int .u64 l, .int .u64 u] w fun e w' => e = .returned (.bool true) ∧ Below w.heap.size w w' := by
  go_enter Try.func3, Try.ntmps3
  go_wp2_with fail
  refine calls_world (fun W => Below w.heap.size w W ∧ Hold W w.heap.size b) ⟨by repeat (first | with_reducible exact Below.refl _ _ | with_reducible refine Below.alloc ?_ (by first | omega | (simp; done) | (simp; omega)) _), Hold.fresh rfl⟩ ?_
  rintro W ⟨B, hX⟩
  with_reducible refine (NB.out _).mono ?_
  rintro e w9 ⟨rfl, hb⟩
  replace B := B.trans (hb.mono B.size)
  replace hX := hX.keep hb
  clear hb W
  have BB : Hid (Below w.heap.size w w9) := B
  have BA : Hid (∀ o, Below w.heap.size w (w9.alloc o)) := fun o => B.alloc B.size o
  clear B hX
  go_wp2
  simp [bodyPost, results, Try.results3, go_sem]
  first | exact BB.out | exact BA.out _

set_option maxRecDepth 100000 in
set_option maxHeartbeats 4000000 in
theorem steady_same {b l u g s k : Int} (hl : 0 ≤ l) (hl2 : l < 18446744073709551616) (c : ¬ l < 2) (c2 : ¬ l < u) (c3 : u = l / 2) (NB : Hid (∀ w, Calls Try.prog 7 #[.agg #[.int .u64 (l0 b), .int .u64 (l1 b), .int .u64 (l2 b), .int .u64 (l3 b)], .int .u64 l, .int .u64 u] w fun e w' => e = .returned (.tuple #[.agg #[.int .u64 (l0 b), .int .u64 (l1 b), .int .u64 (l2 b), .int .u64 (l3 b)], .int .i64 0]) ∧ Below w.heap.size w w')) (SH : Hid (∀ w, Calls Try.prog 8 #[.agg #[.int .u64 (l0 b), .int .u64 (l1 b), .int .u64 (l2 b), .int .u64 (l3 b)], .int .i64 3] w fun e w' => e = .returned (.agg #[.int .u64 (l0 g), .int .u64 (l1 g), .int .u64 (l2 g), .int .u64 (l3 g)]) ∧ Below w.heap.size w w')) (AD : Hid (∀ w, Calls Try.prog 9 #[.agg #[.int .u64 (l0 g), .int .u64 (l1 g), .int .u64 (l2 g), .int .u64 (l3 g)], .agg #[.int .u64 1, .int .u64 0, .int .u64 0, .int .u64 0]] w fun e w' => e = .returned (.tuple #[.agg #[.int .u64 (l0 s), .int .u64 (l1 s), .int .u64 (l2 s), .int .u64 (l3 s)], .int .u64 k]) ∧ Below w.heap.size w w')) (w : World) :
    Calls Try.prog 3 #[.agg #[.int .u64 (l0 b), .int .u64 (l1 b), .int .u64 (l2 b), .int .u64 (l3 b)], .int .u64 l, .int .u64 u] w fun e w' => e = .returned (.bool true) ∧ Below w.heap.size w w' := by
  subst c3
  go_enter Try.func3, Try.ntmps3
  go_wp2_with fail
  refine calls_world (fun W => Below w.heap.size w W ∧ Hold W w.heap.size b) ⟨by repeat (first | with_reducible exact Below.refl _ _ | with_reducible refine Below.alloc ?_ (by first | omega | (simp; done) | (simp; omega)) _), Hold.fresh rfl⟩ ?_
  rintro W ⟨B, hX⟩
  have ey : ∀ n w, (Op.equalIn 10000 24 (.agg #[.int .u64 (l0 n), .int .u64 (l1 n), .int .u64 (l2 n), .int .u64 (l3 n)]) (.agg #[.int .u64 (l0 n), .int .u64 (l1 n), .int .u64 (l2 n), .int .u64 (l3 n)])).run Try.prog w = .ok true w := fun n w => eq_yes w
  with_reducible refine (NB.out _).mono ?_
  rintro e w1 ⟨rfl, hb⟩
  replace B := B.trans (hb.mono B.size)
  replace hX := hX.keep hb
  clear hb W
  have ghX := hX.allocs
  go_wp2_with fail
  refine calls_world (fun W => Below w.heap.size w W ∧ Hold W w.heap.size b ∧ Hold W w1.heap.size b) ⟨B.alloc B.size _, hX.alloc _, Hold.new _ _ _⟩ ?_
  clear B hX ghX
  rintro W ⟨B, hX, hN⟩
  generalize w1.heap.size = bn at *
  with_reducible refine (SH.out _).mono ?_
  rintro e w2 ⟨rfl, hb⟩
  replace B := B.trans (hb.mono B.size)
  replace hX := hX.keep hb; replace hN := hN.keep hb
  clear hb W
  go_wp2_with fail
  refine calls_world (fun W => Below w.heap.size w W ∧ Hold W w.heap.size b ∧ Hold W bn b ∧ Hold W w2.heap.size g) ⟨B.alloc B.size _, hX.alloc _, hN.alloc _, Hold.new _ _ _⟩ ?_
  clear B hX hN 
  rintro W ⟨B, hX, hN, hG⟩
  generalize w2.heap.size = bg at *
  with_reducible refine (AD.out _).mono ?_
  rintro e w9 ⟨rfl, hb⟩
  replace B := B.trans (hb.mono B.size)
  replace hX := hX.keep hb; replace hN := hN.keep hb; replace hG := hG.keep hb
  clear hb W
  have ghX := hX.allocs
  have ghN := hN.allocs
  have BB : Hid (Below w.heap.size w w9) := B
  have BA : Hid (∀ o, Below w.heap.size w (w9.alloc o)) := fun o => B.alloc B.size o
  clear B hX hN hG
  go_wp2
  simp [bodyPost, results, Try.results3, go_sem]
  first | exact BB.out | exact BA.out _

set_option maxRecDepth 100000 in
set_option maxHeartbeats 4000000 in
theorem steady_fall {b l u x g s k m q : Int} (hl : 0 ≤ l) (hl2 : l < 18446744073709551616) (c : ¬ l < 2) (c2 : ¬ l < u) (c4 : u < l / 2) (NB : Hid (∀ w, Calls Try.prog 7 #[.agg #[.int .u64 (l0 b), .int .u64 (l1 b), .int .u64 (l2 b), .int .u64 (l3 b)], .int .u64 l, .int .u64 u] w fun e w' => e = .returned (.tuple #[.agg #[.int .u64 (l0 x), .int .u64 (l1 x), .int .u64 (l2 x), .int .u64 (l3 x)], .int .i64 0]) ∧ Below w.heap.size w w')) (SH : Hid (∀ w, Calls Try.prog 8 #[.agg #[.int .u64 (l0 b), .int .u64 (l1 b), .int .u64 (l2 b), .int .u64 (l3 b)], .int .i64 3] w fun e w' => e = .returned (.agg #[.int .u64 (l0 g), .int .u64 (l1 g), .int .u64 (l2 g), .int .u64 (l3 g)]) ∧ Below w.heap.size w w')) (AD : Hid (∀ w, Calls Try.prog 9 #[.agg #[.int .u64 (l0 g), .int .u64 (l1 g), .int .u64 (l2 g), .int .u64 (l3 g)], .agg #[.int .u64 1, .int .u64 0, .int .u64 0, .int .u64 0]] w fun e w' => e = .returned (.tuple #[.agg #[.int .u64 (l0 s), .int .u64 (l1 s), .int .u64 (l2 s), .int .u64 (l3 s)], .int .u64 k]) ∧ Below w.heap.size w w')) (SU : Hid (∀ w, Calls Try.prog 10 #[.agg #[.int .u64 (l0 b), .int .u64 (l1 b), .int .u64 (l2 b), .int .u64 (l3 b)], .agg #[.int .u64 (l0 x), .int .u64 (l1 x), .int .u64 (l2 x), .int .u64 (l3 x)]] w fun e w' => e = .returned (.tuple #[.agg #[.int .u64 (l0 m), .int .u64 (l1 m), .int .u64 (l2 m), .int .u64 (l3 m)], .int .u64 0]) ∧ Below w.heap.size w w')) (CM : Hid (∀ w, Calls Try.prog 11 #[.agg #[.int .u64 (l0 m), .int .u64 (l1 m), .int .u64 (l2 m), .int .u64 (l3 m)], .agg #[.int .u64 (l0 g), .int .u64 (l1 g), .int .u64 (l2 g), .int .u64 (l3 g)]] w fun e w' => e = .returned (.int .i64 q) ∧ Below w.heap.size w w')) (hq : q ≤ 0) (w : World) :
    Calls Try.prog 3 #[.agg #[.int .u64 (l0 b), .int .u64 (l1 b), .int .u64 (l2 b), .int .u64 (l3 b)], .int .u64 l, .int .u64 u] w fun e w' => e = .returned (.bool true) ∧ Below w.heap.size w w' := by
  go_enter Try.func3, Try.ntmps3
  go_wp2_with fail
  refine calls_world (fun W => Below w.heap.size w W ∧ Hold W w.heap.size b) ⟨by repeat (first | with_reducible exact Below.refl _ _ | with_reducible refine Below.alloc ?_ (by first | omega | (simp; done) | (simp; omega)) _), Hold.fresh rfl⟩ ?_
  rintro W ⟨B, hX⟩
  with_reducible refine (NB.out _).mono ?_
  rintro e w1 ⟨rfl, hb⟩
  replace B := B.trans (hb.mono B.size)
  replace hX := hX.keep hb
  clear hb W
  have ghX := hX.allocs
  go_wp2_with fail
  refine calls_world (fun W => Below w.heap.size w W ∧ Hold W w.heap.size b ∧ Hold W w1.heap.size x) ⟨B.alloc B.size _, hX.alloc _, Hold.new _ _ _⟩ ?_
  clear B hX ghX
  rintro W ⟨B, hX, hN⟩
  generalize w1.heap.size = bn at *
  with_reducible refine (SH.out _).mono ?_
  rintro e w2 ⟨rfl, hb⟩
  replace B := B.trans (hb.mono B.size)
  replace hX := hX.keep hb; replace hN := hN.keep hb
  clear hb W
  go_wp2_with fail
  refine calls_world (fun W => Below w.heap.size w W ∧ Hold W w.heap.size b ∧ Hold W bn x ∧ Hold W w2.heap.size g) ⟨B.alloc B.size _, hX.alloc _, hN.alloc _, Hold.new _ _ _⟩ ?_
  clear B hX hN 
  rintro W ⟨B, hX, hN, hG⟩
  generalize w2.heap.size = bg at *
  with_reducible refine (AD.out _).mono ?_
  rintro e w3 ⟨rfl, hb⟩
  replace B := B.trans (hb.mono B.size)
  replace hX := hX.keep hb; replace hN := hN.keep hb; replace hG := hG.keep hb
  clear hb W
  have ghX := hX.allocs
  have ghN := hN.allocs
  go_wp2_with fail
  refine calls_world (fun W => Below w.heap.size w W ∧ Hold W w.heap.size b ∧ Hold W bn x ∧ Hold W bg g ∧ Hold W w3.heap.size s) ⟨B.alloc B.size _, hX.alloc _, hN.alloc _, hG.alloc _, Hold.new _ _ _⟩ ?_
  clear B hX hN hG ghX ghN
  rintro W ⟨B, hX, hN, hG, hS⟩
  generalize w3.heap.size = bs at *
  with_reducible refine (SU.out _).mono ?_
  rintro e w4 ⟨rfl, hb⟩
  replace B := B.trans (hb.mono B.size)
  replace hX := hX.keep hb; replace hN := hN.keep hb; replace hG := hG.keep hb; replace hS := hS.keep hb
  clear hb W
  have ghG := hG.allocs
  go_wp2_with fail
  refine calls_world (fun W => Below w.heap.size w W ∧ Hold W w.heap.size b ∧ Hold W bn x ∧ Hold W bg g ∧ Hold W bs s ∧ Hold W w4.heap.size m) ⟨B.alloc B.size _, hX.alloc _, hN.alloc _, hG.alloc _, hS.alloc _, Hold.new _ _ _⟩ ?_
  clear B hX hN hG hS ghG
  rintro W ⟨B, hX, hN, hG, hS, hD⟩
  generalize w4.heap.size = bd at *
  with_reducible refine (CM.out _).mono ?_
  rintro e w9 ⟨rfl, hb⟩
  replace B := B.trans (hb.mono B.size)
  replace hX := hX.keep hb; replace hN := hN.keep hb; replace hG := hG.keep hb; replace hS := hS.keep hb; replace hD := hD.keep hb
  clear hb W
  have BB : Hid (Below w.heap.size w w9) := B
  have BA : Hid (∀ o, Below w.heap.size w (w9.alloc o)) := fun o => B.alloc B.size o
  clear B hX hN hG hS hD
  go_wp2
  simp [bodyPost, results, Try.results3, go_sem]
  first | exact BB.out | exact BA.out _

set_option maxRecDepth 100000 in
set_option maxHeartbeats 4000000 in
theorem steady_wide {b l u x g s k : Int} (hl : 0 ≤ l) (hl2 : l < 18446744073709551616) (c : ¬ l < 2) (c2 : ¬ l < u) (c3 : ¬ u = l / 2) (c4 : ¬ u < l / 2) (NB : Hid (∀ w, Calls Try.prog 7 #[.agg #[.int .u64 (l0 b), .int .u64 (l1 b), .int .u64 (l2 b), .int .u64 (l3 b)], .int .u64 l, .int .u64 u] w fun e w' => e = .returned (.tuple #[.agg #[.int .u64 (l0 x), .int .u64 (l1 x), .int .u64 (l2 x), .int .u64 (l3 x)], .int .i64 183]) ∧ Below w.heap.size w w')) (SH : Hid (∀ w, Calls Try.prog 8 #[.agg #[.int .u64 (l0 b), .int .u64 (l1 b), .int .u64 (l2 b), .int .u64 (l3 b)], .int .i64 3] w fun e w' => e = .returned (.agg #[.int .u64 (l0 g), .int .u64 (l1 g), .int .u64 (l2 g), .int .u64 (l3 g)]) ∧ Below w.heap.size w w')) (AD : Hid (∀ w, Calls Try.prog 9 #[.agg #[.int .u64 (l0 g), .int .u64 (l1 g), .int .u64 (l2 g), .int .u64 (l3 g)], .agg #[.int .u64 1, .int .u64 0, .int .u64 0, .int .u64 0]] w fun e w' => e = .returned (.tuple #[.agg #[.int .u64 (l0 s), .int .u64 (l1 s), .int .u64 (l2 s), .int .u64 (l3 s)], .int .u64 k]) ∧ Below w.heap.size w w')) (w : World) :
    Calls Try.prog 3 #[.agg #[.int .u64 (l0 b), .int .u64 (l1 b), .int .u64 (l2 b), .int .u64 (l3 b)], .int .u64 l, .int .u64 u] w fun e w' => e = .returned (.bool true) ∧ Below w.heap.size w w' := by
  go_enter Try.func3, Try.ntmps3
  go_wp2_with fail
  refine calls_world (fun W => Below w.heap.size w W ∧ Hold W w.heap.size b) ⟨by repeat (first | with_reducible exact Below.refl _ _ | with_reducible refine Below.alloc ?_ (by first | omega | (simp; done) | (simp; omega)) _), Hold.fresh rfl⟩ ?_
  rintro W ⟨B, hX⟩
  with_reducible refine (NB.out _).mono ?_
  rintro e w1 ⟨rfl, hb⟩
  replace B := B.trans (hb.mono B.size)
  replace hX := hX.keep hb
  clear hb W
  have ghX := hX.allocs
  go_wp2_with fail
  refine calls_world (fun W => Below w.heap.size w W ∧ Hold W w.heap.size b ∧ Hold W w1.heap.size x) ⟨B.alloc B.size _, hX.alloc _, Hold.new _ _ _⟩ ?_
  clear B hX ghX
  rintro W ⟨B, hX, hN⟩
  generalize w1.heap.size = bn at *
  with_reducible refine (SH.out _).mono ?_
  rintro e w2 ⟨rfl, hb⟩
  replace B := B.trans (hb.mono B.size)
  replace hX := hX.keep hb; replace hN := hN.keep hb
  clear hb W
  go_wp2_with fail
  refine calls_world (fun W => Below w.heap.size w W ∧ Hold W w.heap.size b ∧ Hold W bn x ∧ Hold W w2.heap.size g) ⟨B.alloc B.size _, hX.alloc _, hN.alloc _, Hold.new _ _ _⟩ ?_
  clear B hX hN 
  rintro W ⟨B, hX, hN, hG⟩
  generalize w2.heap.size = bg at *
  with_reducible refine (AD.out _).mono ?_
  rintro e w9 ⟨rfl, hb⟩
  replace B := B.trans (hb.mono B.size)
  replace hX := hX.keep hb; replace hN := hN.keep hb; replace hG := hG.keep hb
  clear hb W
  have BB : Hid (Below w.heap.size w w9) := B
  have BA : Hid (∀ o, Below w.heap.size w (w9.alloc o)) := fun o => B.alloc B.size o
  clear B hX hN hG
  go_wp2
  simp [bodyPost, results, Try.results3, go_sem]
  first | exact BB.out | exact BA.out _

set_option maxRecDepth 100000 in
set_option maxHeartbeats 4000000 in
theorem steady_odd {b l u x g s k m : Int} (hl : 0 ≤ l) (hl2 : l < 18446744073709551616) (c : ¬ l < 2) (c2 : ¬ l < u) (c3 : ¬ u = l / 2) (c4 : ¬ u < l / 2) (c5 : l % 2 = 1) (NB : Hid (∀ w, Calls Try.prog 7 #[.agg #[.int .u64 (l0 b), .int .u64 (l1 b), .int .u64 (l2 b), .int .u64 (l3 b)], .int .u64 l, .int .u64 u] w fun e w' => e = .returned (.tuple #[.agg #[.int .u64 (l0 x), .int .u64 (l1 x), .int .u64 (l2 x), .int .u64 (l3 x)], .int .i64 0]) ∧ Below w.heap.size w w')) (SH : Hid (∀ w, Calls Try.prog 8 #[.agg #[.int .u64 (l0 b), .int .u64 (l1 b), .int .u64 (l2 b), .int .u64 (l3 b)], .int .i64 3] w fun e w' => e = .returned (.agg #[.int .u64 (l0 g), .int .u64 (l1 g), .int .u64 (l2 g), .int .u64 (l3 g)]) ∧ Below w.heap.size w w')) (AD : Hid (∀ w, Calls Try.prog 9 #[.agg #[.int .u64 (l0 g), .int .u64 (l1 g), .int .u64 (l2 g), .int .u64 (l3 g)], .agg #[.int .u64 1, .int .u64 0, .int .u64 0, .int .u64 0]] w fun e w' => e = .returned (.tuple #[.agg #[.int .u64 (l0 s), .int .u64 (l1 s), .int .u64 (l2 s), .int .u64 (l3 s)], .int .u64 k]) ∧ Below w.heap.size w w')) (SU : Hid (∀ w, Calls Try.prog 10 #[.agg #[.int .u64 (l0 x), .int .u64 (l1 x), .int .u64 (l2 x), .int .u64 (l3 x)], .agg #[.int .u64 (l0 b), .int .u64 (l1 b), .int .u64 (l2 b), .int .u64 (l3 b)]] w fun e w' => e = .returned (.tuple #[.agg #[.int .u64 (l0 m), .int .u64 (l1 m), .int .u64 (l2 m), .int .u64 (l3 m)], .int .u64 0]) ∧ Below w.heap.size w w')) (he : ∀ w, (Op.equalIn 10000 24 (.agg #[.int .u64 (l0 m), .int .u64 (l1 m), .int .u64 (l2 m), .int .u64 (l3 m)]) (.agg #[.int .u64 0, .int .u64 0, .int .u64 0, .int .u64 0])).run Try.prog w = .ok false w) (w : World) :
    Calls Try.prog 3 #[.agg #[.int .u64 (l0 b), .int .u64 (l1 b), .int .u64 (l2 b), .int .u64 (l3 b)], .int .u64 l, .int .u64 u] w fun e w' => e = .returned (.bool true) ∧ Below w.heap.size w w' := by
  go_enter Try.func3, Try.ntmps3
  go_wp2_with fail
  refine calls_world (fun W => Below w.heap.size w W ∧ Hold W w.heap.size b) ⟨by repeat (first | with_reducible exact Below.refl _ _ | with_reducible refine Below.alloc ?_ (by first | omega | (simp; done) | (simp; omega)) _), Hold.fresh rfl⟩ ?_
  rintro W ⟨B, hX⟩
  have hz := build_zero
  with_reducible refine (NB.out _).mono ?_
  rintro e w1 ⟨rfl, hb⟩
  replace B := B.trans (hb.mono B.size)
  replace hX := hX.keep hb
  clear hb W
  have ghX := hX.allocs
  go_wp2_with fail
  refine calls_world (fun W => Below w.heap.size w W ∧ Hold W w.heap.size b ∧ Hold W w1.heap.size x) ⟨B.alloc B.size _, hX.alloc _, Hold.new _ _ _⟩ ?_
  clear B hX ghX
  rintro W ⟨B, hX, hN⟩
  generalize w1.heap.size = bn at *
  with_reducible refine (SH.out _).mono ?_
  rintro e w2 ⟨rfl, hb⟩
  replace B := B.trans (hb.mono B.size)
  replace hX := hX.keep hb; replace hN := hN.keep hb
  clear hb W
  go_wp2_with fail
  refine calls_world (fun W => Below w.heap.size w W ∧ Hold W w.heap.size b ∧ Hold W bn x ∧ Hold W w2.heap.size g) ⟨B.alloc B.size _, hX.alloc _, hN.alloc _, Hold.new _ _ _⟩ ?_
  clear B hX hN 
  rintro W ⟨B, hX, hN, hG⟩
  generalize w2.heap.size = bg at *
  with_reducible refine (AD.out _).mono ?_
  rintro e w3 ⟨rfl, hb⟩
  replace B := B.trans (hb.mono B.size)
  replace hX := hX.keep hb; replace hN := hN.keep hb; replace hG := hG.keep hb
  clear hb W
  have ghX := hX.allocs
  have ghN := hN.allocs
  go_wp2_with fail
  refine calls_world (fun W => Below w.heap.size w W ∧ Hold W w.heap.size b ∧ Hold W bn x ∧ Hold W bg g ∧ Hold W w3.heap.size s) ⟨B.alloc B.size _, hX.alloc _, hN.alloc _, hG.alloc _, Hold.new _ _ _⟩ ?_
  clear B hX hN hG ghX ghN
  rintro W ⟨B, hX, hN, hG, hS⟩
  generalize w3.heap.size = bs at *
  with_reducible refine (SU.out _).mono ?_
  rintro e w9 ⟨rfl, hb⟩
  replace B := B.trans (hb.mono B.size)
  replace hX := hX.keep hb; replace hN := hN.keep hb; replace hG := hG.keep hb; replace hS := hS.keep hb
  clear hb W
  have BB : Hid (Below w.heap.size w w9) := B
  have BA : Hid (∀ o, Below w.heap.size w (w9.alloc o)) := fun o => B.alloc B.size o
  clear B hX hN hG hS
  go_wp2
  simp [bodyPost, results, Try.results3, go_sem]
  first | exact BB.out | exact BA.out _

set_option maxRecDepth 100000 in
set_option maxHeartbeats 4000000 in
theorem steady_even {b l u x g s k m q : Int} (hl : 0 ≤ l) (hl2 : l < 18446744073709551616) (c : ¬ l < 2) (c2 : ¬ l < u) (c3 : ¬ u = l / 2) (c4 : ¬ u < l / 2) (c5 : ¬ l % 2 = 1) (NB : Hid (∀ w, Calls Try.prog 7 #[.agg #[.int .u64 (l0 b), .int .u64 (l1 b), .int .u64 (l2 b), .int .u64 (l3 b)], .int .u64 l, .int .u64 u] w fun e w' => e = .returned (.tuple #[.agg #[.int .u64 (l0 x), .int .u64 (l1 x), .int .u64 (l2 x), .int .u64 (l3 x)], .int .i64 0]) ∧ Below w.heap.size w w')) (SH : Hid (∀ w, Calls Try.prog 8 #[.agg #[.int .u64 (l0 b), .int .u64 (l1 b), .int .u64 (l2 b), .int .u64 (l3 b)], .int .i64 3] w fun e w' => e = .returned (.agg #[.int .u64 (l0 g), .int .u64 (l1 g), .int .u64 (l2 g), .int .u64 (l3 g)]) ∧ Below w.heap.size w w')) (AD : Hid (∀ w, Calls Try.prog 9 #[.agg #[.int .u64 (l0 g), .int .u64 (l1 g), .int .u64 (l2 g), .int .u64 (l3 g)], .agg #[.int .u64 1, .int .u64 0, .int .u64 0, .int .u64 0]] w fun e w' => e = .returned (.tuple #[.agg #[.int .u64 (l0 s), .int .u64 (l1 s), .int .u64 (l2 s), .int .u64 (l3 s)], .int .u64 k]) ∧ Below w.heap.size w w')) (SU : Hid (∀ w, Calls Try.prog 10 #[.agg #[.int .u64 (l0 x), .int .u64 (l1 x), .int .u64 (l2 x), .int .u64 (l3 x)], .agg #[.int .u64 (l0 b), .int .u64 (l1 b), .int .u64 (l2 b), .int .u64 (l3 b)]] w fun e w' => e = .returned (.tuple #[.agg #[.int .u64 (l0 m), .int .u64 (l1 m), .int .u64 (l2 m), .int .u64 (l3 m)], .int .u64 0]) ∧ Below w.heap.size w w')) (he : ∀ w, (Op.equalIn 10000 24 (.agg #[.int .u64 (l0 m), .int .u64 (l1 m), .int .u64 (l2 m), .int .u64 (l3 m)]) (.agg #[.int .u64 0, .int .u64 0, .int .u64 0, .int .u64 0])).run Try.prog w = .ok false w) (CM : Hid (∀ w, Calls Try.prog 11 #[.agg #[.int .u64 (l0 m), .int .u64 (l1 m), .int .u64 (l2 m), .int .u64 (l3 m)], .agg #[.int .u64 (l0 s), .int .u64 (l1 s), .int .u64 (l2 s), .int .u64 (l3 s)]] w fun e w' => e = .returned (.int .i64 q) ∧ Below w.heap.size w w')) (hq : q ≤ 0) (w : World) :
    Calls Try.prog 3 #[.agg #[.int .u64 (l0 b), .int .u64 (l1 b), .int .u64 (l2 b), .int .u64 (l3 b)], .int .u64 l, .int .u64 u] w fun e w' => e = .returned (.bool true) ∧ Below w.heap.size w w' := by
  go_enter Try.func3, Try.ntmps3
  go_wp2_with fail
  refine calls_world (fun W => Below w.heap.size w W ∧ Hold W w.heap.size b) ⟨by repeat (first | with_reducible exact Below.refl _ _ | with_reducible refine Below.alloc ?_ (by first | omega | (simp; done) | (simp; omega)) _), Hold.fresh rfl⟩ ?_
  rintro W ⟨B, hX⟩
  have hz := build_zero
  with_reducible refine (NB.out _).mono ?_
  rintro e w1 ⟨rfl, hb⟩
  replace B := B.trans (hb.mono B.size)
  replace hX := hX.keep hb
  clear hb W
  have ghX := hX.allocs
  go_wp2_with fail
  refine calls_world (fun W => Below w.heap.size w W ∧ Hold W w.heap.size b ∧ Hold W w1.heap.size x) ⟨B.alloc B.size _, hX.alloc _, Hold.new _ _ _⟩ ?_
  clear B hX ghX
  rintro W ⟨B, hX, hN⟩
  generalize w1.heap.size = bn at *
  with_reducible refine (SH.out _).mono ?_
  rintro e w2 ⟨rfl, hb⟩
  replace B := B.trans (hb.mono B.size)
  replace hX := hX.keep hb; replace hN := hN.keep hb
  clear hb W
  go_wp2_with fail
  refine calls_world (fun W => Below w.heap.size w W ∧ Hold W w.heap.size b ∧ Hold W bn x ∧ Hold W w2.heap.size g) ⟨B.alloc B.size _, hX.alloc _, hN.alloc _, Hold.new _ _ _⟩ ?_
  clear B hX hN 
  rintro W ⟨B, hX, hN, hG⟩
  generalize w2.heap.size = bg at *
  with_reducible refine (AD.out _).mono ?_
  rintro e w3 ⟨rfl, hb⟩
  replace B := B.trans (hb.mono B.size)
  replace hX := hX.keep hb; replace hN := hN.keep hb; replace hG := hG.keep hb
  clear hb W
  have ghX := hX.allocs
  have ghN := hN.allocs
  go_wp2_with fail
  refine calls_world (fun W => Below w.heap.size w W ∧ Hold W w.heap.size b ∧ Hold W bn x ∧ Hold W bg g ∧ Hold W w3.heap.size s) ⟨B.alloc B.size _, hX.alloc _, hN.alloc _, hG.alloc _, Hold.new _ _ _⟩ ?_
  clear B hX hN hG ghX ghN
  rintro W ⟨B, hX, hN, hG, hS⟩
  generalize w3.heap.size = bs at *
  with_reducible refine (SU.out _).mono ?_
  rintro e w4 ⟨rfl, hb⟩
  replace B := B.trans (hb.mono B.size)
  replace hX := hX.keep hb; replace hN := hN.keep hb; replace hG := hG.keep hb; replace hS := hS.keep hb
  clear hb W
  have ghS := hS.allocs
  go_wp2_with fail
  refine calls_world (fun W => Below w.heap.size w W ∧ Hold W w.heap.size b ∧ Hold W bn x ∧ Hold W bg g ∧ Hold W bs s ∧ Hold W w4.heap.size m) ⟨B.alloc B.size _, hX.alloc _, hN.alloc _, hG.alloc _, hS.alloc _, Hold.new _ _ _⟩ ?_
  clear B hX hN hG hS ghS
  rintro W ⟨B, hX, hN, hG, hS, hD⟩
  generalize w4.heap.size = bd at *
  with_reducible refine (CM.out _).mono ?_
  rintro e w9 ⟨rfl, hb⟩
  replace B := B.trans (hb.mono B.size)
  replace hX := hX.keep hb; replace hN := hN.keep hb; replace hG := hG.keep hb; replace hS := hS.keep hb; replace hD := hD.keep hb
  clear hb W
  have BB : Hid (Below w.heap.size w w9) := B
  have BA : Hid (∀ o, Below w.heap.size w (w9.alloc o)) := fun o => B.alloc B.size o
  clear B hX hN hG hS hD
  go_wp2
  simp [bodyPost, results, Try.results3, go_sem]
  first | exact BB.out | exact BA.out _

theorem cmp_low {n m : Int} (h : n ≤ m) : cmpN n m ≤ 0 := by
  unfold cmpN; split
  · omega
  · split <;> omega

theorem nb_cases {b l u : Int} (c : ¬ l < 2) (c2 : ¬ l < u) (c3 : ¬ u = l / 2) (c4 : ¬ u < l / 2) : nbV b l u = wideV (b + riseN b (u - l / 2) (l / 2)) ∧ nbE b l u = wideE (b + riseN b (u - l / 2) (l / 2)) := by
  have c5 : l / 2 < u := by omega
  constructor
  · unfold nbV; rw [if_neg c, if_neg c2, if_pos c5]
  · unfold nbE; rw [if_neg c, if_neg c2, if_pos c5]

theorem steady_any {b l u : Int} (hb : Num b) (hl : Word l) (hu : Word u) (w : World) :
    Calls Try.prog 3 #[.agg #[.int .u64 (l0 b), .int .u64 (l1 b), .int .u64 (l2 b), .int .u64 (l3 b)], .int .u64 l, .int .u64 u] w fun e w' => e = .returned (.bool true) ∧ Below w.heap.size w w' := by
  have NB := fun w => nb_any hb hl hu w
  have wl := hl
  obtain ⟨p0, p1⟩ := hl
  obtain ⟨q0, q1⟩ := hu
  by_cases c : l < 2
  · rw [show nbE b l u = 1 by unfold nbE; rw [if_pos c]] at NB
    exact steady_low c NB w
  by_cases c2 : l < u
  · rw [show nbE b l u = 184 by unfold nbE; rw [if_neg c, if_pos c2]] at NB
    exact steady_over c c2 NB w
  have b0 := hb.1
  have b1 := hb.2
  have eg : downN b 3 = b / 8 := rfl
  have ng : Num (b / 8) := ⟨by omega, by omega⟩
  have ns : Num (b / 8 + 1) := ⟨by omega, by omega⟩
  have SH : ∀ w, Calls Try.prog 8 #[.agg #[.int .u64 (l0 b), .int .u64 (l1 b), .int .u64 (l2 b), .int .u64 (l3 b)], .int .i64 3] w fun e w' => e = .returned (.agg #[.int .u64 (l0 (b / 8)), .int .u64 (l1 (b / 8)), .int .u64 (l2 (b / 8)), .int .u64 (l3 (b / 8))]) ∧ Below w.heap.size w w' := fun w => by
    have := shr_near (k := 3) hb (by decide) (by decide) w
    rw [eg] at this
    exact this
  have AD : ∀ w, Calls Try.prog 9 #[.agg #[.int .u64 (l0 (b / 8)), .int .u64 (l1 (b / 8)), .int .u64 (l2 (b / 8)), .int .u64 (l3 (b / 8))], .agg #[.int .u64 1, .int .u64 0, .int .u64 0, .int .u64 0]] w fun e w' => e = .returned (.tuple #[.agg #[.int .u64 (l0 (b / 8 + 1)), .int .u64 (l1 (b / 8 + 1)), .int .u64 (l2 (b / 8 + 1)), .int .u64 (l3 (b / 8 + 1))], .int .u64 0]) ∧ Below w.heap.size w w' := fun w => by
    have := add_any ng Num_one w
    rw [show sumN (b / 8) 1 = b / 8 + 1 from Int.emod_eq_of_lt (by omega) (by omega), show carN (b / 8) 1 = 0 by unfold carN; omega, show l0 1 = 1 from rfl, show l1 1 = 0 from rfl, show l2 1 = 0 from rfl, show l3 1 = 0 from rfl] at this
    exact this
  by_cases c3 : u = l / 2
  · rw [show nbV b l u = b by unfold nbV; rw [if_neg c, if_neg c2, if_neg (by omega), if_neg (by omega)], show nbE b l u = 0 by unfold nbE; rw [if_neg c, if_neg c2, if_neg (by omega)]] at NB
    exact steady_same p0 p1 c c2 c3 NB SH AD w
  by_cases c4 : u < l / 2
  · rw [show nbV b l u = b - stepN b (l / 2 - u) (l / 2) by unfold nbV; rw [if_neg c, if_neg c2, if_neg (by omega), if_pos c4], show nbE b l u = 0 by unfold nbE; rw [if_neg c, if_neg c2, if_neg (by omega)]] at NB
    have n0 := stepN_nonneg (b := b) (o := l / 2 - u) (t := l / 2) b0 (by omega) (by omega)
    have le : stepN b (l / 2 - u) (l / 2) ≤ b * 1 / 8 := stepN_le b0 (by omega) (by omega)
    rw [Int.mul_one] at le
    generalize stepN b (l / 2 - u) (l / 2) = s at *
    have nx : Num (b - s) := ⟨by omega, by omega⟩
    have nS : Num s := ⟨by omega, by omega⟩
    refine steady_fall (m := s) (q := cmpN s (b / 8)) p0 p1 c c2 c4 NB SH AD (fun w => ?_) (fun w => cmp_any nS ng w) (cmp_low le) w
    have := sub_any hb nx w
    rw [show difN b (b - s) = s by unfold difN; rw [Int.emod_eq_of_lt (by omega) (by omega)]; omega, show borN b (b - s) = 0 from if_neg (by omega)] at this
    exact this
  obtain ⟨e1, e2⟩ := nb_cases (b := b) c c2 c3 c4
  rw [e1, e2] at NB
  have nr := rise_Num (b := b) (o := u - l / 2) (t := l / 2) hb (by omega) (by omega) (by omega)
  have r0 := nr.1
  by_cases c5 : b + riseN b (u - l / 2) (l / 2) < 115792089237316195423570985008687907853269984665640564039457584007913129639936
  · rw [show wideV (b + riseN b (u - l / 2) (l / 2)) = b + riseN b (u - l / 2) (l / 2) from if_pos c5, show wideE (b + riseN b (u - l / 2) (l / 2)) = 0 from if_pos c5] at NB
    have hne : riseN b (u - l / 2) (l / 2) ≠ 0 := by
      unfold riseN; split
      · decide
      · assumption
    have hle : ¬ l % 2 = 1 → riseN b (u - l / 2) (l / 2) ≤ b / 8 + 1 := fun hodd => by
      have le : stepN b (u - l / 2) (l / 2) ≤ b * 1 / 8 := stepN_le b0 (by omega) (by omega)
      rw [Int.mul_one] at le
      unfold riseN; split <;> omega
    generalize riseN b (u - l / 2) (l / 2) = s at *
    have nx : Num (b + s) := ⟨by omega, c5⟩
    have SU : ∀ w, Calls Try.prog 10 #[.agg #[.int .u64 (l0 (b + s)), .int .u64 (l1 (b + s)), .int .u64 (l2 (b + s)), .int .u64 (l3 (b + s))], .agg #[.int .u64 (l0 b), .int .u64 (l1 b), .int .u64 (l2 b), .int .u64 (l3 b)]] w fun e w' => e = .returned (.tuple #[.agg #[.int .u64 (l0 s), .int .u64 (l1 s), .int .u64 (l2 s), .int .u64 (l3 s)], .int .u64 0]) ∧ Below w.heap.size w w' := fun w => by
      have := sub_any nx hb w
      have s1 := nr.2
      rw [show difN (b + s) b = s by unfold difN; rw [Int.emod_eq_of_lt (by omega) (by omega)]; omega, show borN (b + s) b = 0 from if_neg (by omega)] at this
      exact this
    have he : ∀ w, (Op.equalIn 10000 24 (.agg #[.int .u64 (l0 s), .int .u64 (l1 s), .int .u64 (l2 s), .int .u64 (l3 s)]) (.agg #[.int .u64 0, .int .u64 0, .int .u64 0, .int .u64 0])).run Try.prog w = .ok false w := fun w => by rw [eq_zero nr, decide_eq_false hne]
    by_cases c6 : l % 2 = 1
    · exact steady_odd p0 p1 c c2 c3 c4 c6 NB SH AD SU he w
    · exact steady_even (q := cmpN s (b / 8 + 1)) p0 p1 c c2 c3 c4 c6 NB SH AD SU he (fun w => cmp_any nr ns w) (cmp_low (hle c6)) w
  · rw [show wideE (b + riseN b (u - l / 2) (l / 2)) = 183 from if_neg c5] at NB
    exact steady_wide p0 p1 c c2 c3 c4 NB SH AD w
end Go.Proofs.Ytmegdnalpaddmaa

import Derived.Test.YtfpiopjlcjckeabDoorFRefY
namespace Go.Proofs.YtfpiopjlcjckeabDoor
open Go.RowKit Go.Sort

set_option maxRecDepth 100000 in
set_option maxHeartbeats 8000000 in
theorem rRoot_walk {x m q z g r s t u ra re : Int}
    (M0 : Hid (∀ w, Calls Tryd.prog 29 #[.int .i64 0] w fun e w' => e = .returned (.agg #[.int .u64 (l0 m), .int .u64 (l1 m), .int .u64 (l2 m), .int .u64 (l3 m)]) ∧ Below w.heap.size w w')) (F1 : Hid (∀ w, Calls Tryd.prog 40 #[.int .u64 1] w fun e w' => e = .returned (.agg #[.int .u64 (l0 1), .int .u64 (l1 1), .int .u64 (l2 1), .int .u64 (l3 1)]) ∧ Below w.heap.size w w')) (A1 : Hid (∀ w, Calls Tryd.prog 47 #[.agg #[.int .u64 (l0 m), .int .u64 (l1 m), .int .u64 (l2 m), .int .u64 (l3 m)], .agg #[.int .u64 (l0 1), .int .u64 (l1 1), .int .u64 (l2 1), .int .u64 (l3 1)]] w fun e w' => e = .returned (.tuple #[.agg #[.int .u64 (l0 q), .int .u64 (l1 q), .int .u64 (l2 q), .int .u64 (l3 q)], .int .u64 z]) ∧ Below w.heap.size w w')) (S1 : Hid (∀ w, Calls Tryd.prog 48 #[.agg #[.int .u64 (l0 q), .int .u64 (l1 q), .int .u64 (l2 q), .int .u64 (l3 q)], .int .i64 2] w fun e w' => e = .returned (.agg #[.int .u64 (l0 g), .int .u64 (l1 g), .int .u64 (l2 g), .int .u64 (l3 g)]) ∧ Below w.heap.size w w'))
    (E1 : Hid (∀ w, Calls Tryd.prog 35 #[.int .i64 0, .agg #[.int .u64 (l0 x), .int .u64 (l1 x), .int .u64 (l2 x), .int .u64 (l3 x)], .agg #[.int .u64 (l0 g), .int .u64 (l1 g), .int .u64 (l2 g), .int .u64 (l3 g)]] w fun e w' => e = .returned (.agg #[.int .u64 (l0 r), .int .u64 (l1 r), .int .u64 (l2 r), .int .u64 (l3 r)]) ∧ Below w.heap.size w w')) (M1 : Hid (∀ w, Calls Tryd.prog 49 #[.int .i64 0, .agg #[.int .u64 (l0 r), .int .u64 (l1 r), .int .u64 (l2 r), .int .u64 (l3 r)], .agg #[.int .u64 (l0 r), .int .u64 (l1 r), .int .u64 (l2 r), .int .u64 (l3 r)]] w fun e w' => e = .returned (.agg #[.int .u64 (l0 s), .int .u64 (l1 s), .int .u64 (l2 s), .int .u64 (l3 s)]) ∧ Below w.heap.size w w')) (O1 : Hid (∀ w, Calls Tryd.prog 38 #[.int .i64 0, .agg #[.int .u64 (l0 x), .int .u64 (l1 x), .int .u64 (l2 x), .int .u64 (l3 x)]] w fun e w' => e = .returned (.agg #[.int .u64 (l0 t), .int .u64 (l1 t), .int .u64 (l2 t), .int .u64 (l3 t)]) ∧ Below w.heap.size w w')) (ns : Num s) (nt : Num t)
    (S2 : Hid (∀ w, Calls Tryd.prog 33 #[.int .i64 0, .agg #[.int .u64 (l0 r), .int .u64 (l1 r), .int .u64 (l2 r), .int .u64 (l3 r)]] w fun e w' => e = .returned (.agg #[.int .u64 (l0 u), .int .u64 (l1 u), .int .u64 (l2 u), .int .u64 (l3 u)]) ∧ Below w.heap.size w w'))
    (cs : Hid ((s ≠ t ∧ ra = 0 ∧ re = 41) ∨ (s = t ∧ ((l0 r).tmod 2 == 1) = false ∧ ra = r ∧ re = 0) ∨ (s = t ∧ ((l0 r).tmod 2 == 1) = true ∧ ra = u ∧ re = 0))) (w : World) :
    Calls Tryd.prog 24 #[.agg #[.int .u64 (l0 x), .int .u64 (l1 x), .int .u64 (l2 x), .int .u64 (l3 x)]] w fun e w' => e = .returned (.tuple #[.agg #[.int .u64 (l0 ra), .int .u64 (l1 ra), .int .u64 (l2 ra), .int .u64 (l3 ra)], .int .i64 re]) ∧ Below w.heap.size w w' := by
  have bz := build_zero
  have wr := l0_word r
  generalize ht : (1 : Int) = T at F1 A1
  go_enter Tryd.func24, Tryd.ntmps24
  go_wp2_with fail
  refine calls_world (fun W => Below w.heap.size w W ∧ Hold W w.heap.size x ∧ Blank W (w.heap.size + 1)) ⟨by repeat (first | with_reducible exact Below.refl _ _ | with_reducible refine Below.alloc ?_ (by first | omega | (simp; done) | (simp; omega)) _), (Hold.fresh (by simp)).alloc _, Blank.new (by simp)⟩ ?_
  rintro W ⟨B, hX, hR⟩
  have o3 : w.heap.size ≤ w.heap.size + 1 := by omega
  generalize w.heap.size + 1 = br at *
  with_reducible refine (M0.out _).mono ?_
  rintro e w1 ⟨rfl, hb⟩
  replace B := B.trans (hb.mono B.size)
  replace hX := hX.keep hb; replace hR := hR.keep hb
  clear hb W
  go_wp2_with fail
  refine calls_world (fun W => Below w.heap.size w W ∧ Hold W w.heap.size x ∧ Blank W br) ⟨B, hX, hR⟩ ?_
  clear B hX hR 
  rintro W ⟨B, hX, hR⟩
  subst ht
  with_reducible refine (F1.out _).mono ?_
  rintro e w2 ⟨rfl, hb⟩
  replace B := B.trans (hb.mono B.size)
  replace hX := hX.keep hb; replace hR := hR.keep hb
  clear hb W
  go_wp2_with fail
  refine calls_world (fun W => Below w.heap.size w W ∧ Hold W w.heap.size x ∧ Blank W br) ⟨B, hX, hR⟩ ?_
  clear B hX hR 
  rintro W ⟨B, hX, hR⟩
  with_reducible refine (A1.out _).mono ?_
  rintro e w3 ⟨rfl, hb⟩
  replace B := B.trans (hb.mono B.size)
  replace hX := hX.keep hb; replace hR := hR.keep hb
  clear hb W
  go_wp2_with fail
  refine calls_world (fun W => Below w.heap.size w W ∧ Hold W w.heap.size x ∧ Blank W br ∧ Hold W w3.heap.size q) ⟨B.alloc B.size _, hX.alloc _, hR.alloc _, Hold.new _ _ _⟩ ?_
  clear B hX hR 
  rintro W ⟨B, hX, hR, hQ⟩
  generalize w3.heap.size = bq at *
  with_reducible refine (S1.out _).mono ?_
  rintro e w4 ⟨rfl, hb⟩
  replace B := B.trans (hb.mono B.size)
  replace hX := hX.keep hb; replace hR := hR.keep hb; replace hQ := hQ.keep hb
  clear hb W
  have ghX := hX.allocs
  go_wp2_with fail
  refine calls_world (fun W => Below w.heap.size w W ∧ Hold W w.heap.size x ∧ Blank W br ∧ Hold W bq q ∧ Hold W w4.heap.size g) ⟨B.alloc B.size _, hX.alloc _, hR.alloc _, hQ.alloc _, Hold.new _ _ _⟩ ?_
  clear B hX hR hQ ghX
  rintro W ⟨B, hX, hR, hQ, hE⟩
  generalize w4.heap.size = be at *
  clear hQ hE
  with_reducible refine (E1.out _).mono ?_
  rintro e w5 ⟨rfl, hb⟩
  replace B := B.trans (hb.mono B.size)
  replace hX := hX.keep hb; replace hR := hR.keep hb
  clear hb W
  go_wp2_with fail
  have nr1 : w5.heap.size ≠ br := by have := hR.1.lt (by simp); omega
  have nr2 := nr1.symm
  have og : w.heap.size ≤ w5.heap.size := B.size
  refine wp_world (fun W => Below w.heap.size w W ∧ Hold W w.heap.size x ∧ Blank W br ∧ Var W w5.heap.size r) ⟨B.alloc B.size _, hX.alloc _, hR.alloc _, Var.new rfl⟩ ?_
  clear B hX hR
  rintro W ⟨B, hX, hR, hV⟩
  generalize w5.heap.size = bv at *
  have gX := hX.grown; have gV := hV.1.grown
  have hq := eq_num ns nt
  refine wp_region_quiet_below (by kernel_rfl) (by kernel_rfl) ?_
  repeat
    first
      | go_big_quiet_skip
      | (go_big_quiet_want; go_big_quiet_op; go_big_quiet_on)
      | (go_big_quiet_want
         go_big_quiet_op
         apply Exists.intro
         refine ⟨fun p => ?_, ?_⟩
         · (first | (go_at_call 49; with_reducible exact Calls.regrown_of (M1.out _)) | (go_at_call 38; with_reducible exact Calls.regrown_of (O1.out _)))
         go_big_quiet_on)
  refine wpQuiet_nil ?_
  rintro w6 ⟨p, rfl⟩
  have hb := below_regrown W p.d p.os
  generalize grow (redrawn W p.d) p.os = w6 at *
  replace B := B.trans (hb.mono B.size)
  replace hR := hR.keep hb; replace hV := hV.keep hb
  clear hb hX gX gV W
  generalize hdb : (!decide (s = t)) = db
  rcases cs.out with ⟨c1, rfl, rfl⟩ | ⟨c1, c2, rfl, rfl⟩ | ⟨c1, c2, rfl, rfl⟩
  · obtain rfl : db = true := by rw [← hdb]; simp [c1]
    clear hdb
    have gR := hR.1.all4; have fR := hR.2.all4

    clear hV hq c1 wr
    go_wp2
    simp [bodyPost, results, Tryd.results24, go_sem, gR]
    exact ⟨⟨by decide, by decide, by decide, by decide⟩, below_set4 B o3 _ _ _ _⟩
  · obtain rfl : db = false := by rw [← hdb]; simp [c1]
    clear hdb
    subst c1
    have gV := hV.1.cells; have gR := hR.1.all4; have fR := hR.2.all4
    clear hq
    go_wp2
    simp [bodyPost, results, Tryd.results24, go_sem, gR]
    exact below_set4 B o3 _ _ _ _
  · obtain rfl : db = false := by rw [← hdb]; simp [c1]
    clear hdb
    subst c1
    have gV := hV.1.cells
    clear hq
    go_wp2_with fail
    with_reducible refine (S2.out _).mono ?_
    rintro e w7 ⟨rfl, hb⟩
    replace B := B.trans (hb.mono B.size)
    replace hR := hR.keep hb; replace hV := hV.keep hb
    clear hb gV w6
    have gV := hV.1.cells; have qV := hV.2.all4; have gR := hR.1.all4; have fR := hR.2.all4
    go_wp2
    simp [bodyPost, results, Tryd.results24, go_sem, *]
    repeat (first | with_reducible exact B | with_reducible refine Below.drew ?_ | with_reducible refine Below.setCell ?_ (by with_reducible assumption) _)

set_option maxRecDepth 100000 in
set_option maxHeartbeats 8000000 in
theorem rResidue_walk {x t ra re rr : Int} (O1 : Hid (∀ w, Calls Tryd.prog 38 #[.int .i64 0, .agg #[.int .u64 (l0 x), .int .u64 (l1 x), .int .u64 (l2 x), .int .u64 (l3 x)]] w fun e w' => e = .returned (.agg #[.int .u64 (l0 t), .int .u64 (l1 t), .int .u64 (l2 t), .int .u64 (l3 t)]) ∧ Below w.heap.size w w')) (nt : Num t) (R1 : Hid (∀ w, Calls Tryd.prog 24 #[.agg #[.int .u64 (l0 x), .int .u64 (l1 x), .int .u64 (l2 x), .int .u64 (l3 x)]] w fun e w' => e = .returned (.tuple #[.agg #[.int .u64 (l0 ra), .int .u64 (l1 ra), .int .u64 (l2 ra), .int .u64 (l3 ra)], .int .i64 re]) ∧ Below w.heap.size w w'))
    (cs : Hid ((t = 0 ∧ rr = 0) ∨ (t ≠ 0 ∧ (re != 0) = true ∧ rr = -1) ∨ (t ≠ 0 ∧ (re != 0) = false ∧ rr = 1))) (w : World) :
    Calls Tryd.prog 26 #[.agg #[.int .u64 (l0 x), .int .u64 (l1 x), .int .u64 (l2 x), .int .u64 (l3 x)]] w fun e w' => e = .returned (.int .i64 rr) ∧ Below w.heap.size w w' := by
  have bz := build_zero
  have hq := feq_zero nt
  clear nt
  rcases cs.out with ⟨c1, rfl⟩ | ⟨c1, c2, rfl⟩ | ⟨c1, c2, rfl⟩
  · rw [show decide (t = 0) = true by simp [c1]] at hq
    clear c1 cs
    go_enter Tryd.func26, Tryd.ntmps26
    go_wp2_with fail
    refine calls_world (fun W => Below w.heap.size w W) ?_ ?_
    · exact by repeat (first | with_reducible exact Below.refl _ _ | with_reducible refine Below.alloc ?_ (by first | omega | (simp; done) | (simp; omega)) _)
    rintro W B
    with_reducible refine (O1.out _).mono ?_
    rintro e w1 ⟨rfl, hb⟩
    replace B := B.trans (hb.mono B.size)
    clear hb W
    go_wp2
    simp [bodyPost, results, Tryd.results26, go_sem]
    exact B
  all_goals rw [show decide (t = 0) = false by simp [c1]] at hq
  all_goals clear c1 cs
  all_goals go_enter Tryd.func26, Tryd.ntmps26
  all_goals go_wp2_with fail
  all_goals refine calls_world (fun W => Below w.heap.size w W ∧ Hold W w.heap.size x) ⟨by repeat (first | with_reducible exact Below.refl _ _ | with_reducible refine Below.alloc ?_ (by first | omega | (simp; done) | (simp; omega)) _), Hold.fresh (by simp)⟩ ?_
  all_goals rintro W ⟨B, hX⟩
  all_goals with_reducible refine (O1.out _).mono ?_
  all_goals rintro e w1 ⟨rfl, hb⟩
  all_goals replace B := B.trans (hb.mono B.size)
  all_goals replace hX := hX.keep hb
  all_goals clear hb W
  all_goals have gX := hX.cells
  all_goals go_wp2_with fail
  all_goals with_reducible refine (R1.out _).mono ?_
  all_goals rintro e w2 ⟨rfl, hb⟩
  all_goals replace B := B.trans (hb.mono B.size)
  all_goals clear hb hX gX w1
  all_goals have BB : Hid (∀ o, Below w.heap.size w (w2.alloc o)) := fun o => B.alloc B.size o
  all_goals have BC : Hid (Below w.heap.size w w2) := B
  all_goals clear B
  all_goals go_wp2
  all_goals simp [bodyPost, results, Tryd.results26, go_sem]
  all_goals first | exact BB.out _ | exact BC.out
end Go.Proofs.YtfpiopjlcjckeabDoor

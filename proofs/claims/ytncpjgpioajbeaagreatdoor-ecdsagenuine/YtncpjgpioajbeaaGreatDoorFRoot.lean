import Derived.Test.YtncpjgpioajbeaaGreatDoorFAdd
import Derived.Test.YtncpjgpioajbeaaGreatDoorFOf
namespace Go.Proofs.YtncpjgpioajbeaaGreatDoor
open Go.RowKit Go.Sort

set_option maxRecDepth 100000 in
set_option maxHeartbeats 8000000 in
theorem Root_walk {m c x a q z r s t b u ra re : Int} (em : m = pN) (ec : c = pC)
    (S1 : Hid (∀ w, Calls Tryz.prog 82 #[.agg #[.int .u64 (l0 m), .int .u64 (l1 m), .int .u64 (l2 m), .int .u64 (l3 m)], .int .i64 2] w fun e w' => e = .returned (.agg #[.int .u64 (l0 a), .int .u64 (l1 a), .int .u64 (l2 a), .int .u64 (l3 a)]) ∧ Below w.heap.size w w')) (F1 : Hid (∀ w, Calls Tryz.prog 84 #[.int .u64 1] w fun e w' => e = .returned (.agg #[.int .u64 (l0 1), .int .u64 (l1 1), .int .u64 (l2 1), .int .u64 (l3 1)]) ∧ Below w.heap.size w w')) (A1 : Hid (∀ w, Calls Tryz.prog 83 #[.agg #[.int .u64 (l0 a), .int .u64 (l1 a), .int .u64 (l2 a), .int .u64 (l3 a)], .agg #[.int .u64 (l0 1), .int .u64 (l1 1), .int .u64 (l2 1), .int .u64 (l3 1)]] w fun e w' => e = .returned (.tuple #[.agg #[.int .u64 (l0 q), .int .u64 (l1 q), .int .u64 (l2 q), .int .u64 (l3 q)], .int .u64 z]) ∧ Below w.heap.size w w'))
    (E1 : Hid (∀ w, Calls Tryz.prog 85 #[.agg #[.int .u64 (l0 m), .int .u64 (l1 m), .int .u64 (l2 m), .int .u64 (l3 m), .int .u64 (l0 c), .int .u64 (l1 c), .int .u64 (l2 c), .int .u64 (l3 c)], .agg #[.int .u64 (l0 x), .int .u64 (l1 x), .int .u64 (l2 x), .int .u64 (l3 x)], .agg #[.int .u64 (l0 q), .int .u64 (l1 q), .int .u64 (l2 q), .int .u64 (l3 q)]] w fun e w' => e = .returned (.agg #[.int .u64 (l0 r), .int .u64 (l1 r), .int .u64 (l2 r), .int .u64 (l3 r)]) ∧ Below w.heap.size w w')) (M1 : Hid (∀ w, Calls Tryz.prog 86 #[.agg #[.int .u64 (l0 m), .int .u64 (l1 m), .int .u64 (l2 m), .int .u64 (l3 m), .int .u64 (l0 c), .int .u64 (l1 c), .int .u64 (l2 c), .int .u64 (l3 c)], .agg #[.int .u64 (l0 r), .int .u64 (l1 r), .int .u64 (l2 r), .int .u64 (l3 r)], .agg #[.int .u64 (l0 r), .int .u64 (l1 r), .int .u64 (l2 r), .int .u64 (l3 r)]] w fun e w' => e = .returned (.agg #[.int .u64 (l0 s), .int .u64 (l1 s), .int .u64 (l2 s), .int .u64 (l3 s)]) ∧ Below w.heap.size w w')) (O1 : Hid (∀ w, Calls Tryz.prog 87 #[.agg #[.int .u64 (l0 m), .int .u64 (l1 m), .int .u64 (l2 m), .int .u64 (l3 m), .int .u64 (l0 c), .int .u64 (l1 c), .int .u64 (l2 c), .int .u64 (l3 c)], .agg #[.int .u64 (l0 x), .int .u64 (l1 x), .int .u64 (l2 x), .int .u64 (l3 x)]] w fun e w' => e = .returned (.agg #[.int .u64 (l0 t), .int .u64 (l1 t), .int .u64 (l2 t), .int .u64 (l3 t)]) ∧ Below w.heap.size w w')) (ns : Num s) (nt : Num t)
    (B1 : Hid (∀ w, Calls Tryz.prog 81 #[.agg #[.int .u64 (l0 r), .int .u64 (l1 r), .int .u64 (l2 r), .int .u64 (l3 r)], .int .i64 0] w fun e w' => e = .returned (.int .i64 b) ∧ Below w.heap.size w w')) (S2 : Hid (∀ w, Calls Tryz.prog 88 #[.agg #[.int .u64 (l0 m), .int .u64 (l1 m), .int .u64 (l2 m), .int .u64 (l3 m), .int .u64 (l0 c), .int .u64 (l1 c), .int .u64 (l2 c), .int .u64 (l3 c)], .agg #[.int .u64 0, .int .u64 0, .int .u64 0, .int .u64 0], .agg #[.int .u64 (l0 r), .int .u64 (l1 r), .int .u64 (l2 r), .int .u64 (l3 r)]] w fun e w' => e = .returned (.agg #[.int .u64 (l0 u), .int .u64 (l1 u), .int .u64 (l2 u), .int .u64 (l3 u)]) ∧ Below w.heap.size w w'))
    (cs : Hid ((s ≠ t ∧ ra = 0 ∧ re = 41) ∨ (s = t ∧ b = 0 ∧ ra = r ∧ re = 0) ∨ (s = t ∧ b = 1 ∧ ra = u ∧ re = 0))) (w : World) (hm : Mds w) :
    Calls Tryz.prog 48 #[.agg #[.int .u64 (l0 x), .int .u64 (l1 x), .int .u64 (l2 x), .int .u64 (l3 x)]] w fun e w' => e = .returned (.tuple #[.agg #[.int .u64 (l0 ra), .int .u64 (l1 ra), .int .u64 (l2 ra), .int .u64 (l3 ra)], .int .i64 re]) ∧ Below w.heap.size w w' := by
  have bz := build_zero
  generalize ht : (1 : Int) = T at F1 A1
  have gD := fun o o2 => ((hm.alloc o).alloc o2).p.cells
  rw [← em, ← ec] at gD
  clear em ec
  go_enter Tryz.func48, Tryz.ntmps48
  go_wp2_with fail
  refine calls_world (fun W => Below w.heap.size w W ∧ Hold W w.heap.size x ∧ Blank W (w.heap.size + 1) ∧ HoldM W (w.heap.size + 1 + 1) m c) ⟨by repeat (first | with_reducible exact Below.refl _ _ | with_reducible refine Below.alloc ?_ (by first | omega | (simp; done) | (simp; omega)) _), ((Hold.fresh (by simp)).alloc _).alloc _, (Blank.new (by simp)).alloc _, ?_⟩ ?_
  · have := HoldM.new ((w.alloc (.cells #[.int .u64 (l0 x), .int .u64 (l1 x), .int .u64 (l2 x), .int .u64 (l3 x)] 24)).alloc (.cells #[.int .u64 0, .int .u64 0, .int .u64 0, .int .u64 0] 24)) m c 68
    simp at this
    exact this
  clear gD hm
  rintro W ⟨B, hX, hR, hF⟩
  have o3 : w.heap.size ≤ w.heap.size + 1 := by omega
  generalize w.heap.size + 1 + 1 = bf at *
  generalize w.heap.size + 1 = br at *
  with_reducible refine (S1.out _).mono ?_
  rintro e w1 ⟨rfl, hb⟩
  replace B := B.trans (hb.mono B.size)
  replace hX := hX.keep hb; replace hR := hR.keep hb; replace hF := hF.keep hb
  clear hb W
  go_wp2_with fail
  refine calls_world (fun W => Below w.heap.size w W ∧ Hold W w.heap.size x ∧ Blank W br ∧ HoldM W bf m c) ⟨B, hX, hR, hF⟩ ?_
  clear B hX hR hF 
  rintro W ⟨B, hX, hR, hF⟩
  subst ht
  with_reducible refine (F1.out _).mono ?_
  rintro e w2 ⟨rfl, hb⟩
  replace B := B.trans (hb.mono B.size)
  replace hX := hX.keep hb; replace hR := hR.keep hb; replace hF := hF.keep hb
  clear hb W
  go_wp2_with fail
  refine calls_world (fun W => Below w.heap.size w W ∧ Hold W w.heap.size x ∧ Blank W br ∧ HoldM W bf m c) ⟨B, hX, hR, hF⟩ ?_
  clear B hX hR hF 
  rintro W ⟨B, hX, hR, hF⟩
  with_reducible refine (A1.out _).mono ?_
  rintro e w3 ⟨rfl, hb⟩
  replace B := B.trans (hb.mono B.size)
  replace hX := hX.keep hb; replace hR := hR.keep hb; replace hF := hF.keep hb
  clear hb W
  have ghX := hX.allocs
  have ghF := fun o => (hF.alloc o).cells
  go_wp2_with fail
  refine calls_world (fun W => Below w.heap.size w W ∧ Hold W w.heap.size x ∧ Blank W br ∧ HoldM W bf m c ∧ Hold W w3.heap.size q) ⟨B.alloc B.size _, hX.alloc _, hR.alloc _, hF.alloc _, Hold.new _ _ _⟩ ?_
  clear B hX hR hF ghX ghF
  rintro W ⟨B, hX, hR, hF, hQ⟩
  generalize w3.heap.size = bq at *
  clear hQ
  with_reducible refine (E1.out _).mono ?_
  rintro e w4 ⟨rfl, hb⟩
  replace B := B.trans (hb.mono B.size)
  replace hF := hF.keep hb; replace hX := hX.keep hb; replace hR := hR.keep hb
  clear hb W
  go_wp2_with fail
  have nr1 : w4.heap.size ≠ br := by have := hR.1.lt (by simp); omega
  have nr2 := nr1.symm
  have nf1 : w4.heap.size ≠ bf := by have := hF.lt; omega
  have og : w.heap.size ≤ w4.heap.size := B.size
  refine wp_world (fun W => Below w.heap.size w W ∧ HoldM W bf m c ∧ Hold W w.heap.size x ∧ Blank W br ∧ Var W w4.heap.size r) ⟨B.alloc B.size _, hF.alloc _, hX.alloc _, hR.alloc _, Var.new rfl⟩ ?_
  clear B hF hX hR
  rintro W ⟨B, hF, hX, hR, hV⟩
  generalize w4.heap.size = bv at *
  have gF := hF.grown; have gX := hX.grown; have gV := hV.1.grown
  have hq := eq_num ns nt
  refine wp_region_quiet_below (by kernel_rfl) (by kernel_rfl) ?_
  repeat
    first
      | go_big_quiet_skip
      | (go_big_quiet_want; go_big_quiet_op; go_big_quiet_on)
      | (go_big_quiet_want
         go_big_quiet_op
         apply Exists.intro
         refine ⟨fun p => ?_, ?_⟩
         · (first | (go_at_call 86; with_reducible exact Calls.regrown_of (M1.out _)) | (go_at_call 87; with_reducible exact Calls.regrown_of (O1.out _)))
         go_big_quiet_on)
  refine wpQuiet_nil ?_
  rintro w5 ⟨p, rfl⟩
  have hb := below_regrown W p.d p.os
  generalize grow (redrawn W p.d) p.os = w5 at *
  replace B := B.trans (hb.mono B.size)
  replace hF := hF.keep hb; replace hR := hR.keep hb; replace hV := hV.keep hb
  clear hb hX gF gX gV W
  generalize hdb : (!decide (s = t)) = db
  rcases cs.out with ⟨c1, rfl, rfl⟩ | ⟨c1, rfl, rfl, rfl⟩ | ⟨c1, rfl, rfl, rfl⟩
  · obtain rfl : db = true := by rw [← hdb]; simp [c1]
    clear hdb
    have gR := hR.1.all4; have fR := hR.2.all4

    clear hF hV hq c1
    go_wp2
    simp [bodyPost, results, Tryz.results48, go_sem, gR]
    exact ⟨⟨by decide, by decide, by decide, by decide⟩, below_set4 B o3 _ _ _ _⟩
  · obtain rfl : db = false := by rw [← hdb]; simp [c1]
    clear hdb
    subst c1
    have gV := hV.1.cells
    clear hq
    go_wp2_with fail
    with_reducible refine (B1.out _).mono ?_
    rintro e w6 ⟨rfl, hb⟩
    replace B := B.trans (hb.mono B.size)
    replace hR := hR.keep hb; replace hV := hV.keep hb
    clear hb gV hF w5
    have gV := hV.1.cells; have gR := hR.1.all4; have fR := hR.2.all4
    go_wp2
    simp [bodyPost, results, Tryz.results48, go_sem, gR]
    exact below_set4 B o3 _ _ _ _
  · obtain rfl : db = false := by rw [← hdb]; simp [c1]
    clear hdb
    subst c1
    have gV := hV.1.cells
    clear hq
    go_wp2_with fail
    with_reducible refine (B1.out _).mono ?_
    rintro e w6 ⟨rfl, hb⟩
    replace B := B.trans (hb.mono B.size)
    replace hR := hR.keep hb; replace hV := hV.keep hb; replace hF := hF.keep hb
    clear hb gV w5
    have gV := hV.1.cells; have gF := hF.cells
    go_wp2_with fail
    with_reducible refine (S2.out _).mono ?_
    rintro e w7 ⟨rfl, hb⟩
    replace B := B.trans (hb.mono B.size)
    replace hR := hR.keep hb; replace hV := hV.keep hb
    clear hb gV gF hF w6
    have gV := hV.1.cells; have qV := hV.2.all4; have gR := hR.1.all4; have fR := hR.2.all4
    go_wp2
    simp [bodyPost, results, Tryz.results48, go_sem, *]
    repeat (first | with_reducible exact B | with_reducible refine Below.drew ?_ | with_reducible refine Below.setCell ?_ (by with_reducible assumption) _)
end Go.Proofs.YtncpjgpioajbeaaGreatDoor

import Derived.Deep.RegionHeld3
import Derived.Test.YtfpiopjlcjckeaaDoorFExp
import Derived.Test.YtfpiopjlcjckeaaDoorFOf
namespace Go.Proofs.YtfpiopjlcjckeaaDoor
open Go.RowKit Go.Sort

set_option maxRecDepth 100000 in
set_option maxHeartbeats 8000000 in
theorem Residue_walk {m c x h r re : Int} (em : m = pN) (ec : c = pC)
    (S1 : Hid (∀ w, Calls Tryd.prog 30 #[.agg #[.int .u64 (l0 m), .int .u64 (l1 m), .int .u64 (l2 m), .int .u64 (l3 m)], .int .i64 1] w fun e w' => e = .returned (.agg #[.int .u64 (l0 h), .int .u64 (l1 h), .int .u64 (l2 h), .int .u64 (l3 h)]) ∧ Below w.heap.size w w')) (E1 : Hid (∀ w, Calls Tryd.prog 50 #[.agg #[.int .u64 (l0 m), .int .u64 (l1 m), .int .u64 (l2 m), .int .u64 (l3 m), .int .u64 (l0 c), .int .u64 (l1 c), .int .u64 (l2 c), .int .u64 (l3 c)], .agg #[.int .u64 (l0 x), .int .u64 (l1 x), .int .u64 (l2 x), .int .u64 (l3 x)], .agg #[.int .u64 (l0 h), .int .u64 (l1 h), .int .u64 (l2 h), .int .u64 (l3 h)]] w fun e w' => e = .returned (.agg #[.int .u64 (l0 r), .int .u64 (l1 r), .int .u64 (l2 r), .int .u64 (l3 r)]) ∧ Below w.heap.size w w'))
    (F0 : Hid (∀ w, Calls Tryd.prog 14 #[.int .u64 0] w fun e w' => e = .returned (.agg #[.int .u64 (l0 0), .int .u64 (l1 0), .int .u64 (l2 0), .int .u64 (l3 0)]) ∧ Below w.heap.size w w')) (F1 : Hid (∀ w, Calls Tryd.prog 14 #[.int .u64 1] w fun e w' => e = .returned (.agg #[.int .u64 (l0 1), .int .u64 (l1 1), .int .u64 (l2 1), .int .u64 (l3 1)]) ∧ Below w.heap.size w w')) (nr : Num r)
    (cs : Hid ((r = 0 ∧ re = 0) ∨ (r ≠ 0 ∧ r = 1 ∧ re = 1) ∨ (r ≠ 0 ∧ r ≠ 1 ∧ re = -1))) (w : World) (hm : Mds w) :
    Calls Tryd.prog 33 #[.agg #[.int .u64 (l0 x), .int .u64 (l1 x), .int .u64 (l2 x), .int .u64 (l3 x)]] w fun e w' => e = .returned (.int .i64 re) ∧ Below w.heap.size w w' := by
  have q0 := eq_num (m := 0) nr ⟨by decide, by decide⟩
  have q1 := eq_num (m := 1) nr ⟨by decide, by decide⟩
  have hz : Hid (∃ z o : Int, z = 0 ∧ o = 1) := ⟨0, 1, rfl, rfl⟩
  obtain ⟨zz, oo, ez, eo⟩ := hz.out
  clear hz
  have gD := fun o => (hm.alloc o).p.cells
  rw [← em, ← ec] at gD
  clear em ec
  go_enter Tryd.func33, Tryd.ntmps33
  clear ez eo zz oo
  go_wp2_with fail
  refine wp_world (fun W => Below w.heap.size w W ∧ Hold W w.heap.size x ∧ HoldM W (w.heap.size + 1) m c) ⟨by repeat (first | with_reducible exact Below.refl _ _ | with_reducible refine Below.alloc ?_ (by first | omega | (simp; done) | (simp; omega)) _), (Hold.fresh (by simp)).alloc _, ?_⟩ ?_
  · have := HoldM.new (w.alloc (.cells #[.int .u64 (l0 x), .int .u64 (l1 x), .int .u64 (l2 x), .int .u64 (l3 x)] 30)) m c 58
    simp at this
    exact this
  clear gD hm
  rintro W ⟨B, hX, hF⟩
  generalize w.heap.size + 1 = bf at *
  generalize hbf : w.heap.size = bx at *
  have gF := hF.cells; have gX := hX.cells
  have lf : bf < W.heap.size := hF.lt
  have lx : bx < W.heap.size := World.block_lt_of_cell? W _ hX.1
  have BB : Hid (Below bx w W) := B
  have geB : bx ≤ W.heap.size := by omega
  clear B hF hX
  refine wp_out (fun a' W' => ∃ bs, Below bx w W' ∧ Hold W' bs r ∧ a' = { tmps := #[.agg #[.int .u64 (l0 x), .int .u64 (l1 x), .int .u64 (l2 x), .int .u64 (l3 x)], .pointer (some { block := bx, off := 0 }), .int .i64 0, .pointer (some { block := bf, off := 0 }), .pointer (some { block := bs, off := 0 }), .pointer (some { block := 0, off := 0 }), .agg #[.int .u64 (l0 m), .int .u64 (l1 m), .int .u64 (l2 m), .int .u64 (l3 m), .int .u64 (l0 c), .int .u64 (l1 c), .int .u64 (l2 c), .int .u64 (l3 c)], .agg #[.int .u64 (l0 m), .int .u64 (l1 m), .int .u64 (l2 m), .int .u64 (l3 m), .int .u64 (l0 c), .int .u64 (l1 c), .int .u64 (l2 c), .int .u64 (l3 c)], .agg #[.int .u64 (l0 x), .int .u64 (l1 x), .int .u64 (l2 x), .int .u64 (l3 x)], .pointer (some { block := bf, off := 0 }), .agg #[.int .u64 (l0 m), .int .u64 (l1 m), .int .u64 (l2 m), .int .u64 (l3 m)], .agg #[.int .u64 (l0 h), .int .u64 (l1 h), .int .u64 (l2 h), .int .u64 (l3 h)], .agg #[.int .u64 (l0 r), .int .u64 (l1 r), .int .u64 (l2 r), .int .u64 (l3 r)], Go.undef, Go.undef, Go.undef, Go.undef, Go.undef, Go.undef, Go.undef, Go.undef], defers := [] }) ?_ ?_
  · have dz : W.drew.heap.size = W.heap.size := rfl
    clear F0 F1 cs nr q0 q1
    have _ : bf < W.heap.size := by omega
    have _ : bf ≤ W.heap.size := by omega
    have _ : bf < W.heap.size + 1 := by omega
    have _ : bf < W.heap.size + 1 + 1 := by omega
    have _ : bf ≠ W.heap.size := by omega
    have _ : W.heap.size ≠ bf := by omega
    have _ : bf ≠ W.heap.size + 1 := by omega
    have _ : W.heap.size + 1 ≠ bf := by omega
    have _ : bx < W.heap.size := by omega
    have _ : bx ≤ W.heap.size := by omega
    have _ : bx < W.heap.size + 1 := by omega
    have _ : bx < W.heap.size + 1 + 1 := by omega
    have _ : bx ≠ W.heap.size := by omega
    have _ : W.heap.size ≠ bx := by omega
    have _ : bx ≠ W.heap.size + 1 := by omega
    have _ : W.heap.size + 1 ≠ bx := by omega
    go_region_held3 (fun w' => w'.cell? ⟨bf, 0, none⟩ = some (.int .u64 (l0 m)) ∧ w'.cell? ⟨bf, 1, none⟩ = some (.int .u64 (l1 m)) ∧ w'.cell? ⟨bf, 2, none⟩ = some (.int .u64 (l2 m)) ∧ w'.cell? ⟨bf, 3, none⟩ = some (.int .u64 (l3 m)) ∧ w'.cell? ⟨bf, 4, none⟩ = some (.int .u64 (l0 c)) ∧ w'.cell? ⟨bf, 5, none⟩ = some (.int .u64 (l1 c)) ∧ w'.cell? ⟨bf, 6, none⟩ = some (.int .u64 (l2 c)) ∧ w'.cell? ⟨bf, 7, none⟩ = some (.int .u64 (l3 c)) ∧ w'.cell? ⟨bx, 0, none⟩ = some (.int .u64 (l0 x)) ∧ w'.cell? ⟨bx, 1, none⟩ = some (.int .u64 (l1 x)) ∧ w'.cell? ⟨bx, 2, none⟩ = some (.int .u64 (l2 x)) ∧ w'.cell? ⟨bx, 3, none⟩ = some (.int .u64 (l3 x))) (((try dsimp only); (repeat' (apply And.intro)); (all_goals repeat (first | with_reducible assumption | with_reducible apply cell_keep hb2 | with_reducible apply cell_keep hb1 | with_reducible apply cell_alloc | (with_reducible refine cell_set ?_ (by with_reducible assumption)) | (simp [go_sem, *]; done)))))
      (first
        | (go_at_call 30; with_reducible refine (S1.out _).mono ?_; rintro e w1 ⟨rfl, hb1⟩; have hc1 := oldCells hb1; have hz1 := hb1.size; (try simp at hz1); (try (have := fun j => oldCells hb1 (W.heap.size) j (by first | omega | (simp; done) | (simp; omega)))); (try (have := fun j => oldCells hb1 (W.heap.size + 1) j (by first | omega | (simp; done) | (simp; omega)))); have _ : bf < w1.heap.size := (by omega); have _ : bf ≤ w1.heap.size := (by omega); have _ : bf < w1.heap.size + 1 := (by omega); have _ : bf < w1.heap.size + 1 + 1 := (by omega); have _ : bf ≠ w1.heap.size := (by omega); have _ : w1.heap.size ≠ bf := (by omega); have _ : bf ≠ w1.heap.size + 1 := (by omega); have _ : w1.heap.size + 1 ≠ bf := (by omega); have _ : bx < w1.heap.size := (by omega); have _ : bx ≤ w1.heap.size := (by omega); have _ : bx < w1.heap.size + 1 := (by omega); have _ : bx < w1.heap.size + 1 + 1 := (by omega); have _ : bx ≠ w1.heap.size := (by omega); have _ : w1.heap.size ≠ bx := (by omega); have _ : bx ≠ w1.heap.size + 1 := (by omega); have _ : w1.heap.size + 1 ≠ bx := (by omega); (try (have _ : W.heap.size < w1.heap.size := (by omega))); (try (have _ : W.heap.size ≤ w1.heap.size := (by omega))); (try (have _ : W.heap.size ≠ w1.heap.size := (by omega))); (try (have _ : w1.heap.size ≠ W.heap.size := (by omega))); (try (have _ : W.heap.size < w1.heap.size + 1 := (by omega))); (try (have _ : W.heap.size + 1 < w1.heap.size := (by omega))); (try (have _ : W.heap.size + 1 ≤ w1.heap.size := (by omega))); (try (have _ : W.heap.size + 1 ≠ w1.heap.size := (by omega))); (try (have _ : w1.heap.size ≠ W.heap.size + 1 := (by omega))); (try (have _ : W.heap.size + 1 < w1.heap.size + 1 := (by omega))))
        | (go_at_call 50; with_reducible refine (E1.out _).mono ?_; rintro e w2 ⟨rfl, hb2⟩; have hc2 := oldCells hb2; have hz2 := hb2.size; (try simp at hz2); (try (have := fun j => oldCells hb2 (W.heap.size) j (by first | omega | (simp; done) | (simp; omega)))); (try (have := fun j => oldCells hb2 (W.heap.size + 1) j (by first | omega | (simp; done) | (simp; omega)))); (try (have := fun j => oldCells hb2 (w1.heap.size) j (by first | omega | (simp; done) | (simp; omega)))); (try (have := fun j => oldCells hb2 (w1.heap.size + 1) j (by first | omega | (simp; done) | (simp; omega)))); have _ : bf < w2.heap.size := (by omega); have _ : bf ≤ w2.heap.size := (by omega); have _ : bf < w2.heap.size + 1 := (by omega); have _ : bf < w2.heap.size + 1 + 1 := (by omega); have _ : bf ≠ w2.heap.size := (by omega); have _ : w2.heap.size ≠ bf := (by omega); have _ : bf ≠ w2.heap.size + 1 := (by omega); have _ : w2.heap.size + 1 ≠ bf := (by omega); have _ : bx < w2.heap.size := (by omega); have _ : bx ≤ w2.heap.size := (by omega); have _ : bx < w2.heap.size + 1 := (by omega); have _ : bx < w2.heap.size + 1 + 1 := (by omega); have _ : bx ≠ w2.heap.size := (by omega); have _ : w2.heap.size ≠ bx := (by omega); have _ : bx ≠ w2.heap.size + 1 := (by omega); have _ : w2.heap.size + 1 ≠ bx := (by omega); (try (have _ : W.heap.size < w2.heap.size := (by omega))); (try (have _ : W.heap.size ≤ w2.heap.size := (by omega))); (try (have _ : W.heap.size ≠ w2.heap.size := (by omega))); (try (have _ : w2.heap.size ≠ W.heap.size := (by omega))); (try (have _ : W.heap.size < w2.heap.size + 1 := (by omega))); (try (have _ : W.heap.size + 1 < w2.heap.size := (by omega))); (try (have _ : W.heap.size + 1 ≤ w2.heap.size := (by omega))); (try (have _ : W.heap.size + 1 ≠ w2.heap.size := (by omega))); (try (have _ : w2.heap.size ≠ W.heap.size + 1 := (by omega))); (try (have _ : W.heap.size + 1 < w2.heap.size + 1 := (by omega))); (try (have _ : w1.heap.size < w2.heap.size := (by omega))); (try (have _ : w1.heap.size ≤ w2.heap.size := (by omega))); (try (have _ : w1.heap.size ≠ w2.heap.size := (by omega))); (try (have _ : w2.heap.size ≠ w1.heap.size := (by omega))); (try (have _ : w1.heap.size < w2.heap.size + 1 := (by omega))); (try (have _ : w1.heap.size + 1 < w2.heap.size := (by omega))); (try (have _ : w1.heap.size + 1 ≤ w2.heap.size := (by omega))); (try (have _ : w1.heap.size + 1 ≠ w2.heap.size := (by omega))); (try (have _ : w2.heap.size ≠ w1.heap.size + 1 := (by omega))); (try (have _ : w1.heap.size + 1 < w2.heap.size + 1 := (by omega)))))
    all_goals (refine OutQ.intro ⟨_, ?_, ?_, rfl⟩)
    all_goals repeat (first | with_reducible exact BB.out | with_reducible refine Hold.fresh (by first | rfl | (simp; done) | fail) | with_reducible refine Hold.sets4 ?_ | with_reducible refine Hold.alloc ?_ _ | with_reducible refine Hold.drew ?_ | with_reducible refine Hold.set4 ?_ (by with_reducible assumption) _ _ _ _ | with_reducible refine HoldM.alloc ?_ _ | with_reducible refine HoldM.drew ?_ | with_reducible refine HoldM.set4 ?_ (by with_reducible assumption) _ _ _ _ | with_reducible refine Blank.alloc ?_ _ | with_reducible refine Blank.drew ?_ | with_reducible refine Blank.set4 ?_ (by with_reducible assumption) _ _ _ _ | with_reducible refine below_alloc hbf ?_ _ | with_reducible refine Below.drew ?_ | with_reducible refine Below.setCell ?_ (by with_reducible assumption) _ | with_reducible refine Has.fresh (by first | rfl | (simp; done) | fail) (by first | (simp; done) | fail) | with_reducible refine Has.alloc ?_ _ | with_reducible refine Has.drew ?_ | with_reducible refine Has.keep ?_ hb2 | with_reducible refine Hold.keep ?_ hb2 | with_reducible refine HoldM.keep ?_ hb2 | with_reducible refine Blank.keep ?_ hb2 | with_reducible refine below_then hbf ?_ hb2 | with_reducible refine Has.keep ?_ hb1 | with_reducible refine Hold.keep ?_ hb1 | with_reducible refine HoldM.keep ?_ hb1 | with_reducible refine Blank.keep ?_ hb1 | with_reducible refine below_then hbf ?_ hb1)
  rintro _ W1 ⟨bs, B, hS, rfl⟩
  subst hbf
  clear BB gF gX lf lx geB S1 E1 W
  go_wp2_with fail
  have gS := hS.grown
  refine wp_region_quiet_below (by kernel_rfl) (by kernel_rfl) ?_
  repeat
    first
      | go_big_quiet_skip
      | (go_big_quiet_want; go_big_quiet_op; go_big_quiet_on)
      | (go_big_quiet_want
         go_big_quiet_op
         apply Exists.intro
         refine ⟨fun p => ?_, ?_⟩
         · (first | (go_at_call 14; with_reducible exact Calls.regrown_of (F0.out _)))
         go_big_quiet_on)
  refine wpQuiet_nil ?_
  rintro w1 ⟨p, rfl⟩
  have hb := below_regrown W1 p.d p.os
  generalize grow (redrawn W1 p.d) p.os = w1 at *
  replace B := B.trans (hb.mono B.size)
  replace hS := hS.keep hb
  clear hb gS W1
  generalize hd0 : decide (r = 0) = d0
  rcases cs.out with ⟨c1, rfl⟩ | ⟨c0, c1, rfl⟩ | ⟨c0, c1, rfl⟩
  · obtain rfl : d0 = true := by rw [← hd0]; simp [c1]
    clear hd0 c1 q0 q1
    go_wp2
    simp [bodyPost, results, Tryd.results33, go_sem]
    exact B
  all_goals obtain rfl : d0 = false := by rw [← hd0]; simp [c0]
  all_goals clear hd0 q0
  all_goals go_wp2_with fail
  all_goals have gS := hS.grown
  · have C1 : Hid (r = 1) := c1
    clear c1 cs
    refine wp_region_quiet_below (by kernel_rfl) (by kernel_rfl) ?_
    repeat
      first
        | go_big_quiet_skip
        | (go_big_quiet_want; go_big_quiet_op; go_big_quiet_on)
        | (go_big_quiet_want
           go_big_quiet_op
           apply Exists.intro
           refine ⟨fun p => ?_, ?_⟩
           · (first | (go_at_call 14; with_reducible exact Calls.regrown_of (F1.out _)))
           go_big_quiet_on)
    refine wpQuiet_nil ?_
    rintro w2 ⟨p, rfl⟩
    have hb := below_regrown w1 p.d p.os
    generalize grow (redrawn w1 p.d) p.os = w2 at *
    replace B := B.trans (hb.mono B.size)
    clear hb gS hS w1
    generalize hd1 : decide (r = 1) = d1
    obtain rfl : d1 = true := by rw [← hd1]; simp [C1.out]
    clear hd1 C1 c0 q1
    go_wp2
    simp [bodyPost, results, Tryd.results33, go_sem]
    exact B
  · have C1 : Hid (r ≠ 1) := c1
    clear c1 cs
    refine wp_region_quiet_below (by kernel_rfl) (by kernel_rfl) ?_
    repeat
      first
        | go_big_quiet_skip
        | (go_big_quiet_want; go_big_quiet_op; go_big_quiet_on)
        | (go_big_quiet_want
           go_big_quiet_op
           apply Exists.intro
           refine ⟨fun p => ?_, ?_⟩
           · (first | (go_at_call 14; with_reducible exact Calls.regrown_of (F1.out _)))
           go_big_quiet_on)
    refine wpQuiet_nil ?_
    rintro w2 ⟨p, rfl⟩
    have hb := below_regrown w1 p.d p.os
    generalize grow (redrawn w1 p.d) p.os = w2 at *
    replace B := B.trans (hb.mono B.size)
    clear hb gS hS w1
    generalize hd1 : decide (r = 1) = d1
    obtain rfl : d1 = false := by rw [← hd1]; simp [show ¬ r = 1 from C1.out]
    clear hd1 C1 c0 q1
    go_wp2
    simp [bodyPost, results, Tryd.results33, go_sem]
    exact B
end Go.Proofs.YtfpiopjlcjckeaaDoor

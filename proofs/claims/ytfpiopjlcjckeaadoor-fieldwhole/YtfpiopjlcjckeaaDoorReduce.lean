import Derived.Test.YtfpiopjlcjckeaaDoorDivAny
import Derived.Test.YtfpiopjlcjckeaaDoorQTail
import Derived.Test.YtfpiopjlcjckeaaDoorMul2
import Derived.Test.YtfpiopjlcjckeaaDoorHold
import Derived.Test.YtfpiopjlcjckeaaDoorRow2
import Derived.Deep.RegionHeld3
namespace Go.Proofs.YtfpiopjlcjckeaaDoor
open Go.RowKit Go.Sort

theorem eq_zero {m : Int} (hm : Num m) (w : World) : (Op.equalIn 10000 30 (.agg #[.int .u64 (l0 m), .int .u64 (l1 m), .int .u64 (l2 m), .int .u64 (l3 m)]) (.agg #[.int .u64 0, .int .u64 0, .int .u64 0, .int .u64 0])).run Tryd.prog w = .ok (decide (m = 0)) w := by
  have h := eq_num hm (show Num 0 from ⟨by decide, by decide⟩) w
  obtain ⟨z0, z1, z2, z3⟩ := zero_limbs
  rw [z0, z1, z2, z3] at h
  exact h

theorem cell_alloc {w : World} {o : Obj} {p : Addr} {v : Value} (h : w.cell? p = some v) : (w.alloc o).cell? p = some v := cell_keep ((Below.refl _ _).alloc (Nat.le_refl _) o) h
theorem cell_set {w : World} {b i b' i' : Nat} {u v : Value} (h : w.cell? ⟨b, i, none⟩ = some v) (ne : b' ≠ b) : (w.setCell ⟨b', i', none⟩ u).cell? ⟨b, i, none⟩ = some v := by
  rw [World.cell?_setCell_far _ _ _ _ ne]; exact h

set_option maxHeartbeats 8000000 in
theorem reduce_some {h n m r q0 q1 q2 q3 q4 q5 q6 q7 : Int} (hm : Num m) (hz : m ≠ 0)
    (dv : ∀ w, Calls Tryd.prog 46 #[.agg #[.int .u64 (l0 n), .int .u64 (l1 n), .int .u64 (l2 n), .int .u64 (l3 n), .int .u64 (l0 h), .int .u64 (l1 h), .int .u64 (l2 h), .int .u64 (l3 h)], .agg #[.int .u64 (l0 m), .int .u64 (l1 m), .int .u64 (l2 m), .int .u64 (l3 m)]] w fun e w' => e = .returned (.tuple #[.agg #[.int .u64 q0, .int .u64 q1, .int .u64 q2, .int .u64 q3, .int .u64 q4, .int .u64 q5, .int .u64 q6, .int .u64 q7], .agg #[.int .u64 (l0 r), .int .u64 (l1 r), .int .u64 (l2 r), .int .u64 (l3 r)]]) ∧ Below w.heap.size w w') (w : World) :
    Calls Tryd.prog 21 #[.agg #[.int .u64 (l0 h), .int .u64 (l1 h), .int .u64 (l2 h), .int .u64 (l3 h)], .agg #[.int .u64 (l0 n), .int .u64 (l1 n), .int .u64 (l2 n), .int .u64 (l3 n)], .agg #[.int .u64 (l0 m), .int .u64 (l1 m), .int .u64 (l2 m), .int .u64 (l3 m)]] w fun e w' => e = .returned (.tuple #[.agg #[.int .u64 (l0 r), .int .u64 (l1 r), .int .u64 (l2 r), .int .u64 (l3 r)], .int .i64 0]) ∧ Below w.heap.size w w' := by
  have he := eq_zero hm
  simp only [decide_eq_false hz] at he
  have hb := build_zero
  have DV : Hid (∀ w, Calls Tryd.prog 46 #[.agg #[.int .u64 (l0 n), .int .u64 (l1 n), .int .u64 (l2 n), .int .u64 (l3 n), .int .u64 (l0 h), .int .u64 (l1 h), .int .u64 (l2 h), .int .u64 (l3 h)], .agg #[.int .u64 (l0 m), .int .u64 (l1 m), .int .u64 (l2 m), .int .u64 (l3 m)]] w fun e w' => e = .returned (.tuple #[.agg #[.int .u64 q0, .int .u64 q1, .int .u64 q2, .int .u64 q3, .int .u64 q4, .int .u64 q5, .int .u64 q6, .int .u64 q7], .agg #[.int .u64 (l0 r), .int .u64 (l1 r), .int .u64 (l2 r), .int .u64 (l3 r)]]) ∧ Below w.heap.size w w') := dv
  clear dv
  go_enter Tryd.func21, Tryd.ntmps21
  go_wp2
  clear he hb
  refine wp_world (fun W => Hold W w.heap.size h ∧ Hold W (w.heap.size + 1) n ∧ Hold W (w.heap.size + 1 + 1) m ∧ Row W (w.heap.size + 1 + 1 + 1) [0, 0, 0, 0] ∧ Loose W (w.heap.size + 1 + 1 + 1) 4 ∧ Below w.heap.size w W) ⟨?_, ?_, ?_, ?_, ?_, ?_⟩ ?_
  · exact (((Hold.new w h _).alloc _).alloc _).alloc _
  · have := Hold.new (w.alloc (.cells #[.int .u64 (l0 h), .int .u64 (l1 h), .int .u64 (l2 h), .int .u64 (l3 h)] 30)) n 30
    simp at this
    exact (this.alloc _).alloc _
  · have := Hold.new ((w.alloc (.cells #[.int .u64 (l0 h), .int .u64 (l1 h), .int .u64 (l2 h), .int .u64 (l3 h)] 30)).alloc (.cells #[.int .u64 (l0 n), .int .u64 (l1 n), .int .u64 (l2 n), .int .u64 (l3 n)] 30)) m 30
    simp at this
    exact this.alloc _
  · have := Row.new (((w.alloc (.cells #[.int .u64 (l0 h), .int .u64 (l1 h), .int .u64 (l2 h), .int .u64 (l3 h)] 30)).alloc (.cells #[.int .u64 (l0 n), .int .u64 (l1 n), .int .u64 (l2 n), .int .u64 (l3 n)] 30)).alloc (.cells #[.int .u64 (l0 m), .int .u64 (l1 m), .int .u64 (l2 m), .int .u64 (l3 m)] 30)) [0, 0, 0, 0] 30
    simp at this
    exact this
  · have := Loose.new (((w.alloc (.cells #[.int .u64 (l0 h), .int .u64 (l1 h), .int .u64 (l2 h), .int .u64 (l3 h)] 30)).alloc (.cells #[.int .u64 (l0 n), .int .u64 (l1 n), .int .u64 (l2 n), .int .u64 (l3 n)] 30)).alloc (.cells #[.int .u64 (l0 m), .int .u64 (l1 m), .int .u64 (l2 m), .int .u64 (l3 m)] 30)) #[.int .u64 0, .int .u64 0, .int .u64 0, .int .u64 0] 30 4
    simp at this
    exact this
  · repeat (first | with_reducible exact Below.refl _ _ | with_reducible refine Below.alloc ?_ (by first | omega | (simp; done) | (simp; omega)) _)
  rintro W ⟨hH, hN, hM, hR, lR, B⟩
  have gH := hH.cells; have gN := hN.cells; have gM := hM.cells
  have gR : W.cell? ⟨w.heap.size + 1 + 1 + 1, 0, none⟩ = some (.int .u64 0) ∧ W.cell? ⟨w.heap.size + 1 + 1 + 1, 1, none⟩ = some (.int .u64 0) ∧ W.cell? ⟨w.heap.size + 1 + 1 + 1, 2, none⟩ = some (.int .u64 0) ∧ W.cell? ⟨w.heap.size + 1 + 1 + 1, 3, none⟩ = some (.int .u64 0) := ⟨hR 0 (by simp), hR 1 (by simp), hR 2 (by simp), hR 3 (by simp)⟩
  have fR : W.frozen? ⟨w.heap.size + 1 + 1 + 1, 0, none⟩ = false ∧ W.frozen? ⟨w.heap.size + 1 + 1 + 1, 1, none⟩ = false ∧ W.frozen? ⟨w.heap.size + 1 + 1 + 1, 2, none⟩ = false ∧ W.frozen? ⟨w.heap.size + 1 + 1 + 1, 3, none⟩ = false := ⟨lR 0 (by simp), lR 1 (by simp), lR 2 (by simp), lR 3 (by simp)⟩
  have lh := World.block_lt_of_cell? W _ hH.1; have ln := World.block_lt_of_cell? W _ hN.1; have lm := World.block_lt_of_cell? W _ hM.1; have lr := hR.lt (by simp)
  clear hH hN hM hR lR
  have or : w.heap.size ≤ w.heap.size + 1 + 1 + 1 := by omega
  generalize w.heap.size + 1 + 1 + 1 = br at *
  generalize w.heap.size + 1 + 1 = bm at *
  generalize w.heap.size + 1 = bn at *
  have BB : Hid (Below w.heap.size w W) := B
  clear B
  generalize hbh : w.heap.size = bh at *
  have _ : bh < W.heap.size := by omega
  have _ : bh ≤ W.heap.size := by omega
  have _ : bh < W.heap.size + 1 := by omega
  have _ : bh ≠ W.heap.size := by omega
  have _ : W.heap.size ≠ bh := by omega
  have _ : bh ≠ W.heap.size + 1 := by omega
  have _ : W.heap.size + 1 ≠ bh := by omega
  have _ : bn < W.heap.size := by omega
  have _ : bn ≤ W.heap.size := by omega
  have _ : bn < W.heap.size + 1 := by omega
  have _ : bn ≠ W.heap.size := by omega
  have _ : W.heap.size ≠ bn := by omega
  have _ : bn ≠ W.heap.size + 1 := by omega
  have _ : W.heap.size + 1 ≠ bn := by omega
  have _ : bm < W.heap.size := by omega
  have _ : bm ≤ W.heap.size := by omega
  have _ : bm < W.heap.size + 1 := by omega
  have _ : bm ≠ W.heap.size := by omega
  have _ : W.heap.size ≠ bm := by omega
  have _ : bm ≠ W.heap.size + 1 := by omega
  have _ : W.heap.size + 1 ≠ bm := by omega
  have _ : br < W.heap.size := by omega
  have _ : br ≤ W.heap.size := by omega
  have _ : br < W.heap.size + 1 := by omega
  have _ : br ≠ W.heap.size := by omega
  have _ : W.heap.size ≠ br := by omega
  have _ : br ≠ W.heap.size + 1 := by omega
  have _ : W.heap.size + 1 ≠ br := by omega
  have _ : bh < W.heap.size + 1 + 1 := by omega
  have _ : bn < W.heap.size + 1 + 1 := by omega
  have _ : bm < W.heap.size + 1 + 1 := by omega
  have _ : br < W.heap.size + 1 + 1 := by omega
  have dz : W.drew.heap.size = W.heap.size := rfl
  go_region_held3 (fun w' => w'.cell? ⟨bh, 0, none⟩ = some (.int .u64 (l0 h)) ∧ w'.cell? ⟨bh, 1, none⟩ = some (.int .u64 (l1 h)) ∧ w'.cell? ⟨bh, 2, none⟩ = some (.int .u64 (l2 h)) ∧ w'.cell? ⟨bh, 3, none⟩ = some (.int .u64 (l3 h)) ∧ w'.cell? ⟨bn, 0, none⟩ = some (.int .u64 (l0 n)) ∧ w'.cell? ⟨bn, 1, none⟩ = some (.int .u64 (l1 n)) ∧ w'.cell? ⟨bn, 2, none⟩ = some (.int .u64 (l2 n)) ∧ w'.cell? ⟨bn, 3, none⟩ = some (.int .u64 (l3 n)) ∧ w'.cell? ⟨bm, 0, none⟩ = some (.int .u64 (l0 m)) ∧ w'.cell? ⟨bm, 1, none⟩ = some (.int .u64 (l1 m)) ∧ w'.cell? ⟨bm, 2, none⟩ = some (.int .u64 (l2 m)) ∧ w'.cell? ⟨bm, 3, none⟩ = some (.int .u64 (l3 m))) (((try dsimp only); (repeat' (apply And.intro)); (all_goals repeat (first | (simp [go_sem, *]; done) | with_reducible apply cell_keep hb2 | with_reducible apply cell_keep hb1 | with_reducible apply cell_alloc | (with_reducible refine cell_set ?_ (by assumption))))))
    (first
      | (go_at_call 47; refine (join_any _ _ _ _ _ _ _ _ _).mono ?_; rintro e w1 ⟨rfl, hb1⟩; have hc1 := oldCells hb1; have hz1 := hb1.size; (try simp at hz1); (try (have := fun j => oldCells hb1 (W.heap.size) j (by first | omega | (simp; done) | (simp; omega)))); (try (have := fun j => oldCells hb1 (W.heap.size + 1) j (by first | omega | (simp; done) | (simp; omega)))); have _ : bh < w1.heap.size := (by omega); have _ : bh ≤ w1.heap.size := (by omega); have _ : bh < w1.heap.size + 1 := (by omega); have _ : bh < w1.heap.size + 1 + 1 := (by omega); have _ : bh ≠ w1.heap.size := (by omega); have _ : w1.heap.size ≠ bh := (by omega); have _ : bh ≠ w1.heap.size + 1 := (by omega); have _ : w1.heap.size + 1 ≠ bh := (by omega); have _ : bn < w1.heap.size := (by omega); have _ : bn ≤ w1.heap.size := (by omega); have _ : bn < w1.heap.size + 1 := (by omega); have _ : bn < w1.heap.size + 1 + 1 := (by omega); have _ : bn ≠ w1.heap.size := (by omega); have _ : w1.heap.size ≠ bn := (by omega); have _ : bn ≠ w1.heap.size + 1 := (by omega); have _ : w1.heap.size + 1 ≠ bn := (by omega); have _ : bm < w1.heap.size := (by omega); have _ : bm ≤ w1.heap.size := (by omega); have _ : bm < w1.heap.size + 1 := (by omega); have _ : bm < w1.heap.size + 1 + 1 := (by omega); have _ : bm ≠ w1.heap.size := (by omega); have _ : w1.heap.size ≠ bm := (by omega); have _ : bm ≠ w1.heap.size + 1 := (by omega); have _ : w1.heap.size + 1 ≠ bm := (by omega); have _ : br < w1.heap.size := (by omega); have _ : br ≤ w1.heap.size := (by omega); have _ : br < w1.heap.size + 1 := (by omega); have _ : br < w1.heap.size + 1 + 1 := (by omega); have _ : br ≠ w1.heap.size := (by omega); have _ : w1.heap.size ≠ br := (by omega); have _ : br ≠ w1.heap.size + 1 := (by omega); have _ : w1.heap.size + 1 ≠ br := (by omega); (try (have _ : W.heap.size < w1.heap.size := (by omega))); (try (have _ : W.heap.size ≤ w1.heap.size := (by omega))); (try (have _ : W.heap.size ≠ w1.heap.size := (by omega))); (try (have _ : w1.heap.size ≠ W.heap.size := (by omega))); (try (have _ : W.heap.size < w1.heap.size + 1 := (by omega))); (try (have _ : W.heap.size + 1 < w1.heap.size := (by omega))); (try (have _ : W.heap.size + 1 ≤ w1.heap.size := (by omega))); (try (have _ : W.heap.size + 1 ≠ w1.heap.size := (by omega))); (try (have _ : w1.heap.size ≠ W.heap.size + 1 := (by omega))); (try (have _ : W.heap.size + 1 < w1.heap.size + 1 := (by omega))))
      | (go_at_call 46; refine (DV.out _).mono ?_; rintro e w2 ⟨rfl, hb2⟩; have hc2 := oldCells hb2; have hz2 := hb2.size; (try simp at hz2); (try (have := fun j => oldCells hb2 (W.heap.size) j (by first | omega | (simp; done) | (simp; omega)))); (try (have := fun j => oldCells hb2 (W.heap.size + 1) j (by first | omega | (simp; done) | (simp; omega)))); (try (have := fun j => oldCells hb2 (w1.heap.size) j (by first | omega | (simp; done) | (simp; omega)))); (try (have := fun j => oldCells hb2 (w1.heap.size + 1) j (by first | omega | (simp; done) | (simp; omega)))); have _ : bh < w2.heap.size := (by omega); have _ : bh ≤ w2.heap.size := (by omega); have _ : bh < w2.heap.size + 1 := (by omega); have _ : bh < w2.heap.size + 1 + 1 := (by omega); have _ : bh ≠ w2.heap.size := (by omega); have _ : w2.heap.size ≠ bh := (by omega); have _ : bh ≠ w2.heap.size + 1 := (by omega); have _ : w2.heap.size + 1 ≠ bh := (by omega); have _ : bn < w2.heap.size := (by omega); have _ : bn ≤ w2.heap.size := (by omega); have _ : bn < w2.heap.size + 1 := (by omega); have _ : bn < w2.heap.size + 1 + 1 := (by omega); have _ : bn ≠ w2.heap.size := (by omega); have _ : w2.heap.size ≠ bn := (by omega); have _ : bn ≠ w2.heap.size + 1 := (by omega); have _ : w2.heap.size + 1 ≠ bn := (by omega); have _ : bm < w2.heap.size := (by omega); have _ : bm ≤ w2.heap.size := (by omega); have _ : bm < w2.heap.size + 1 := (by omega); have _ : bm < w2.heap.size + 1 + 1 := (by omega); have _ : bm ≠ w2.heap.size := (by omega); have _ : w2.heap.size ≠ bm := (by omega); have _ : bm ≠ w2.heap.size + 1 := (by omega); have _ : w2.heap.size + 1 ≠ bm := (by omega); have _ : br < w2.heap.size := (by omega); have _ : br ≤ w2.heap.size := (by omega); have _ : br < w2.heap.size + 1 := (by omega); have _ : br < w2.heap.size + 1 + 1 := (by omega); have _ : br ≠ w2.heap.size := (by omega); have _ : w2.heap.size ≠ br := (by omega); have _ : br ≠ w2.heap.size + 1 := (by omega); have _ : w2.heap.size + 1 ≠ br := (by omega); (try (have _ : W.heap.size < w2.heap.size := (by omega))); (try (have _ : W.heap.size ≤ w2.heap.size := (by omega))); (try (have _ : W.heap.size ≠ w2.heap.size := (by omega))); (try (have _ : w2.heap.size ≠ W.heap.size := (by omega))); (try (have _ : W.heap.size < w2.heap.size + 1 := (by omega))); (try (have _ : W.heap.size + 1 < w2.heap.size := (by omega))); (try (have _ : W.heap.size + 1 ≤ w2.heap.size := (by omega))); (try (have _ : W.heap.size + 1 ≠ w2.heap.size := (by omega))); (try (have _ : w2.heap.size ≠ W.heap.size + 1 := (by omega))); (try (have _ : W.heap.size + 1 < w2.heap.size + 1 := (by omega))); (try (have _ : w1.heap.size < w2.heap.size := (by omega))); (try (have _ : w1.heap.size ≤ w2.heap.size := (by omega))); (try (have _ : w1.heap.size ≠ w2.heap.size := (by omega))); (try (have _ : w2.heap.size ≠ w1.heap.size := (by omega))); (try (have _ : w1.heap.size < w2.heap.size + 1 := (by omega))); (try (have _ : w1.heap.size + 1 < w2.heap.size := (by omega))); (try (have _ : w1.heap.size + 1 ≤ w2.heap.size := (by omega))); (try (have _ : w1.heap.size + 1 ≠ w2.heap.size := (by omega))); (try (have _ : w2.heap.size ≠ w1.heap.size + 1 := (by omega))); (try (have _ : w1.heap.size + 1 < w2.heap.size + 1 := (by omega)))))
  all_goals go_wp2
  all_goals simp [bodyPost, results, Tryd.results21, go_sem, *]
  all_goals repeat (first | with_reducible exact BB.out | with_reducible refine Below.drew ?_ | with_reducible refine Below.setCell ?_ (by first | omega | (simp; omega)) _ | with_reducible refine Below.alloc ?_ (by first | omega | (simp; omega)) _ | with_reducible refine Below.trans ?_ (Below.mono hb2 (by first | omega | (simp; omega))) | with_reducible refine Below.trans ?_ (Below.mono hb1 (by first | omega | (simp; omega))))
end Go.Proofs.YtfpiopjlcjckeaaDoor

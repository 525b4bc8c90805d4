import Derived.Test.YtjppjieidjodfaaDoorDivide1
import Derived.Test.YtjppjieidjodfaaDoorQTail
import Derived.Test.YtjppjieidjodfaaDoorMul
import Derived.Test.YtjppjieidjodfaaDoorHold
import Derived.Test.YtjppjieidjodfaaDoorRow
import Derived.Deep.RegionHeld3
import Derived.Test.YtjppjieidjodfaaDoorCmp
import Derived.Test.YtjppjieidjodfaaDoorVars
import Derived.Deep.RegionWith
namespace Go.Proofs.YtjppjieidjodfaaDoor
open Go.RowKit Go.Sort

theorem eq_zero {m : Int} (hm : Num m) (w : World) : (Op.equalIn 10000 24 (.agg #[.int .u64 (l0 m), .int .u64 (l1 m), .int .u64 (l2 m), .int .u64 (l3 m)]) (.agg #[.int .u64 0, .int .u64 0, .int .u64 0, .int .u64 0])).run Tryd.prog w = .ok (decide (m = 0)) w := by
  have h := eq_num hm (show Num 0 from ⟨by decide, by decide⟩) w
  obtain ⟨z0, z1, z2, z3⟩ := zero_limbs
  rw [z0, z1, z2, z3] at h
  exact h

theorem cell_alloc {w : World} {o : Obj} {p : Addr} {v : Value} (h : w.cell? p = some v) : (w.alloc o).cell? p = some v := cell_keep ((Below.refl _ _).alloc (Nat.le_refl _) o) h
theorem cell_set {w : World} {b i b' i' : Nat} {u v : Value} (h : w.cell? ⟨b, i, none⟩ = some v) (ne : b' ≠ b) : (w.setCell ⟨b', i', none⟩ u).cell? ⟨b, i, none⟩ = some v := by
  rw [World.cell?_setCell_far _ _ _ _ ne]; exact h

set_option maxHeartbeats 8000000 in
theorem reduce_some {h n m r q0 q1 q2 q3 q4 q5 q6 q7 : Int} (hm : Num m) (hz : m ≠ 0)
    (dv : ∀ w, Calls Tryd.prog 79 #[.agg #[.int .u64 (l0 n), .int .u64 (l1 n), .int .u64 (l2 n), .int .u64 (l3 n), .int .u64 (l0 h), .int .u64 (l1 h), .int .u64 (l2 h), .int .u64 (l3 h)], .agg #[.int .u64 (l0 m), .int .u64 (l1 m), .int .u64 (l2 m), .int .u64 (l3 m)]] w fun e w' => e = .returned (.tuple #[.agg #[.int .u64 q0, .int .u64 q1, .int .u64 q2, .int .u64 q3, .int .u64 q4, .int .u64 q5, .int .u64 q6, .int .u64 q7], .agg #[.int .u64 (l0 r), .int .u64 (l1 r), .int .u64 (l2 r), .int .u64 (l3 r)]]) ∧ Below w.heap.size w w') (w : World) :
    Calls Tryd.prog 57 #[.agg #[.int .u64 (l0 h), .int .u64 (l1 h), .int .u64 (l2 h), .int .u64 (l3 h)], .agg #[.int .u64 (l0 n), .int .u64 (l1 n), .int .u64 (l2 n), .int .u64 (l3 n)], .agg #[.int .u64 (l0 m), .int .u64 (l1 m), .int .u64 (l2 m), .int .u64 (l3 m)]] w fun e w' => e = .returned (.tuple #[.agg #[.int .u64 (l0 r), .int .u64 (l1 r), .int .u64 (l2 r), .int .u64 (l3 r)], .int .i64 0]) ∧ Below w.heap.size w w' := by
  have he := eq_zero hm
  simp only [decide_eq_false hz] at he
  have hb := build_zero
  have DV : Hid (∀ w, Calls Tryd.prog 79 #[.agg #[.int .u64 (l0 n), .int .u64 (l1 n), .int .u64 (l2 n), .int .u64 (l3 n), .int .u64 (l0 h), .int .u64 (l1 h), .int .u64 (l2 h), .int .u64 (l3 h)], .agg #[.int .u64 (l0 m), .int .u64 (l1 m), .int .u64 (l2 m), .int .u64 (l3 m)]] w fun e w' => e = .returned (.tuple #[.agg #[.int .u64 q0, .int .u64 q1, .int .u64 q2, .int .u64 q3, .int .u64 q4, .int .u64 q5, .int .u64 q6, .int .u64 q7], .agg #[.int .u64 (l0 r), .int .u64 (l1 r), .int .u64 (l2 r), .int .u64 (l3 r)]]) ∧ Below w.heap.size w w') := dv
  clear dv
  go_enter Tryd.func57, Tryd.ntmps57
  go_wp2
  clear he hb
  refine wp_world (fun W => Hold W w.heap.size h ∧ Hold W (w.heap.size + 1) n ∧ Hold W (w.heap.size + 1 + 1) m ∧ Row W (w.heap.size + 1 + 1 + 1) [0, 0, 0, 0] ∧ Loose W (w.heap.size + 1 + 1 + 1) 4 ∧ Below w.heap.size w W) ⟨?_, ?_, ?_, ?_, ?_, ?_⟩ ?_
  · exact (((Hold.new w h _).alloc _).alloc _).alloc _
  · have := Hold.new (w.alloc (.cells #[.int .u64 (l0 h), .int .u64 (l1 h), .int .u64 (l2 h), .int .u64 (l3 h)] 24)) n 24
    simp at this
    exact (this.alloc _).alloc _
  · have := Hold.new ((w.alloc (.cells #[.int .u64 (l0 h), .int .u64 (l1 h), .int .u64 (l2 h), .int .u64 (l3 h)] 24)).alloc (.cells #[.int .u64 (l0 n), .int .u64 (l1 n), .int .u64 (l2 n), .int .u64 (l3 n)] 24)) m 24
    simp at this
    exact this.alloc _
  · have := Row.new (((w.alloc (.cells #[.int .u64 (l0 h), .int .u64 (l1 h), .int .u64 (l2 h), .int .u64 (l3 h)] 24)).alloc (.cells #[.int .u64 (l0 n), .int .u64 (l1 n), .int .u64 (l2 n), .int .u64 (l3 n)] 24)).alloc (.cells #[.int .u64 (l0 m), .int .u64 (l1 m), .int .u64 (l2 m), .int .u64 (l3 m)] 24)) [0, 0, 0, 0] 24
    simp at this
    exact this
  · have := Loose.new (((w.alloc (.cells #[.int .u64 (l0 h), .int .u64 (l1 h), .int .u64 (l2 h), .int .u64 (l3 h)] 24)).alloc (.cells #[.int .u64 (l0 n), .int .u64 (l1 n), .int .u64 (l2 n), .int .u64 (l3 n)] 24)).alloc (.cells #[.int .u64 (l0 m), .int .u64 (l1 m), .int .u64 (l2 m), .int .u64 (l3 m)] 24)) #[.int .u64 0, .int .u64 0, .int .u64 0, .int .u64 0] 24 4
    simp at this
    exact this
  · repeat (first | with_reducible exact Below.refl _ _ | with_reducible refine Below.alloc ?_ (by first | omega | (simp; done) | (simp; omega)) _)
  rintro W ⟨hH, hN, hM, hR, lR, B⟩
  have gH := hH.cells; have gN := hN.cells; have gM := hM.cells
  have gR : W.cell? ⟨w.heap.size + 1 + 1 + 1, 0, none⟩ = some (.int .u64 0) ∧ W.cell? ⟨w.heap.size + 1 + 1 + 1, 1, none⟩ = some (.int .u64 0) ∧ W.cell? ⟨w.heap.size + 1 + 1 + 1, 2, none⟩ = some (.int .u64 0) ∧ W.cell? ⟨w.heap.size + 1 + 1 + 1, 3, none⟩ = some (.int .u64 0) := ⟨hR 0 (by simp), hR 1 (by simp), hR 2 (by simp), hR 3 (by simp)⟩
  have fR : W.frozen? ⟨w.heap.size + 1 + 1 + 1, 0, none⟩ = false ∧ W.frozen? ⟨w.heap.size + 1 + 1 + 1, 1, none⟩ = false ∧ W.frozen? ⟨w.heap.size + 1 + 1 + 1, 2, none⟩ = false ∧ W.frozen? ⟨w.heap.size + 1 + 1 + 1, 3, none⟩ = false := ⟨lR 0 (by simp), lR 1 (by simp), lR 2 (by simp), lR 3 (by simp)⟩
  have lh := World.block_lt_of_cell? W _ hH.1; have ln := World.block_lt_of_cell? W _ hN.1; have lm := World.block_lt_of_cell? W _ hM.1; have lr := hR.lt (by simp)
  clear hH hN hM hR lR
  have or : w.heap.size ≤ w.heap.size + 1 + 1 + 1 := by omega
  generalize w.heap.size + 1 + 1 + 1 = br at *
  generalize w.heap.size + 1 + 1 = bm at *
  generalize w.heap.size + 1 = bn at *
  have BB : Hid (Below w.heap.size w W) := B
  clear B
  generalize hbh : w.heap.size = bh at *
  have _ : bh < W.heap.size := by omega
  have _ : bh ≤ W.heap.size := by omega
  have _ : bh < W.heap.size + 1 := by omega
  have _ : bh ≠ W.heap.size := by omega
  have _ : W.heap.size ≠ bh := by omega
  have _ : bh ≠ W.heap.size + 1 := by omega
  have _ : W.heap.size + 1 ≠ bh := by omega
  have _ : bn < W.heap.size := by omega
  have _ : bn ≤ W.heap.size := by omega
  have _ : bn < W.heap.size + 1 := by omega
  have _ : bn ≠ W.heap.size := by omega
  have _ : W.heap.size ≠ bn := by omega
  have _ : bn ≠ W.heap.size + 1 := by omega
  have _ : W.heap.size + 1 ≠ bn := by omega
  have _ : bm < W.heap.size := by omega
  have _ : bm ≤ W.heap.size := by omega
  have _ : bm < W.heap.size + 1 := by omega
  have _ : bm ≠ W.heap.size := by omega
  have _ : W.heap.size ≠ bm := by omega
  have _ : bm ≠ W.heap.size + 1 := by omega
  have _ : W.heap.size + 1 ≠ bm := by omega
  have _ : br < W.heap.size := by omega
  have _ : br ≤ W.heap.size := by omega
  have _ : br < W.heap.size + 1 := by omega
  have _ : br ≠ W.heap.size := by omega
  have _ : W.heap.size ≠ br := by omega
  have _ : br ≠ W.heap.size + 1 := by omega
  have _ : W.heap.size + 1 ≠ br := by omega
  have _ : bh < W.heap.size + 1 + 1 := by omega
  have _ : bn < W.heap.size + 1 + 1 := by omega
  have _ : bm < W.heap.size + 1 + 1 := by omega
  have _ : br < W.heap.size + 1 + 1 := by omega
  have dz : W.drew.heap.size = W.heap.size := rfl
  go_region_held3 (fun w' => w'.cell? ⟨bh, 0, none⟩ = some (.int .u64 (l0 h)) ∧ w'.cell? ⟨bh, 1, none⟩ = some (.int .u64 (l1 h)) ∧ w'.cell? ⟨bh, 2, none⟩ = some (.int .u64 (l2 h)) ∧ w'.cell? ⟨bh, 3, none⟩ = some (.int .u64 (l3 h)) ∧ w'.cell? ⟨bn, 0, none⟩ = some (.int .u64 (l0 n)) ∧ w'.cell? ⟨bn, 1, none⟩ = some (.int .u64 (l1 n)) ∧ w'.cell? ⟨bn, 2, none⟩ = some (.int .u64 (l2 n)) ∧ w'.cell? ⟨bn, 3, none⟩ = some (.int .u64 (l3 n)) ∧ w'.cell? ⟨bm, 0, none⟩ = some (.int .u64 (l0 m)) ∧ w'.cell? ⟨bm, 1, none⟩ = some (.int .u64 (l1 m)) ∧ w'.cell? ⟨bm, 2, none⟩ = some (.int .u64 (l2 m)) ∧ w'.cell? ⟨bm, 3, none⟩ = some (.int .u64 (l3 m))) (((try dsimp only); (repeat' (apply And.intro)); (all_goals repeat (first | (simp [go_sem, *]; done) | with_reducible apply cell_keep hb2 | with_reducible apply cell_keep hb1 | with_reducible apply cell_alloc | (with_reducible refine cell_set ?_ (by assumption))))))
    (first
      | (go_at_call 80; refine (join_any _ _ _ _ _ _ _ _ _).mono ?_; rintro e w1 ⟨rfl, hb1⟩; have hc1 := oldCells hb1; have hz1 := hb1.size; (try simp at hz1); (try (have := fun j => oldCells hb1 (W.heap.size) j (by first | omega | (simp; done) | (simp; omega)))); (try (have := fun j => oldCells hb1 (W.heap.size + 1) j (by first | omega | (simp; done) | (simp; omega)))); have _ : bh < w1.heap.size := (by omega); have _ : bh ≤ w1.heap.size := (by omega); have _ : bh < w1.heap.size + 1 := (by omega); have _ : bh < w1.heap.size + 1 + 1 := (by omega); have _ : bh ≠ w1.heap.size := (by omega); have _ : w1.heap.size ≠ bh := (by omega); have _ : bh ≠ w1.heap.size + 1 := (by omega); have _ : w1.heap.size + 1 ≠ bh := (by omega); have _ : bn < w1.heap.size := (by omega); have _ : bn ≤ w1.heap.size := (by omega); have _ : bn < w1.heap.size + 1 := (by omega); have _ : bn < w1.heap.size + 1 + 1 := (by omega); have _ : bn ≠ w1.heap.size := (by omega); have _ : w1.heap.size ≠ bn := (by omega); have _ : bn ≠ w1.heap.size + 1 := (by omega); have _ : w1.heap.size + 1 ≠ bn := (by omega); have _ : bm < w1.heap.size := (by omega); have _ : bm ≤ w1.heap.size := (by omega); have _ : bm < w1.heap.size + 1 := (by omega); have _ : bm < w1.heap.size + 1 + 1 := (by omega); have _ : bm ≠ w1.heap.size := (by omega); have _ : w1.heap.size ≠ bm := (by omega); have _ : bm ≠ w1.heap.size + 1 := (by omega); have _ : w1.heap.size + 1 ≠ bm := (by omega); have _ : br < w1.heap.size := (by omega); have _ : br ≤ w1.heap.size := (by omega); have _ : br < w1.heap.size + 1 := (by omega); have _ : br < w1.heap.size + 1 + 1 := (by omega); have _ : br ≠ w1.heap.size := (by omega); have _ : w1.heap.size ≠ br := (by omega); have _ : br ≠ w1.heap.size + 1 := (by omega); have _ : w1.heap.size + 1 ≠ br := (by omega); (try (have _ : W.heap.size < w1.heap.size := (by omega))); (try (have _ : W.heap.size ≤ w1.heap.size := (by omega))); (try (have _ : W.heap.size ≠ w1.heap.size := (by omega))); (try (have _ : w1.heap.size ≠ W.heap.size := (by omega))); (try (have _ : W.heap.size < w1.heap.size + 1 := (by omega))); (try (have _ : W.heap.size + 1 < w1.heap.size := (by omega))); (try (have _ : W.heap.size + 1 ≤ w1.heap.size := (by omega))); (try (have _ : W.heap.size + 1 ≠ w1.heap.size := (by omega))); (try (have _ : w1.heap.size ≠ W.heap.size + 1 := (by omega))); (try (have _ : W.heap.size + 1 < w1.heap.size + 1 := (by omega))))
      | (go_at_call 79; refine (DV.out _).mono ?_; rintro e w2 ⟨rfl, hb2⟩; have hc2 := oldCells hb2; have hz2 := hb2.size; (try simp at hz2); (try (have := fun j => oldCells hb2 (W.heap.size) j (by first | omega | (simp; done) | (simp; omega)))); (try (have := fun j => oldCells hb2 (W.heap.size + 1) j (by first | omega | (simp; done) | (simp; omega)))); (try (have := fun j => oldCells hb2 (w1.heap.size) j (by first | omega | (simp; done) | (simp; omega)))); (try (have := fun j => oldCells hb2 (w1.heap.size + 1) j (by first | omega | (simp; done) | (simp; omega)))); have _ : bh < w2.heap.size := (by omega); have _ : bh ≤ w2.heap.size := (by omega); have _ : bh < w2.heap.size + 1 := (by omega); have _ : bh < w2.heap.size + 1 + 1 := (by omega); have _ : bh ≠ w2.heap.size := (by omega); have _ : w2.heap.size ≠ bh := (by omega); have _ : bh ≠ w2.heap.size + 1 := (by omega); have _ : w2.heap.size + 1 ≠ bh := (by omega); have _ : bn < w2.heap.size := (by omega); have _ : bn ≤ w2.heap.size := (by omega); have _ : bn < w2.heap.size + 1 := (by omega); have _ : bn < w2.heap.size + 1 + 1 := (by omega); have _ : bn ≠ w2.heap.size := (by omega); have _ : w2.heap.size ≠ bn := (by omega); have _ : bn ≠ w2.heap.size + 1 := (by omega); have _ : w2.heap.size + 1 ≠ bn := (by omega); have _ : bm < w2.heap.size := (by omega); have _ : bm ≤ w2.heap.size := (by omega); have _ : bm < w2.heap.size + 1 := (by omega); have _ : bm < w2.heap.size + 1 + 1 := (by omega); have _ : bm ≠ w2.heap.size := (by omega); have _ : w2.heap.size ≠ bm := (by omega); have _ : bm ≠ w2.heap.size + 1 := (by omega); have _ : w2.heap.size + 1 ≠ bm := (by omega); have _ : br < w2.heap.size := (by omega); have _ : br ≤ w2.heap.size := (by omega); have _ : br < w2.heap.size + 1 := (by omega); have _ : br < w2.heap.size + 1 + 1 := (by omega); have _ : br ≠ w2.heap.size := (by omega); have _ : w2.heap.size ≠ br := (by omega); have _ : br ≠ w2.heap.size + 1 := (by omega); have _ : w2.heap.size + 1 ≠ br := (by omega); (try (have _ : W.heap.size < w2.heap.size := (by omega))); (try (have _ : W.heap.size ≤ w2.heap.size := (by omega))); (try (have _ : W.heap.size ≠ w2.heap.size := (by omega))); (try (have _ : w2.heap.size ≠ W.heap.size := (by omega))); (try (have _ : W.heap.size < w2.heap.size + 1 := (by omega))); (try (have _ : W.heap.size + 1 < w2.heap.size := (by omega))); (try (have _ : W.heap.size + 1 ≤ w2.heap.size := (by omega))); (try (have _ : W.heap.size + 1 ≠ w2.heap.size := (by omega))); (try (have _ : w2.heap.size ≠ W.heap.size + 1 := (by omega))); (try (have _ : W.heap.size + 1 < w2.heap.size + 1 := (by omega))); (try (have _ : w1.heap.size < w2.heap.size := (by omega))); (try (have _ : w1.heap.size ≤ w2.heap.size := (by omega))); (try (have _ : w1.heap.size ≠ w2.heap.size := (by omega))); (try (have _ : w2.heap.size ≠ w1.heap.size := (by omega))); (try (have _ : w1.heap.size < w2.heap.size + 1 := (by omega))); (try (have _ : w1.heap.size + 1 < w2.heap.size := (by omega))); (try (have _ : w1.heap.size + 1 ≤ w2.heap.size := (by omega))); (try (have _ : w1.heap.size + 1 ≠ w2.heap.size := (by omega))); (try (have _ : w2.heap.size ≠ w1.heap.size + 1 := (by omega))); (try (have _ : w1.heap.size + 1 < w2.heap.size + 1 := (by omega)))))
  all_goals go_wp2
  all_goals simp [bodyPost, results, Tryd.results57, go_sem, *]
  all_goals repeat (first | with_reducible exact BB.out | with_reducible refine Below.drew ?_ | with_reducible refine Below.setCell ?_ (by first | omega | (simp; omega)) _ | with_reducible refine Below.alloc ?_ (by first | omega | (simp; omega)) _ | with_reducible refine Below.trans ?_ (Below.mono hb2 (by first | omega | (simp; omega))) | with_reducible refine Below.trans ?_ (Below.mono hb1 (by first | omega | (simp; omega))))
end Go.Proofs.YtjppjieidjodfaaDoor

namespace Go.Proofs.YtjppjieidjodfaaDoor
open Go.RowKit Go.Sort

theorem val_two {a b : Int} (ha : Num a) (hb : Num b) : val [l0 a, l1 a, l2 a, l3 a, l0 b, l1 b, l2 b, l3 b] = a + b * 115792089237316195423570985008687907853269984665640564039457584007913129639936 := by
  have h1 := num_l ha; have h2 := num_l hb
  unfold num at h1 h2
  simp only [val]
  omega

theorem reduce_any {h n m : Int} (hh : Num h) (hn : Num n) (hm : Num m) (hz : m ≠ 0) (w : World) :
    Calls Tryd.prog 57 #[.agg #[.int .u64 (l0 h), .int .u64 (l1 h), .int .u64 (l2 h), .int .u64 (l3 h)], .agg #[.int .u64 (l0 n), .int .u64 (l1 n), .int .u64 (l2 n), .int .u64 (l3 n)], .agg #[.int .u64 (l0 m), .int .u64 (l1 m), .int .u64 (l2 m), .int .u64 (l3 m)]] w fun e w' => e = .returned (.tuple #[.agg #[.int .u64 (l0 ((n + h * 115792089237316195423570985008687907853269984665640564039457584007913129639936) % m)), .int .u64 (l1 ((n + h * 115792089237316195423570985008687907853269984665640564039457584007913129639936) % m)), .int .u64 (l2 ((n + h * 115792089237316195423570985008687907853269984665640564039457584007913129639936) % m)), .int .u64 (l3 ((n + h * 115792089237316195423570985008687907853269984665640564039457584007913129639936) % m))], .int .i64 0]) ∧ Below w.heap.size w w' := by
  obtain ⟨q0, q1, q2, q3, q4, q5, q6, q7, wq, vq, dv⟩ := divide_any (l0_word n) (l1_word n) (l2_word n) (l3_word n) (l0_word h) (l1_word h) (l2_word h) (l3_word h) hm hz
  rw [val_two hn hh] at dv
  exact reduce_some hm hz dv w

theorem carN_word {n m : Int} (hn : Num n) (hm : Num m) : Word (carN n m) := by
  obtain ⟨_, _⟩ := hn; obtain ⟨_, _⟩ := hm
  unfold carN Word
  omega

set_option maxHeartbeats 2000000 in
theorem addMod_walk {n m k r er : Int} (hn : Num n) (hm : Num m) (RD : Hid (∀ w, Calls Tryd.prog 57 #[.agg #[.int .u64 (l0 (carN n m)), .int .u64 (l1 (carN n m)), .int .u64 (l2 (carN n m)), .int .u64 (l3 (carN n m))], .agg #[.int .u64 (l0 (sumN n m)), .int .u64 (l1 (sumN n m)), .int .u64 (l2 (sumN n m)), .int .u64 (l3 (sumN n m))], .agg #[.int .u64 (l0 k), .int .u64 (l1 k), .int .u64 (l2 k), .int .u64 (l3 k)]] w fun e w' => e = .returned (.tuple #[.agg #[.int .u64 (l0 r), .int .u64 (l1 r), .int .u64 (l2 r), .int .u64 (l3 r)], .int .i64 er]) ∧ Below w.heap.size w w')) (w : World) :
    Calls Tryd.prog 32 #[.agg #[.int .u64 (l0 n), .int .u64 (l1 n), .int .u64 (l2 n), .int .u64 (l3 n)], .agg #[.int .u64 (l0 m), .int .u64 (l1 m), .int .u64 (l2 m), .int .u64 (l3 m)], .agg #[.int .u64 (l0 k), .int .u64 (l1 k), .int .u64 (l2 k), .int .u64 (l3 k)]] w fun e' w' => e' = .returned (.tuple #[.agg #[.int .u64 (l0 r), .int .u64 (l1 r), .int .u64 (l2 r), .int .u64 (l3 r)], .int .i64 er]) ∧ Below w.heap.size w w' := by
  have wc := carN_word hn hm
  go_enter Tryd.func32, Tryd.ntmps32
  go_wp2_with fail
  refine calls_world (fun W => Below w.heap.size w W ∧ Hold W (w.heap.size + 1 + 1) k ∧ Blank W (w.heap.size + 1 + 1 + 1)) ⟨?_, (Hold.fresh (by simp)).alloc _, Blank.new (by simp)⟩ ?_
  · repeat (first | with_reducible exact Below.refl _ _ | with_reducible refine Below.alloc ?_ (by first | omega | (simp; done) | (simp; omega)) _)
  rintro W ⟨B, hM, hR⟩
  have o1 : w.heap.size ≤ w.heap.size + 1 + 1 + 1 := by omega
  have c2 : w.heap.size + 1 + 1 + 1 ≠ w.heap.size + 1 + 1 := by omega
  generalize w.heap.size + 1 + 1 + 1 = br at *
  generalize w.heap.size + 1 + 1 = bm at *
  with_reducible refine (add_any hn hm _).mono ?_
  rintro e w1 ⟨rfl, hb⟩
  replace B := B.trans (hb.mono B.size)
  replace hR := hR.keep hb; replace hM := hM.keep hb
  clear hb W
  go_wp2_with fail
  refine wp_world (fun W => Below w.heap.size w W ∧ Hold W bm k ∧ Blank W br ∧ Hold W w1.heap.size (sumN n m)) ⟨B.alloc B.size _, hM.alloc _, hR.alloc _, Hold.new _ _ _⟩ ?_
  have c1 : br ≠ w1.heap.size := by have := hR.1.lt (by simp); omega
  clear B hM hR
  rintro W ⟨B, hM, hR, hS⟩
  generalize w1.heap.size = bs at *
  have gM := hM.cells; have gS := hS.cells; have gR := hR.1.all4; have fR := hR.2.all4
  have lm := World.block_lt_of_cell? W _ hM.1; have ls := World.block_lt_of_cell? W _ hS.1; have lr := hR.1.lt (by simp)
  have BB : Hid (Below w.heap.size w W) := B
  have geB := B.size
  clear B hM hR hS
  have c1' := c1.symm; have c2' := c2.symm
  have _ : bm < W.heap.size := by omega
  have _ : bm ≤ W.heap.size := by omega
  have _ : bm < W.heap.size + 1 := by omega
  have _ : bm < W.heap.size + 1 + 1 := by omega
  have _ : bm ≠ W.heap.size := by omega
  have _ : W.heap.size ≠ bm := by omega
  have _ : bm ≠ W.heap.size + 1 := by omega
  have _ : W.heap.size + 1 ≠ bm := by omega
  have _ : br < W.heap.size := by omega
  have _ : br ≤ W.heap.size := by omega
  have _ : br < W.heap.size + 1 := by omega
  have _ : br < W.heap.size + 1 + 1 := by omega
  have _ : br ≠ W.heap.size := by omega
  have _ : W.heap.size ≠ br := by omega
  have _ : br ≠ W.heap.size + 1 := by omega
  have _ : W.heap.size + 1 ≠ br := by omega
  have _ : bs < W.heap.size := by omega
  have _ : bs ≤ W.heap.size := by omega
  have _ : bs < W.heap.size + 1 := by omega
  have _ : bs < W.heap.size + 1 + 1 := by omega
  have _ : bs ≠ W.heap.size := by omega
  have _ : W.heap.size ≠ bs := by omega
  have _ : bs ≠ W.heap.size + 1 := by omega
  have _ : W.heap.size + 1 ≠ bs := by omega
  have dz : W.drew.heap.size = W.heap.size := rfl
  go_region_held3 (fun w' => w'.cell? ⟨bm, 0, none⟩ = some (.int .u64 (l0 k)) ∧ w'.cell? ⟨bm, 1, none⟩ = some (.int .u64 (l1 k)) ∧ w'.cell? ⟨bm, 2, none⟩ = some (.int .u64 (l2 k)) ∧ w'.cell? ⟨bm, 3, none⟩ = some (.int .u64 (l3 k)) ∧ w'.cell? ⟨bs, 0, none⟩ = some (.int .u64 (l0 (sumN n m))) ∧ w'.cell? ⟨bs, 1, none⟩ = some (.int .u64 (l1 (sumN n m))) ∧ w'.cell? ⟨bs, 2, none⟩ = some (.int .u64 (l2 (sumN n m))) ∧ w'.cell? ⟨bs, 3, none⟩ = some (.int .u64 (l3 (sumN n m)))) (((try dsimp only); (repeat' (apply And.intro)); (all_goals repeat (first | with_reducible assumption | with_reducible apply cell_keep hb2 | with_reducible apply cell_keep hb1 | with_reducible apply cell_alloc | (with_reducible refine cell_set ?_ (by with_reducible assumption)) | (simp [go_sem, *]; done)))))
    (first
      | (go_at_call 29; with_reducible refine (from_any wc _).mono ?_; rintro e w1 ⟨rfl, hb1⟩; have hc1 := oldCells hb1; have hz1 := hb1.size; (try simp at hz1); (try (have := fun j => oldCells hb1 (W.heap.size) j (by first | omega | (simp; done) | (simp; omega)))); (try (have := fun j => oldCells hb1 (W.heap.size + 1) j (by first | omega | (simp; done) | (simp; omega)))); have _ : bm < w1.heap.size := (by omega); have _ : bm ≤ w1.heap.size := (by omega); have _ : bm < w1.heap.size + 1 := (by omega); have _ : bm < w1.heap.size + 1 + 1 := (by omega); have _ : bm ≠ w1.heap.size := (by omega); have _ : w1.heap.size ≠ bm := (by omega); have _ : bm ≠ w1.heap.size + 1 := (by omega); have _ : w1.heap.size + 1 ≠ bm := (by omega); have _ : br < w1.heap.size := (by omega); have _ : br ≤ w1.heap.size := (by omega); have _ : br < w1.heap.size + 1 := (by omega); have _ : br < w1.heap.size + 1 + 1 := (by omega); have _ : br ≠ w1.heap.size := (by omega); have _ : w1.heap.size ≠ br := (by omega); have _ : br ≠ w1.heap.size + 1 := (by omega); have _ : w1.heap.size + 1 ≠ br := (by omega); have _ : bs < w1.heap.size := (by omega); have _ : bs ≤ w1.heap.size := (by omega); have _ : bs < w1.heap.size + 1 := (by omega); have _ : bs < w1.heap.size + 1 + 1 := (by omega); have _ : bs ≠ w1.heap.size := (by omega); have _ : w1.heap.size ≠ bs := (by omega); have _ : bs ≠ w1.heap.size + 1 := (by omega); have _ : w1.heap.size + 1 ≠ bs := (by omega); (try (have _ : W.heap.size < w1.heap.size := (by omega))); (try (have _ : W.heap.size ≤ w1.heap.size := (by omega))); (try (have _ : W.heap.size ≠ w1.heap.size := (by omega))); (try (have _ : w1.heap.size ≠ W.heap.size := (by omega))); (try (have _ : W.heap.size < w1.heap.size + 1 := (by omega))); (try (have _ : W.heap.size + 1 < w1.heap.size := (by omega))); (try (have _ : W.heap.size + 1 ≤ w1.heap.size := (by omega))); (try (have _ : W.heap.size + 1 ≠ w1.heap.size := (by omega))); (try (have _ : w1.heap.size ≠ W.heap.size + 1 := (by omega))); (try (have _ : W.heap.size + 1 < w1.heap.size + 1 := (by omega))))
      | (go_at_call 57; with_reducible refine (RD.out _).mono ?_; rintro e w2 ⟨rfl, hb2⟩; have hc2 := oldCells hb2; have hz2 := hb2.size; (try simp at hz2); (try (have := fun j => oldCells hb2 (W.heap.size) j (by first | omega | (simp; done) | (simp; omega)))); (try (have := fun j => oldCells hb2 (W.heap.size + 1) j (by first | omega | (simp; done) | (simp; omega)))); (try (have := fun j => oldCells hb2 (w1.heap.size) j (by first | omega | (simp; done) | (simp; omega)))); (try (have := fun j => oldCells hb2 (w1.heap.size + 1) j (by first | omega | (simp; done) | (simp; omega)))); have _ : bm < w2.heap.size := (by omega); have _ : bm ≤ w2.heap.size := (by omega); have _ : bm < w2.heap.size + 1 := (by omega); have _ : bm < w2.heap.size + 1 + 1 := (by omega); have _ : bm ≠ w2.heap.size := (by omega); have _ : w2.heap.size ≠ bm := (by omega); have _ : bm ≠ w2.heap.size + 1 := (by omega); have _ : w2.heap.size + 1 ≠ bm := (by omega); have _ : br < w2.heap.size := (by omega); have _ : br ≤ w2.heap.size := (by omega); have _ : br < w2.heap.size + 1 := (by omega); have _ : br < w2.heap.size + 1 + 1 := (by omega); have _ : br ≠ w2.heap.size := (by omega); have _ : w2.heap.size ≠ br := (by omega); have _ : br ≠ w2.heap.size + 1 := (by omega); have _ : w2.heap.size + 1 ≠ br := (by omega); have _ : bs < w2.heap.size := (by omega); have _ : bs ≤ w2.heap.size := (by omega); have _ : bs < w2.heap.size + 1 := (by omega); have _ : bs < w2.heap.size + 1 + 1 := (by omega); have _ : bs ≠ w2.heap.size := (by omega); have _ : w2.heap.size ≠ bs := (by omega); have _ : bs ≠ w2.heap.size + 1 := (by omega); have _ : w2.heap.size + 1 ≠ bs := (by omega); (try (have _ : W.heap.size < w2.heap.size := (by omega))); (try (have _ : W.heap.size ≤ w2.heap.size := (by omega))); (try (have _ : W.heap.size ≠ w2.heap.size := (by omega))); (try (have _ : w2.heap.size ≠ W.heap.size := (by omega))); (try (have _ : W.heap.size < w2.heap.size + 1 := (by omega))); (try (have _ : W.heap.size + 1 < w2.heap.size := (by omega))); (try (have _ : W.heap.size + 1 ≤ w2.heap.size := (by omega))); (try (have _ : W.heap.size + 1 ≠ w2.heap.size := (by omega))); (try (have _ : w2.heap.size ≠ W.heap.size + 1 := (by omega))); (try (have _ : W.heap.size + 1 < w2.heap.size + 1 := (by omega))); (try (have _ : w1.heap.size < w2.heap.size := (by omega))); (try (have _ : w1.heap.size ≤ w2.heap.size := (by omega))); (try (have _ : w1.heap.size ≠ w2.heap.size := (by omega))); (try (have _ : w2.heap.size ≠ w1.heap.size := (by omega))); (try (have _ : w1.heap.size < w2.heap.size + 1 := (by omega))); (try (have _ : w1.heap.size + 1 < w2.heap.size := (by omega))); (try (have _ : w1.heap.size + 1 ≤ w2.heap.size := (by omega))); (try (have _ : w1.heap.size + 1 ≠ w2.heap.size := (by omega))); (try (have _ : w2.heap.size ≠ w1.heap.size + 1 := (by omega))); (try (have _ : w1.heap.size + 1 < w2.heap.size + 1 := (by omega)))))
  all_goals go_wp2
  all_goals simp [bodyPost, results, Tryd.results32, go_sem, *]
  all_goals repeat (first | with_reducible exact BB.out | with_reducible refine Below.drew ?_ | with_reducible refine Below.setCell ?_ (by with_reducible assumption) _ | with_reducible refine Below.trans ?_ (Below.mono hb2 (by omega)) | with_reducible refine Below.trans ?_ (Below.mono hb1 (by omega)))

end Go.Proofs.YtjppjieidjodfaaDoor

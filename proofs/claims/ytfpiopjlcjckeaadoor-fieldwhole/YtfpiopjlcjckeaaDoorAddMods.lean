import Derived.Test.YtfpiopjlcjckeaaDoorReduce
import Derived.Test.YtfpiopjlcjckeaaDoorCmp
import Derived.Test.YtfpiopjlcjckeaaDoorVars
import Derived.Deep.RegionWith
namespace Go.Proofs.YtfpiopjlcjckeaaDoor
open Go.RowKit Go.Sort

theorem val_two {a b : Int} (ha : Num a) (hb : Num b) : val [l0 a, l1 a, l2 a, l3 a, l0 b, l1 b, l2 b, l3 b] = a + b * 115792089237316195423570985008687907853269984665640564039457584007913129639936 := by
  have h1 := num_l ha; have h2 := num_l hb
  unfold num at h1 h2
  simp only [val]
  omega

theorem reduce_any {h n m : Int} (hh : Num h) (hn : Num n) (hm : Num m) (hz : m ≠ 0) (w : World) :
    Calls Tryd.prog 21 #[.agg #[.int .u64 (l0 h), .int .u64 (l1 h), .int .u64 (l2 h), .int .u64 (l3 h)], .agg #[.int .u64 (l0 n), .int .u64 (l1 n), .int .u64 (l2 n), .int .u64 (l3 n)], .agg #[.int .u64 (l0 m), .int .u64 (l1 m), .int .u64 (l2 m), .int .u64 (l3 m)]] w fun e w' => e = .returned (.tuple #[.agg #[.int .u64 (l0 ((n + h * 115792089237316195423570985008687907853269984665640564039457584007913129639936) % m)), .int .u64 (l1 ((n + h * 115792089237316195423570985008687907853269984665640564039457584007913129639936) % m)), .int .u64 (l2 ((n + h * 115792089237316195423570985008687907853269984665640564039457584007913129639936) % m)), .int .u64 (l3 ((n + h * 115792089237316195423570985008687907853269984665640564039457584007913129639936) % m))], .int .i64 0]) ∧ Below w.heap.size w w' := by
  obtain ⟨q0, q1, q2, q3, q4, q5, q6, q7, wq, vq, dv⟩ := divide_any (l0_word n) (l1_word n) (l2_word n) (l3_word n) (l0_word h) (l1_word h) (l2_word h) (l3_word h) hm hz
  rw [val_two hn hh] at dv
  exact reduce_some hm hz dv w

theorem carN_word {n m : Int} (hn : Num n) (hm : Num m) : Word (carN n m) := by
  obtain ⟨_, _⟩ := hn; obtain ⟨_, _⟩ := hm
  unfold carN Word
  omega

set_option maxHeartbeats 2000000 in
theorem addMod_walk {n m k r er : Int} (hn : Num n) (hm : Num m) (RD : Hid (∀ w, Calls Tryd.prog 21 #[.agg #[.int .u64 (l0 (carN n m)), .int .u64 (l1 (carN n m)), .int .u64 (l2 (carN n m)), .int .u64 (l3 (carN n m))], .agg #[.int .u64 (l0 (sumN n m)), .int .u64 (l1 (sumN n m)), .int .u64 (l2 (sumN n m)), .int .u64 (l3 (sumN n m))], .agg #[.int .u64 (l0 k), .int .u64 (l1 k), .int .u64 (l2 k), .int .u64 (l3 k)]] w fun e w' => e = .returned (.tuple #[.agg #[.int .u64 (l0 r), .int .u64 (l1 r), .int .u64 (l2 r), .int .u64 (l3 r)], .int .i64 er]) ∧ Below w.heap.size w w')) (w : World) :
    Calls Tryd.prog 17 #[.agg #[.int .u64 (l0 n), .int .u64 (l1 n), .int .u64 (l2 n), .int .u64 (l3 n)], .agg #[.int .u64 (l0 m), .int .u64 (l1 m), .int .u64 (l2 m), .int .u64 (l3 m)], .agg #[.int .u64 (l0 k), .int .u64 (l1 k), .int .u64 (l2 k), .int .u64 (l3 k)]] w fun e' w' => e' = .returned (.tuple #[.agg #[.int .u64 (l0 r), .int .u64 (l1 r), .int .u64 (l2 r), .int .u64 (l3 r)], .int .i64 er]) ∧ Below w.heap.size w w' := by
  have wc := carN_word hn hm
  go_enter Tryd.func17, Tryd.ntmps17
  go_wp2_with fail
  refine calls_world (fun W => Below w.heap.size w W ∧ Hold W (w.heap.size + 1 + 1) k ∧ Blank W (w.heap.size + 1 + 1 + 1)) ⟨?_, (Hold.fresh (by simp)).alloc _, Blank.new (by simp)⟩ ?_
  · repeat (first | with_reducible exact Below.refl _ _ | with_reducible refine Below.alloc ?_ (by first | omega | (simp; done) | (simp; omega)) _)
  rintro W ⟨B, hM, hR⟩
  have o1 : w.heap.size ≤ w.heap.size + 1 + 1 + 1 := by omega
  have c2 : w.heap.size + 1 + 1 + 1 ≠ w.heap.size + 1 + 1 := by omega
  generalize w.heap.size + 1 + 1 + 1 = br at *
  generalize w.heap.size + 1 + 1 = bm at *
  with_reducible refine (add_any hn hm _).mono ?_
  rintro e w1 ⟨rfl, hb⟩
  replace B := B.trans (hb.mono B.size)
  replace hR := hR.keep hb; replace hM := hM.keep hb
  clear hb W
  go_wp2_with fail
  refine wp_world (fun W => Below w.heap.size w W ∧ Hold W bm k ∧ Blank W br ∧ Hold W w1.heap.size (sumN n m)) ⟨B.alloc B.size _, hM.alloc _, hR.alloc _, Hold.new _ _ _⟩ ?_
  have c1 : br ≠ w1.heap.size := by have := hR.1.lt (by simp); omega
  clear B hM hR
  rintro W ⟨B, hM, hR, hS⟩
  generalize w1.heap.size = bs at *
  have gM := hM.cells; have gS := hS.cells; have gR := hR.1.all4; have fR := hR.2.all4
  have lm := World.block_lt_of_cell? W _ hM.1; have ls := World.block_lt_of_cell? W _ hS.1; have lr := hR.1.lt (by simp)
  have BB : Hid (Below w.heap.size w W) := B
  have geB := B.size
  clear B hM hR hS
  have c1' := c1.symm; have c2' := c2.symm
  have _ : bm < W.heap.size := by omega
  have _ : bm ≤ W.heap.size := by omega
  have _ : bm < W.heap.size + 1 := by omega
  have _ : bm < W.heap.size + 1 + 1 := by omega
  have _ : bm ≠ W.heap.size := by omega
  have _ : W.heap.size ≠ bm := by omega
  have _ : bm ≠ W.heap.size + 1 := by omega
  have _ : W.heap.size + 1 ≠ bm := by omega
  have _ : br < W.heap.size := by omega
  have _ : br ≤ W.heap.size := by omega
  have _ : br < W.heap.size + 1 := by omega
  have _ : br < W.heap.size + 1 + 1 := by omega
  have _ : br ≠ W.heap.size := by omega
  have _ : W.heap.size ≠ br := by omega
  have _ : br ≠ W.heap.size + 1 := by omega
  have _ : W.heap.size + 1 ≠ br := by omega
  have _ : bs < W.heap.size := by omega
  have _ : bs ≤ W.heap.size := by omega
  have _ : bs < W.heap.size + 1 := by omega
  have _ : bs < W.heap.size + 1 + 1 := by omega
  have _ : bs ≠ W.heap.size := by omega
  have _ : W.heap.size ≠ bs := by omega
  have _ : bs ≠ W.heap.size + 1 := by omega
  have _ : W.heap.size + 1 ≠ bs := by omega
  have dz : W.drew.heap.size = W.heap.size := rfl
  go_region_held3 (fun w' => w'.cell? ⟨bm, 0, none⟩ = some (.int .u64 (l0 k)) ∧ w'.cell? ⟨bm, 1, none⟩ = some (.int .u64 (l1 k)) ∧ w'.cell? ⟨bm, 2, none⟩ = some (.int .u64 (l2 k)) ∧ w'.cell? ⟨bm, 3, none⟩ = some (.int .u64 (l3 k)) ∧ w'.cell? ⟨bs, 0, none⟩ = some (.int .u64 (l0 (sumN n m))) ∧ w'.cell? ⟨bs, 1, none⟩ = some (.int .u64 (l1 (sumN n m))) ∧ w'.cell? ⟨bs, 2, none⟩ = some (.int .u64 (l2 (sumN n m))) ∧ w'.cell? ⟨bs, 3, none⟩ = some (.int .u64 (l3 (sumN n m)))) (((try dsimp only); (repeat' (apply And.intro)); (all_goals repeat (first | with_reducible assumption | with_reducible apply cell_keep hb2 | with_reducible apply cell_keep hb1 | with_reducible apply cell_alloc | (with_reducible refine cell_set ?_ (by with_reducible assumption)) | (simp [go_sem, *]; done)))))
    (first
      | (go_at_call 14; with_reducible refine (from_any wc _).mono ?_; rintro e w1 ⟨rfl, hb1⟩; have hc1 := oldCells hb1; have hz1 := hb1.size; (try simp at hz1); (try (have := fun j => oldCells hb1 (W.heap.size) j (by first | omega | (simp; done) | (simp; omega)))); (try (have := fun j => oldCells hb1 (W.heap.size + 1) j (by first | omega | (simp; done) | (simp; omega)))); have _ : bm < w1.heap.size := (by omega); have _ : bm ≤ w1.heap.size := (by omega); have _ : bm < w1.heap.size + 1 := (by omega); have _ : bm < w1.heap.size + 1 + 1 := (by omega); have _ : bm ≠ w1.heap.size := (by omega); have _ : w1.heap.size ≠ bm := (by omega); have _ : bm ≠ w1.heap.size + 1 := (by omega); have _ : w1.heap.size + 1 ≠ bm := (by omega); have _ : br < w1.heap.size := (by omega); have _ : br ≤ w1.heap.size := (by omega); have _ : br < w1.heap.size + 1 := (by omega); have _ : br < w1.heap.size + 1 + 1 := (by omega); have _ : br ≠ w1.heap.size := (by omega); have _ : w1.heap.size ≠ br := (by omega); have _ : br ≠ w1.heap.size + 1 := (by omega); have _ : w1.heap.size + 1 ≠ br := (by omega); have _ : bs < w1.heap.size := (by omega); have _ : bs ≤ w1.heap.size := (by omega); have _ : bs < w1.heap.size + 1 := (by omega); have _ : bs < w1.heap.size + 1 + 1 := (by omega); have _ : bs ≠ w1.heap.size := (by omega); have _ : w1.heap.size ≠ bs := (by omega); have _ : bs ≠ w1.heap.size + 1 := (by omega); have _ : w1.heap.size + 1 ≠ bs := (by omega); (try (have _ : W.heap.size < w1.heap.size := (by omega))); (try (have _ : W.heap.size ≤ w1.heap.size := (by omega))); (try (have _ : W.heap.size ≠ w1.heap.size := (by omega))); (try (have _ : w1.heap.size ≠ W.heap.size := (by omega))); (try (have _ : W.heap.size < w1.heap.size + 1 := (by omega))); (try (have _ : W.heap.size + 1 < w1.heap.size := (by omega))); (try (have _ : W.heap.size + 1 ≤ w1.heap.size := (by omega))); (try (have _ : W.heap.size + 1 ≠ w1.heap.size := (by omega))); (try (have _ : w1.heap.size ≠ W.heap.size + 1 := (by omega))); (try (have _ : W.heap.size + 1 < w1.heap.size + 1 := (by omega))))
      | (go_at_call 21; with_reducible refine (RD.out _).mono ?_; rintro e w2 ⟨rfl, hb2⟩; have hc2 := oldCells hb2; have hz2 := hb2.size; (try simp at hz2); (try (have := fun j => oldCells hb2 (W.heap.size) j (by first | omega | (simp; done) | (simp; omega)))); (try (have := fun j => oldCells hb2 (W.heap.size + 1) j (by first | omega | (simp; done) | (simp; omega)))); (try (have := fun j => oldCells hb2 (w1.heap.size) j (by first | omega | (simp; done) | (simp; omega)))); (try (have := fun j => oldCells hb2 (w1.heap.size + 1) j (by first | omega | (simp; done) | (simp; omega)))); have _ : bm < w2.heap.size := (by omega); have _ : bm ≤ w2.heap.size := (by omega); have _ : bm < w2.heap.size + 1 := (by omega); have _ : bm < w2.heap.size + 1 + 1 := (by omega); have _ : bm ≠ w2.heap.size := (by omega); have _ : w2.heap.size ≠ bm := (by omega); have _ : bm ≠ w2.heap.size + 1 := (by omega); have _ : w2.heap.size + 1 ≠ bm := (by omega); have _ : br < w2.heap.size := (by omega); have _ : br ≤ w2.heap.size := (by omega); have _ : br < w2.heap.size + 1 := (by omega); have _ : br < w2.heap.size + 1 + 1 := (by omega); have _ : br ≠ w2.heap.size := (by omega); have _ : w2.heap.size ≠ br := (by omega); have _ : br ≠ w2.heap.size + 1 := (by omega); have _ : w2.heap.size + 1 ≠ br := (by omega); have _ : bs < w2.heap.size := (by omega); have _ : bs ≤ w2.heap.size := (by omega); have _ : bs < w2.heap.size + 1 := (by omega); have _ : bs < w2.heap.size + 1 + 1 := (by omega); have _ : bs ≠ w2.heap.size := (by omega); have _ : w2.heap.size ≠ bs := (by omega); have _ : bs ≠ w2.heap.size + 1 := (by omega); have _ : w2.heap.size + 1 ≠ bs := (by omega); (try (have _ : W.heap.size < w2.heap.size := (by omega))); (try (have _ : W.heap.size ≤ w2.heap.size := (by omega))); (try (have _ : W.heap.size ≠ w2.heap.size := (by omega))); (try (have _ : w2.heap.size ≠ W.heap.size := (by omega))); (try (have _ : W.heap.size < w2.heap.size + 1 := (by omega))); (try (have _ : W.heap.size + 1 < w2.heap.size := (by omega))); (try (have _ : W.heap.size + 1 ≤ w2.heap.size := (by omega))); (try (have _ : W.heap.size + 1 ≠ w2.heap.size := (by omega))); (try (have _ : w2.heap.size ≠ W.heap.size + 1 := (by omega))); (try (have _ : W.heap.size + 1 < w2.heap.size + 1 := (by omega))); (try (have _ : w1.heap.size < w2.heap.size := (by omega))); (try (have _ : w1.heap.size ≤ w2.heap.size := (by omega))); (try (have _ : w1.heap.size ≠ w2.heap.size := (by omega))); (try (have _ : w2.heap.size ≠ w1.heap.size := (by omega))); (try (have _ : w1.heap.size < w2.heap.size + 1 := (by omega))); (try (have _ : w1.heap.size + 1 < w2.heap.size := (by omega))); (try (have _ : w1.heap.size + 1 ≤ w2.heap.size := (by omega))); (try (have _ : w1.heap.size + 1 ≠ w2.heap.size := (by omega))); (try (have _ : w2.heap.size ≠ w1.heap.size + 1 := (by omega))); (try (have _ : w1.heap.size + 1 < w2.heap.size + 1 := (by omega)))))
  all_goals go_wp2
  all_goals simp [bodyPost, results, Tryd.results17, go_sem, *]
  all_goals repeat (first | with_reducible exact BB.out | with_reducible refine Below.drew ?_ | with_reducible refine Below.setCell ?_ (by with_reducible assumption) _ | with_reducible refine Below.trans ?_ (Below.mono hb2 (by omega)) | with_reducible refine Below.trans ?_ (Below.mono hb1 (by omega)))

set_option maxHeartbeats 2000000 in
theorem mulMod_walk {n m k r er : Int} (hn : Num n) (hm : Num m) (RD : Hid (∀ w, Calls Tryd.prog 21 #[.agg #[.int .u64 (l0 (hiN n m)), .int .u64 (l1 (hiN n m)), .int .u64 (l2 (hiN n m)), .int .u64 (l3 (hiN n m))], .agg #[.int .u64 (l0 (loN n m)), .int .u64 (l1 (loN n m)), .int .u64 (l2 (loN n m)), .int .u64 (l3 (loN n m))], .agg #[.int .u64 (l0 k), .int .u64 (l1 k), .int .u64 (l2 k), .int .u64 (l3 k)]] w fun e w' => e = .returned (.tuple #[.agg #[.int .u64 (l0 r), .int .u64 (l1 r), .int .u64 (l2 r), .int .u64 (l3 r)], .int .i64 er]) ∧ Below w.heap.size w w')) (w : World) :
    Calls Tryd.prog 19 #[.agg #[.int .u64 (l0 n), .int .u64 (l1 n), .int .u64 (l2 n), .int .u64 (l3 n)], .agg #[.int .u64 (l0 m), .int .u64 (l1 m), .int .u64 (l2 m), .int .u64 (l3 m)], .agg #[.int .u64 (l0 k), .int .u64 (l1 k), .int .u64 (l2 k), .int .u64 (l3 k)]] w fun e' w' => e' = .returned (.tuple #[.agg #[.int .u64 (l0 r), .int .u64 (l1 r), .int .u64 (l2 r), .int .u64 (l3 r)], .int .i64 er]) ∧ Below w.heap.size w w' := by
  go_enter Tryd.func19, Tryd.ntmps19
  go_wp2_with fail
  refine calls_world (fun W => Below w.heap.size w W ∧ Hold W (w.heap.size + 1 + 1) k ∧ Blank W (w.heap.size + 1 + 1 + 1)) ⟨?_, (Hold.fresh (by simp)).alloc _, Blank.new (by simp)⟩ ?_
  · repeat (first | with_reducible exact Below.refl _ _ | with_reducible refine Below.alloc ?_ (by first | omega | (simp; done) | (simp; omega)) _)
  rintro W ⟨B, hM, hR⟩
  have o1 : w.heap.size ≤ w.heap.size + 1 + 1 + 1 := by omega
  have c2 : w.heap.size + 1 + 1 + 1 ≠ w.heap.size + 1 + 1 := by omega
  generalize w.heap.size + 1 + 1 + 1 = br at *
  generalize w.heap.size + 1 + 1 = bm at *
  with_reducible refine (mul_any hn hm _).mono ?_
  rintro e w1 ⟨rfl, hb⟩
  replace B := B.trans (hb.mono B.size)
  replace hR := hR.keep hb; replace hM := hM.keep hb
  clear hb W
  have gM := hM.allocs2
  go_wp2_with fail
  clear c2
  refine calls_world (fun W => Below w.heap.size w W ∧ Blank W br) ⟨(B.alloc B.size _).alloc (by have := B.size; simp; omega) _, (hR.alloc _).alloc _⟩ ?_
  clear B hR hM gM
  rintro W ⟨B, hR⟩
  with_reducible refine (RD.out _).mono ?_
  rintro e w2 ⟨rfl, hb⟩
  replace B := B.trans (hb.mono B.size)
  replace hR := hR.keep hb
  clear hb W
  have gR := hR.1.all4; have fR := hR.2.all4
  go_wp2
  repeat (go_region; go_wp2)
  simp [bodyPost, results, Tryd.results19, go_sem, gR]
  repeat (first | with_reducible exact B | with_reducible refine Below.drew ?_ | with_reducible refine Below.setCell ?_ o1 _)
end Go.Proofs.YtfpiopjlcjckeaaDoor

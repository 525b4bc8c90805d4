import Derived.Test.YtjjimkhppoppbabRefCmp
import Derived.Test.YtjjimkhppoppbabHold
import Derived.Test.YtjjimkhppoppbabQTail
import Derived.Deep.RegionWith
import Derived.Test.YtjjimkhppoppbabRefDivs
import Derived.Test.YtjjimkhppoppbabDivs
namespace Go.Proofs.Ytjjimkhppoppbab
open Go.RowKit Go.Sort

theorem num_any (v : Int) (w : World) : Calls Try.prog 20 #[.int .i64 v] w fun e w' => e = .returned (.int .i64 v) ∧ Below w.heap.size w w' := by
  go_enter Try.func20, Try.ntmps20
  go_wp2
  simp [bodyPost, results, Try.results20, go_sem]
  repeat (first | with_reducible exact Below.refl _ _ | with_reducible refine Below.drew ?_ | with_reducible refine Below.alloc ?_ (by first | omega | (simp; done) | (simp; omega)) _)

/-- Is the number of one limb? -/
theorem one_limb {n : Int} (hn : Num n) : (n = l0 n ∧ l1 n = 0 ∧ l2 n = 0 ∧ l3 n = 0) ∨ (n ≠ l0 n ∧ ¬ (l1 n = 0 ∧ l2 n = 0 ∧ l3 n = 0)) := by
  have e := num_l hn
  unfold num at e
  obtain ⟨_, _⟩ := l0_word n; obtain ⟨_, _⟩ := l1_word n; obtain ⟨_, _⟩ := l2_word n; obtain ⟨_, _⟩ := l3_word n
  by_cases c : n = l0 n
  · exact .inl ⟨c, by omega, by omega, by omega⟩
  · exact .inr ⟨c, by omega⟩

theorem small_walk {n : Int} {t : Bool} (he : ∀ w, (Op.equalIn 10000 24 (.agg #[.int .u64 (l0 n), .int .u64 (l1 n), .int .u64 (l2 n), .int .u64 (l3 n)]) (.agg #[.int .u64 (l0 (l0 n)), .int .u64 (l1 (l0 n)), .int .u64 (l2 (l0 n)), .int .u64 (l3 (l0 n))])).run Try.prog w = .ok t w) (w : World) :
    Calls Try.prog 21 #[.agg #[.int .u64 (l0 n), .int .u64 (l1 n), .int .u64 (l2 n), .int .u64 (l3 n)]] w fun e w' => e = .returned (if t = true then .tuple #[.int .u64 (l0 n), .int .i64 0] else .tuple #[.int .u64 0, .int .i64 11]) ∧ Below w.heap.size w w' := by
  have wl := l0_word n
  cases t
  · rw [if_neg (by decide)]
    go_enter Try.func21, Try.ntmps21
    go_wp2_with fail
    refine wp_world (fun W => Below w.heap.size w W ∧ Hold W w.heap.size n) ⟨?_, ?_⟩ ?_
    · repeat (first | with_reducible exact Below.refl _ _ | with_reducible refine Below.alloc ?_ (by first | omega | (simp; done) | (simp; omega)) _)
    · have := Hold.new w n 24
      (try simp at this)
      exact this
    rintro W ⟨B, hX⟩
    have ghX := hX.grown
    refine wp_region_quiet_below (by kernel_rfl) (by kernel_rfl) ?_
    repeat
      first
        | go_big_quiet_skip
        | (go_big_quiet_want; go_big_quiet_op; go_big_quiet_on)
        | (go_big_quiet_want
           go_big_quiet_op
           apply Exists.intro
           refine ⟨fun p => ?_, ?_⟩
           · (first | (go_at_call 23; exact Calls.regrown_of (from_any wl _)))
           go_big_quiet_on)
    refine wpQuiet_nil ?_
    rintro w1 ⟨p, rfl⟩
    have hb := below_regrown W p.d p.os
    generalize grow (redrawn W p.d) p.os = w1 at *
    replace B := B.trans (hb.mono B.size)
    replace hX := hX.keep hb
    clear hb W ghX
    have ghX := hX.cells
    go_wp2
    repeat (go_region; go_wp2)
    simp [bodyPost, results, Try.results21, go_sem]
    repeat (first | with_reducible exact B | with_reducible refine Below.drew ?_)
  · rw [if_pos rfl]
    go_enter Try.func21, Try.ntmps21
    go_wp2_with fail
    refine wp_world (fun W => Below w.heap.size w W ∧ Hold W w.heap.size n) ⟨?_, ?_⟩ ?_
    · repeat (first | with_reducible exact Below.refl _ _ | with_reducible refine Below.alloc ?_ (by first | omega | (simp; done) | (simp; omega)) _)
    · have := Hold.new w n 24
      (try simp at this)
      exact this
    rintro W ⟨B, hX⟩
    have ghX := hX.grown
    refine wp_region_quiet_below (by kernel_rfl) (by kernel_rfl) ?_
    repeat
      first
        | go_big_quiet_skip
        | (go_big_quiet_want; go_big_quiet_op; go_big_quiet_on)
        | (go_big_quiet_want
           go_big_quiet_op
           apply Exists.intro
           refine ⟨fun p => ?_, ?_⟩
           · (first | (go_at_call 23; exact Calls.regrown_of (from_any wl _)))
           go_big_quiet_on)
    refine wpQuiet_nil ?_
    rintro w1 ⟨p, rfl⟩
    have hb := below_regrown W p.d p.os
    generalize grow (redrawn W p.d) p.os = w1 at *
    replace B := B.trans (hb.mono B.size)
    replace hX := hX.keep hb
    clear hb W ghX
    have ghX := hX.cells
    go_wp2
    repeat (go_region; go_wp2)
    simp [bodyPost, results, Try.results21, go_sem]
    repeat (first | with_reducible exact B | with_reducible refine Below.drew ?_)

set_option maxHeartbeats 1000000 in
theorem rsmall_limbs {x0 x1 x2 x3 : Int} (w : World) :
    Calls Try.prog 22 #[.agg #[.int .u64 x0, .int .u64 x1, .int .u64 x2, .int .u64 x3]] w fun e w' => e = .returned (if x1 = 0 ∧ x2 = 0 ∧ x3 = 0 then .tuple #[.int .u64 x0, .int .i64 0] else .tuple #[.int .u64 0, .int .i64 11]) ∧ Below w.heap.size w w' := by
  by_cases h1 : x1 = 0
  · by_cases h2 : x2 = 0
    · by_cases h3 : x3 = 0
      · subst h1 h2 h3
        rw [if_pos ⟨rfl, rfl, rfl⟩]
        go_enter Try.func22, Try.ntmps22
        go_wp2
        repeat (go_region; go_wp2)
        simp [bodyPost, results, Try.results22, go_sem]
        repeat (first | with_reducible exact Below.refl _ _ | with_reducible refine Below.drew ?_ | with_reducible refine Below.alloc ?_ (by first | omega | (simp; done) | (simp; omega)) _)
      · rw [if_neg (fun h => h3 h.2.2)]
        have b3 : (x3 != 0) = true := by simp [h3]
        subst h1 h2
        go_enter Try.func22, Try.ntmps22
        go_wp2
        repeat (go_region; go_wp2)
        simp [bodyPost, results, Try.results22, go_sem]
        repeat (first | with_reducible exact Below.refl _ _ | with_reducible refine Below.drew ?_ | with_reducible refine Below.alloc ?_ (by first | omega | (simp; done) | (simp; omega)) _)
    · rw [if_neg (fun h => h2 h.2.1)]
      have b2 : (x2 != 0) = true := by simp [h2]
      subst h1
      go_enter Try.func22, Try.ntmps22
      go_wp2
      repeat (go_region; go_wp2)
      simp [bodyPost, results, Try.results22, go_sem]
      repeat (first | with_reducible exact Below.refl _ _ | with_reducible refine Below.drew ?_ | with_reducible refine Below.alloc ?_ (by first | omega | (simp; done) | (simp; omega)) _)
  · rw [if_neg (fun h => h1 h.1)]
    have b1 : (x1 != 0) = true := by simp [h1]
    go_enter Try.func22, Try.ntmps22
    go_wp2
    repeat (go_region; go_wp2)
    simp [bodyPost, results, Try.results22, go_sem]
    repeat (first | with_reducible exact Below.refl _ _ | with_reducible refine Below.drew ?_ | with_reducible refine Below.alloc ?_ (by first | omega | (simp; done) | (simp; omega)) _)

theorem smalls {n : Int} (hn : Num n) : ∃ v e : Int, (∀ w, Calls Try.prog 21 #[.agg #[.int .u64 (l0 n), .int .u64 (l1 n), .int .u64 (l2 n), .int .u64 (l3 n)]] w fun e' w' => e' = .returned (.tuple #[.int .u64 v, .int .i64 e]) ∧ Below w.heap.size w w') ∧ (∀ w, Calls Try.prog 22 #[.agg #[.int .u64 (l0 n), .int .u64 (l1 n), .int .u64 (l2 n), .int .u64 (l3 n)]] w fun e' w' => e' = .returned (.tuple #[.int .u64 v, .int .i64 e]) ∧ Below w.heap.size w w') := by
  rcases one_limb hn with ⟨e, h⟩ | ⟨e, h⟩
  · refine ⟨l0 n, 0, fun w => ?_, fun w => ?_⟩
    · have wl := l0_word n
      have := small_walk (t := true) (fun w => by have := eq_num hn (show Num (l0 n) from ⟨wl.1, by have := wl.2; omega⟩) w; rw [decide_eq_true e] at this; exact this) w
      rw [if_pos rfl] at this; exact this
    · have := rsmall_limbs (x0 := l0 n) (x1 := l1 n) (x2 := l2 n) (x3 := l3 n) w
      rw [if_pos h] at this; exact this
  · refine ⟨0, 11, fun w => ?_, fun w => ?_⟩
    · have wl := l0_word n
      have := small_walk (t := false) (fun w => eq_no hn ⟨wl.1, by have := wl.2; omega⟩ e w) w
      rw [if_neg (by decide)] at this; exact this
    · have := rsmall_limbs (x0 := l0 n) (x1 := l1 n) (x2 := l2 n) (x3 := l3 n) w
      rw [if_neg h] at this; exact this

end Go.Proofs.Ytjjimkhppoppbab

namespace Go.Proofs.Ytjjimkhppoppbab
open Go.RowKit Go.Sort

theorem carN_word {n m : Int} (hn : Num n) (hm : Num m) : Word (carN n m) := by
  obtain ⟨_, _⟩ := hn; obtain ⟨_, _⟩ := hm
  unfold carN Word
  omega

set_option maxHeartbeats 2000000 in
theorem addMod_walk {n m k r er : Int} (hn : Num n) (hm : Num m) (RD : Hid (∀ w, Calls Try.prog 25 #[.agg #[.int .u64 (l0 (carN n m)), .int .u64 (l1 (carN n m)), .int .u64 (l2 (carN n m)), .int .u64 (l3 (carN n m))], .agg #[.int .u64 (l0 (sumN n m)), .int .u64 (l1 (sumN n m)), .int .u64 (l2 (sumN n m)), .int .u64 (l3 (sumN n m))], .agg #[.int .u64 (l0 k), .int .u64 (l1 k), .int .u64 (l2 k), .int .u64 (l3 k)]] w fun e w' => e = .returned (.tuple #[.agg #[.int .u64 (l0 r), .int .u64 (l1 r), .int .u64 (l2 r), .int .u64 (l3 r)], .int .i64 er]) ∧ Below w.heap.size w w')) (w : World) :
    Calls Try.prog 29 #[.agg #[.int .u64 (l0 n), .int .u64 (l1 n), .int .u64 (l2 n), .int .u64 (l3 n)], .agg #[.int .u64 (l0 m), .int .u64 (l1 m), .int .u64 (l2 m), .int .u64 (l3 m)], .agg #[.int .u64 (l0 k), .int .u64 (l1 k), .int .u64 (l2 k), .int .u64 (l3 k)]] w fun e' w' => e' = .returned (.tuple #[.agg #[.int .u64 (l0 r), .int .u64 (l1 r), .int .u64 (l2 r), .int .u64 (l3 r)], .int .i64 er]) ∧ Below w.heap.size w w' := by
  have wc := carN_word hn hm
  go_enter Try.func29, Try.ntmps29
  go_wp2_with fail
  refine calls_world (fun W => Below w.heap.size w W ∧ Hold W (w.heap.size + 1 + 1) k ∧ Blank W (w.heap.size + 1 + 1 + 1)) ⟨?_, (Hold.fresh (by simp)).alloc _, Blank.new (by simp)⟩ ?_
  · repeat (first | with_reducible exact Below.refl _ _ | with_reducible refine Below.alloc ?_ (by first | omega | (simp; done) | (simp; omega)) _)
  rintro W ⟨B, hM, hR⟩
  have o1 : w.heap.size ≤ w.heap.size + 1 + 1 + 1 := by omega
  have c2 : w.heap.size + 1 + 1 + 1 ≠ w.heap.size + 1 + 1 := by omega
  generalize w.heap.size + 1 + 1 + 1 = br at *
  generalize w.heap.size + 1 + 1 = bm at *
  with_reducible refine (add_any hn hm _).mono ?_
  rintro e w1 ⟨rfl, hb⟩
  replace B := B.trans (hb.mono B.size)
  replace hR := hR.keep hb; replace hM := hM.keep hb
  clear hb W
  go_wp2_with fail
  refine wp_world (fun W => Below w.heap.size w W ∧ Hold W bm k ∧ Blank W br ∧ Hold W w1.heap.size (sumN n m)) ⟨B.alloc B.size _, hM.alloc _, hR.alloc _, Hold.new _ _ _⟩ ?_
  have c1 : br ≠ w1.heap.size := by have := hR.1.lt (by simp); omega
  clear B hM hR
  rintro W ⟨B, hM, hR, hS⟩
  generalize w1.heap.size = bs at *
  have gM := hM.cells; have gS := hS.cells; have gR := hR.1.all4; have fR := hR.2.all4
  have lm := World.block_lt_of_cell? W _ hM.1; have ls := World.block_lt_of_cell? W _ hS.1; have lr := hR.1.lt (by simp)
  have BB : Hid (Below w.heap.size w W) := B
  have geB := B.size
  clear B hM hR hS
  have c1' := c1.symm; have c2' := c2.symm
  have _ : bm < W.heap.size := by omega
  have _ : bm ≤ W.heap.size := by omega
  have _ : bm < W.heap.size + 1 := by omega
  have _ : bm < W.heap.size + 1 + 1 := by omega
  have _ : bm ≠ W.heap.size := by omega
  have _ : W.heap.size ≠ bm := by omega
  have _ : bm ≠ W.heap.size + 1 := by omega
  have _ : W.heap.size + 1 ≠ bm := by omega
  have _ : br < W.heap.size := by omega
  have _ : br ≤ W.heap.size := by omega
  have _ : br < W.heap.size + 1 := by omega
  have _ : br < W.heap.size + 1 + 1 := by omega
  have _ : br ≠ W.heap.size := by omega
  have _ : W.heap.size ≠ br := by omega
  have _ : br ≠ W.heap.size + 1 := by omega
  have _ : W.heap.size + 1 ≠ br := by omega
  have _ : bs < W.heap.size := by omega
  have _ : bs ≤ W.heap.size := by omega
  have _ : bs < W.heap.size + 1 := by omega
  have _ : bs < W.heap.size + 1 + 1 := by omega
  have _ : bs ≠ W.heap.size := by omega
  have _ : W.heap.size ≠ bs := by omega
  have _ : bs ≠ W.heap.size + 1 := by omega
  have _ : W.heap.size + 1 ≠ bs := by omega
  have dz : W.drew.heap.size = W.heap.size := rfl
  go_region_held3 (fun w' => w'.cell? ⟨bm, 0, none⟩ = some (.int .u64 (l0 k)) ∧ w'.cell? ⟨bm, 1, none⟩ = some (.int .u64 (l1 k)) ∧ w'.cell? ⟨bm, 2, none⟩ = some (.int .u64 (l2 k)) ∧ w'.cell? ⟨bm, 3, none⟩ = some (.int .u64 (l3 k)) ∧ w'.cell? ⟨bs, 0, none⟩ = some (.int .u64 (l0 (sumN n m))) ∧ w'.cell? ⟨bs, 1, none⟩ = some (.int .u64 (l1 (sumN n m))) ∧ w'.cell? ⟨bs, 2, none⟩ = some (.int .u64 (l2 (sumN n m))) ∧ w'.cell? ⟨bs, 3, none⟩ = some (.int .u64 (l3 (sumN n m)))) (((try dsimp only); (repeat' (apply And.intro)); (all_goals repeat (first | with_reducible assumption | with_reducible apply cell_keep hb2 | with_reducible apply cell_keep hb1 | with_reducible apply cell_alloc | (with_reducible refine cell_set ?_ (by with_reducible assumption)) | (simp [go_sem, *]; done)))))
    (first
      | (go_at_call 23; with_reducible refine (from_any wc _).mono ?_; rintro e w1 ⟨rfl, hb1⟩; have hc1 := oldCells hb1; have hz1 := hb1.size; (try simp at hz1); (try (have := fun j => oldCells hb1 (W.heap.size) j (by first | omega | (simp; done) | (simp; omega)))); (try (have := fun j => oldCells hb1 (W.heap.size + 1) j (by first | omega | (simp; done) | (simp; omega)))); have _ : bm < w1.heap.size := (by omega); have _ : bm ≤ w1.heap.size := (by omega); have _ : bm < w1.heap.size + 1 := (by omega); have _ : bm < w1.heap.size + 1 + 1 := (by omega); have _ : bm ≠ w1.heap.size := (by omega); have _ : w1.heap.size ≠ bm := (by omega); have _ : bm ≠ w1.heap.size + 1 := (by omega); have _ : w1.heap.size + 1 ≠ bm := (by omega); have _ : br < w1.heap.size := (by omega); have _ : br ≤ w1.heap.size := (by omega); have _ : br < w1.heap.size + 1 := (by omega); have _ : br < w1.heap.size + 1 + 1 := (by omega); have _ : br ≠ w1.heap.size := (by omega); have _ : w1.heap.size ≠ br := (by omega); have _ : br ≠ w1.heap.size + 1 := (by omega); have _ : w1.heap.size + 1 ≠ br := (by omega); have _ : bs < w1.heap.size := (by omega); have _ : bs ≤ w1.heap.size := (by omega); have _ : bs < w1.heap.size + 1 := (by omega); have _ : bs < w1.heap.size + 1 + 1 := (by omega); have _ : bs ≠ w1.heap.size := (by omega); have _ : w1.heap.size ≠ bs := (by omega); have _ : bs ≠ w1.heap.size + 1 := (by omega); have _ : w1.heap.size + 1 ≠ bs := (by omega); (try (have _ : W.heap.size < w1.heap.size := (by omega))); (try (have _ : W.heap.size ≤ w1.heap.size := (by omega))); (try (have _ : W.heap.size ≠ w1.heap.size := (by omega))); (try (have _ : w1.heap.size ≠ W.heap.size := (by omega))); (try (have _ : W.heap.size < w1.heap.size + 1 := (by omega))); (try (have _ : W.heap.size + 1 < w1.heap.size := (by omega))); (try (have _ : W.heap.size + 1 ≤ w1.heap.size := (by omega))); (try (have _ : W.heap.size + 1 ≠ w1.heap.size := (by omega))); (try (have _ : w1.heap.size ≠ W.heap.size + 1 := (by omega))); (try (have _ : W.heap.size + 1 < w1.heap.size + 1 := (by omega))))
      | (go_at_call 25; with_reducible refine (RD.out _).mono ?_; rintro e w2 ⟨rfl, hb2⟩; have hc2 := oldCells hb2; have hz2 := hb2.size; (try simp at hz2); (try (have := fun j => oldCells hb2 (W.heap.size) j (by first | omega | (simp; done) | (simp; omega)))); (try (have := fun j => oldCells hb2 (W.heap.size + 1) j (by first | omega | (simp; done) | (simp; omega)))); (try (have := fun j => oldCells hb2 (w1.heap.size) j (by first | omega | (simp; done) | (simp; omega)))); (try (have := fun j => oldCells hb2 (w1.heap.size + 1) j (by first | omega | (simp; done) | (simp; omega)))); have _ : bm < w2.heap.size := (by omega); have _ : bm ≤ w2.heap.size := (by omega); have _ : bm < w2.heap.size + 1 := (by omega); have _ : bm < w2.heap.size + 1 + 1 := (by omega); have _ : bm ≠ w2.heap.size := (by omega); have _ : w2.heap.size ≠ bm := (by omega); have _ : bm ≠ w2.heap.size + 1 := (by omega); have _ : w2.heap.size + 1 ≠ bm := (by omega); have _ : br < w2.heap.size := (by omega); have _ : br ≤ w2.heap.size := (by omega); have _ : br < w2.heap.size + 1 := (by omega); have _ : br < w2.heap.size + 1 + 1 := (by omega); have _ : br ≠ w2.heap.size := (by omega); have _ : w2.heap.size ≠ br := (by omega); have _ : br ≠ w2.heap.size + 1 := (by omega); have _ : w2.heap.size + 1 ≠ br := (by omega); have _ : bs < w2.heap.size := (by omega); have _ : bs ≤ w2.heap.size := (by omega); have _ : bs < w2.heap.size + 1 := (by omega); have _ : bs < w2.heap.size + 1 + 1 := (by omega); have _ : bs ≠ w2.heap.size := (by omega); have _ : w2.heap.size ≠ bs := (by omega); have _ : bs ≠ w2.heap.size + 1 := (by omega); have _ : w2.heap.size + 1 ≠ bs := (by omega); (try (have _ : W.heap.size < w2.heap.size := (by omega))); (try (have _ : W.heap.size ≤ w2.heap.size := (by omega))); (try (have _ : W.heap.size ≠ w2.heap.size := (by omega))); (try (have _ : w2.heap.size ≠ W.heap.size := (by omega))); (try (have _ : W.heap.size < w2.heap.size + 1 := (by omega))); (try (have _ : W.heap.size + 1 < w2.heap.size := (by omega))); (try (have _ : W.heap.size + 1 ≤ w2.heap.size := (by omega))); (try (have _ : W.heap.size + 1 ≠ w2.heap.size := (by omega))); (try (have _ : w2.heap.size ≠ W.heap.size + 1 := (by omega))); (try (have _ : W.heap.size + 1 < w2.heap.size + 1 := (by omega))); (try (have _ : w1.heap.size < w2.heap.size := (by omega))); (try (have _ : w1.heap.size ≤ w2.heap.size := (by omega))); (try (have _ : w1.heap.size ≠ w2.heap.size := (by omega))); (try (have _ : w2.heap.size ≠ w1.heap.size := (by omega))); (try (have _ : w1.heap.size < w2.heap.size + 1 := (by omega))); (try (have _ : w1.heap.size + 1 < w2.heap.size := (by omega))); (try (have _ : w1.heap.size + 1 ≤ w2.heap.size := (by omega))); (try (have _ : w1.heap.size + 1 ≠ w2.heap.size := (by omega))); (try (have _ : w2.heap.size ≠ w1.heap.size + 1 := (by omega))); (try (have _ : w1.heap.size + 1 < w2.heap.size + 1 := (by omega)))))
  all_goals go_wp2
  all_goals simp [bodyPost, results, Try.results29, go_sem, *]
  all_goals repeat (first | with_reducible exact BB.out | with_reducible refine Below.drew ?_ | with_reducible refine Below.setCell ?_ (by with_reducible assumption) _ | with_reducible refine Below.trans ?_ (Below.mono hb2 (by omega)) | with_reducible refine Below.trans ?_ (Below.mono hb1 (by omega)))

set_option maxHeartbeats 2000000 in
theorem mulMod_walk {n m k r er : Int} (hn : Num n) (hm : Num m) (RD : Hid (∀ w, Calls Try.prog 25 #[.agg #[.int .u64 (l0 (hiN n m)), .int .u64 (l1 (hiN n m)), .int .u64 (l2 (hiN n m)), .int .u64 (l3 (hiN n m))], .agg #[.int .u64 (l0 (loN n m)), .int .u64 (l1 (loN n m)), .int .u64 (l2 (loN n m)), .int .u64 (l3 (loN n m))], .agg #[.int .u64 (l0 k), .int .u64 (l1 k), .int .u64 (l2 k), .int .u64 (l3 k)]] w fun e w' => e = .returned (.tuple #[.agg #[.int .u64 (l0 r), .int .u64 (l1 r), .int .u64 (l2 r), .int .u64 (l3 r)], .int .i64 er]) ∧ Below w.heap.size w w')) (w : World) :
    Calls Try.prog 31 #[.agg #[.int .u64 (l0 n), .int .u64 (l1 n), .int .u64 (l2 n), .int .u64 (l3 n)], .agg #[.int .u64 (l0 m), .int .u64 (l1 m), .int .u64 (l2 m), .int .u64 (l3 m)], .agg #[.int .u64 (l0 k), .int .u64 (l1 k), .int .u64 (l2 k), .int .u64 (l3 k)]] w fun e' w' => e' = .returned (.tuple #[.agg #[.int .u64 (l0 r), .int .u64 (l1 r), .int .u64 (l2 r), .int .u64 (l3 r)], .int .i64 er]) ∧ Below w.heap.size w w' := by
  go_enter Try.func31, Try.ntmps31
  go_wp2_with fail
  refine calls_world (fun W => Below w.heap.size w W ∧ Hold W (w.heap.size + 1 + 1) k ∧ Blank W (w.heap.size + 1 + 1 + 1)) ⟨?_, (Hold.fresh (by simp)).alloc _, Blank.new (by simp)⟩ ?_
  · repeat (first | with_reducible exact Below.refl _ _ | with_reducible refine Below.alloc ?_ (by first | omega | (simp; done) | (simp; omega)) _)
  rintro W ⟨B, hM, hR⟩
  have o1 : w.heap.size ≤ w.heap.size + 1 + 1 + 1 := by omega
  have c2 : w.heap.size + 1 + 1 + 1 ≠ w.heap.size + 1 + 1 := by omega
  generalize w.heap.size + 1 + 1 + 1 = br at *
  generalize w.heap.size + 1 + 1 = bm at *
  with_reducible refine (mul_any hn hm _).mono ?_
  rintro e w1 ⟨rfl, hb⟩
  replace B := B.trans (hb.mono B.size)
  replace hR := hR.keep hb; replace hM := hM.keep hb
  clear hb W
  have gM := hM.allocs2
  go_wp2_with fail
  clear c2
  refine calls_world (fun W => Below w.heap.size w W ∧ Blank W br) ⟨(B.alloc B.size _).alloc (by have := B.size; simp; omega) _, (hR.alloc _).alloc _⟩ ?_
  clear B hR hM gM
  rintro W ⟨B, hR⟩
  with_reducible refine (RD.out _).mono ?_
  rintro e w2 ⟨rfl, hb⟩
  replace B := B.trans (hb.mono B.size)
  replace hR := hR.keep hb
  clear hb W
  have gR := hR.1.all4; have fR := hR.2.all4
  go_wp2
  repeat (go_region; go_wp2)
  simp [bodyPost, results, Try.results31, go_sem, gR]
  repeat (first | with_reducible exact B | with_reducible refine Below.drew ?_ | with_reducible refine Below.setCell ?_ o1 _)

set_option maxHeartbeats 2000000 in
theorem raddMod_walk {n m k r er : Int} (hn : Num n) (hm : Num m) (RD : Hid (∀ w, Calls Try.prog 26 #[.agg #[.int .u64 (l0 (carN n m)), .int .u64 (l1 (carN n m)), .int .u64 (l2 (carN n m)), .int .u64 (l3 (carN n m))], .agg #[.int .u64 (l0 (sumN n m)), .int .u64 (l1 (sumN n m)), .int .u64 (l2 (sumN n m)), .int .u64 (l3 (sumN n m))], .agg #[.int .u64 (l0 k), .int .u64 (l1 k), .int .u64 (l2 k), .int .u64 (l3 k)]] w fun e w' => e = .returned (.tuple #[.agg #[.int .u64 (l0 r), .int .u64 (l1 r), .int .u64 (l2 r), .int .u64 (l3 r)], .int .i64 er]) ∧ Below w.heap.size w w')) (w : World) :
    Calls Try.prog 30 #[.agg #[.int .u64 (l0 n), .int .u64 (l1 n), .int .u64 (l2 n), .int .u64 (l3 n)], .agg #[.int .u64 (l0 m), .int .u64 (l1 m), .int .u64 (l2 m), .int .u64 (l3 m)], .agg #[.int .u64 (l0 k), .int .u64 (l1 k), .int .u64 (l2 k), .int .u64 (l3 k)]] w fun e' w' => e' = .returned (.tuple #[.agg #[.int .u64 (l0 r), .int .u64 (l1 r), .int .u64 (l2 r), .int .u64 (l3 r)], .int .i64 er]) ∧ Below w.heap.size w w' := by
  have wc := carN_word hn hm
  go_enter Try.func30, Try.ntmps30
  go_wp2_with fail
  refine calls_world (fun W => Below w.heap.size w W ∧ Hold W (w.heap.size + 1 + 1) k ∧ Blank W (w.heap.size + 1 + 1 + 1)) ⟨?_, (Hold.fresh (by simp)).alloc _, Blank.new (by simp)⟩ ?_
  · repeat (first | with_reducible exact Below.refl _ _ | with_reducible refine Below.alloc ?_ (by first | omega | (simp; done) | (simp; omega)) _)
  rintro W ⟨B, hM, hR⟩
  have o1 : w.heap.size ≤ w.heap.size + 1 + 1 + 1 := by omega
  have c2 : w.heap.size + 1 + 1 + 1 ≠ w.heap.size + 1 + 1 := by omega
  generalize w.heap.size + 1 + 1 + 1 = br at *
  generalize w.heap.size + 1 + 1 = bm at *
  with_reducible refine (radd_any hn hm _).mono ?_
  rintro e w1 ⟨rfl, hb⟩
  replace B := B.trans (hb.mono B.size)
  replace hR := hR.keep hb; replace hM := hM.keep hb
  clear hb W
  go_wp2_with fail
  refine wp_world (fun W => Below w.heap.size w W ∧ Hold W bm k ∧ Blank W br ∧ Hold W w1.heap.size (sumN n m)) ⟨B.alloc B.size _, hM.alloc _, hR.alloc _, Hold.new _ _ _⟩ ?_
  have c1 : br ≠ w1.heap.size := by have := hR.1.lt (by simp); omega
  clear B hM hR
  rintro W ⟨B, hM, hR, hS⟩
  generalize w1.heap.size = bs at *
  have gM := hM.cells; have gS := hS.cells; have gR := hR.1.all4; have fR := hR.2.all4
  have lm := World.block_lt_of_cell? W _ hM.1; have ls := World.block_lt_of_cell? W _ hS.1; have lr := hR.1.lt (by simp)
  have BB : Hid (Below w.heap.size w W) := B
  have geB := B.size
  clear B hM hR hS
  have c1' := c1.symm; have c2' := c2.symm
  have _ : bm < W.heap.size := by omega
  have _ : bm ≤ W.heap.size := by omega
  have _ : bm < W.heap.size + 1 := by omega
  have _ : bm < W.heap.size + 1 + 1 := by omega
  have _ : bm ≠ W.heap.size := by omega
  have _ : W.heap.size ≠ bm := by omega
  have _ : bm ≠ W.heap.size + 1 := by omega
  have _ : W.heap.size + 1 ≠ bm := by omega
  have _ : br < W.heap.size := by omega
  have _ : br ≤ W.heap.size := by omega
  have _ : br < W.heap.size + 1 := by omega
  have _ : br < W.heap.size + 1 + 1 := by omega
  have _ : br ≠ W.heap.size := by omega
  have _ : W.heap.size ≠ br := by omega
  have _ : br ≠ W.heap.size + 1 := by omega
  have _ : W.heap.size + 1 ≠ br := by omega
  have _ : bs < W.heap.size := by omega
  have _ : bs ≤ W.heap.size := by omega
  have _ : bs < W.heap.size + 1 := by omega
  have _ : bs < W.heap.size + 1 + 1 := by omega
  have _ : bs ≠ W.heap.size := by omega
  have _ : W.heap.size ≠ bs := by omega
  have _ : bs ≠ W.heap.size + 1 := by omega
  have _ : W.heap.size + 1 ≠ bs := by omega
  have dz : W.drew.heap.size = W.heap.size := rfl
  go_region_held3 (fun w' => w'.cell? ⟨bm, 0, none⟩ = some (.int .u64 (l0 k)) ∧ w'.cell? ⟨bm, 1, none⟩ = some (.int .u64 (l1 k)) ∧ w'.cell? ⟨bm, 2, none⟩ = some (.int .u64 (l2 k)) ∧ w'.cell? ⟨bm, 3, none⟩ = some (.int .u64 (l3 k)) ∧ w'.cell? ⟨bs, 0, none⟩ = some (.int .u64 (l0 (sumN n m))) ∧ w'.cell? ⟨bs, 1, none⟩ = some (.int .u64 (l1 (sumN n m))) ∧ w'.cell? ⟨bs, 2, none⟩ = some (.int .u64 (l2 (sumN n m))) ∧ w'.cell? ⟨bs, 3, none⟩ = some (.int .u64 (l3 (sumN n m)))) (((try dsimp only); (repeat' (apply And.intro)); (all_goals repeat (first | with_reducible assumption | with_reducible apply cell_keep hb2 | with_reducible apply cell_keep hb1 | with_reducible apply cell_alloc | (with_reducible refine cell_set ?_ (by with_reducible assumption)) | (simp [go_sem, *]; done)))))
    (first
      | (go_at_call 24; with_reducible refine (rfrom_any wc _).mono ?_; rintro e w1 ⟨rfl, hb1⟩; have hc1 := oldCells hb1; have hz1 := hb1.size; (try simp at hz1); (try (have := fun j => oldCells hb1 (W.heap.size) j (by first | omega | (simp; done) | (simp; omega)))); (try (have := fun j => oldCells hb1 (W.heap.size + 1) j (by first | omega | (simp; done) | (simp; omega)))); have _ : bm < w1.heap.size := (by omega); have _ : bm ≤ w1.heap.size := (by omega); have _ : bm < w1.heap.size + 1 := (by omega); have _ : bm < w1.heap.size + 1 + 1 := (by omega); have _ : bm ≠ w1.heap.size := (by omega); have _ : w1.heap.size ≠ bm := (by omega); have _ : bm ≠ w1.heap.size + 1 := (by omega); have _ : w1.heap.size + 1 ≠ bm := (by omega); have _ : br < w1.heap.size := (by omega); have _ : br ≤ w1.heap.size := (by omega); have _ : br < w1.heap.size + 1 := (by omega); have _ : br < w1.heap.size + 1 + 1 := (by omega); have _ : br ≠ w1.heap.size := (by omega); have _ : w1.heap.size ≠ br := (by omega); have _ : br ≠ w1.heap.size + 1 := (by omega); have _ : w1.heap.size + 1 ≠ br := (by omega); have _ : bs < w1.heap.size := (by omega); have _ : bs ≤ w1.heap.size := (by omega); have _ : bs < w1.heap.size + 1 := (by omega); have _ : bs < w1.heap.size + 1 + 1 := (by omega); have _ : bs ≠ w1.heap.size := (by omega); have _ : w1.heap.size ≠ bs := (by omega); have _ : bs ≠ w1.heap.size + 1 := (by omega); have _ : w1.heap.size + 1 ≠ bs := (by omega); (try (have _ : W.heap.size < w1.heap.size := (by omega))); (try (have _ : W.heap.size ≤ w1.heap.size := (by omega))); (try (have _ : W.heap.size ≠ w1.heap.size := (by omega))); (try (have _ : w1.heap.size ≠ W.heap.size := (by omega))); (try (have _ : W.heap.size < w1.heap.size + 1 := (by omega))); (try (have _ : W.heap.size + 1 < w1.heap.size := (by omega))); (try (have _ : W.heap.size + 1 ≤ w1.heap.size := (by omega))); (try (have _ : W.heap.size + 1 ≠ w1.heap.size := (by omega))); (try (have _ : w1.heap.size ≠ W.heap.size + 1 := (by omega))); (try (have _ : W.heap.size + 1 < w1.heap.size + 1 := (by omega))))
      | (go_at_call 26; with_reducible refine (RD.out _).mono ?_; rintro e w2 ⟨rfl, hb2⟩; have hc2 := oldCells hb2; have hz2 := hb2.size; (try simp at hz2); (try (have := fun j => oldCells hb2 (W.heap.size) j (by first | omega | (simp; done) | (simp; omega)))); (try (have := fun j => oldCells hb2 (W.heap.size + 1) j (by first | omega | (simp; done) | (simp; omega)))); (try (have := fun j => oldCells hb2 (w1.heap.size) j (by first | omega | (simp; done) | (simp; omega)))); (try (have := fun j => oldCells hb2 (w1.heap.size + 1) j (by first | omega | (simp; done) | (simp; omega)))); have _ : bm < w2.heap.size := (by omega); have _ : bm ≤ w2.heap.size := (by omega); have _ : bm < w2.heap.size + 1 := (by omega); have _ : bm < w2.heap.size + 1 + 1 := (by omega); have _ : bm ≠ w2.heap.size := (by omega); have _ : w2.heap.size ≠ bm := (by omega); have _ : bm ≠ w2.heap.size + 1 := (by omega); have _ : w2.heap.size + 1 ≠ bm := (by omega); have _ : br < w2.heap.size := (by omega); have _ : br ≤ w2.heap.size := (by omega); have _ : br < w2.heap.size + 1 := (by omega); have _ : br < w2.heap.size + 1 + 1 := (by omega); have _ : br ≠ w2.heap.size := (by omega); have _ : w2.heap.size ≠ br := (by omega); have _ : br ≠ w2.heap.size + 1 := (by omega); have _ : w2.heap.size + 1 ≠ br := (by omega); have _ : bs < w2.heap.size := (by omega); have _ : bs ≤ w2.heap.size := (by omega); have _ : bs < w2.heap.size + 1 := (by omega); have _ : bs < w2.heap.size + 1 + 1 := (by omega); have _ : bs ≠ w2.heap.size := (by omega); have _ : w2.heap.size ≠ bs := (by omega); have _ : bs ≠ w2.heap.size + 1 := (by omega); have _ : w2.heap.size + 1 ≠ bs := (by omega); (try (have _ : W.heap.size < w2.heap.size := (by omega))); (try (have _ : W.heap.size ≤ w2.heap.size := (by omega))); (try (have _ : W.heap.size ≠ w2.heap.size := (by omega))); (try (have _ : w2.heap.size ≠ W.heap.size := (by omega))); (try (have _ : W.heap.size < w2.heap.size + 1 := (by omega))); (try (have _ : W.heap.size + 1 < w2.heap.size := (by omega))); (try (have _ : W.heap.size + 1 ≤ w2.heap.size := (by omega))); (try (have _ : W.heap.size + 1 ≠ w2.heap.size := (by omega))); (try (have _ : w2.heap.size ≠ W.heap.size + 1 := (by omega))); (try (have _ : W.heap.size + 1 < w2.heap.size + 1 := (by omega))); (try (have _ : w1.heap.size < w2.heap.size := (by omega))); (try (have _ : w1.heap.size ≤ w2.heap.size := (by omega))); (try (have _ : w1.heap.size ≠ w2.heap.size := (by omega))); (try (have _ : w2.heap.size ≠ w1.heap.size := (by omega))); (try (have _ : w1.heap.size < w2.heap.size + 1 := (by omega))); (try (have _ : w1.heap.size + 1 < w2.heap.size := (by omega))); (try (have _ : w1.heap.size + 1 ≤ w2.heap.size := (by omega))); (try (have _ : w1.heap.size + 1 ≠ w2.heap.size := (by omega))); (try (have _ : w2.heap.size ≠ w1.heap.size + 1 := (by omega))); (try (have _ : w1.heap.size + 1 < w2.heap.size + 1 := (by omega)))))
  all_goals go_wp2
  all_goals simp [bodyPost, results, Try.results30, go_sem, *]
  all_goals repeat (first | with_reducible exact BB.out | with_reducible refine Below.drew ?_ | with_reducible refine Below.setCell ?_ (by with_reducible assumption) _ | with_reducible refine Below.trans ?_ (Below.mono hb2 (by omega)) | with_reducible refine Below.trans ?_ (Below.mono hb1 (by omega)))

set_option maxHeartbeats 2000000 in
theorem rmulMod_walk {n m k r er : Int} (hn : Num n) (hm : Num m) (RD : Hid (∀ w, Calls Try.prog 26 #[.agg #[.int .u64 (l0 (hiN n m)), .int .u64 (l1 (hiN n m)), .int .u64 (l2 (hiN n m)), .int .u64 (l3 (hiN n m))], .agg #[.int .u64 (l0 (loN n m)), .int .u64 (l1 (loN n m)), .int .u64 (l2 (loN n m)), .int .u64 (l3 (loN n m))], .agg #[.int .u64 (l0 k), .int .u64 (l1 k), .int .u64 (l2 k), .int .u64 (l3 k)]] w fun e w' => e = .returned (.tuple #[.agg #[.int .u64 (l0 r), .int .u64 (l1 r), .int .u64 (l2 r), .int .u64 (l3 r)], .int .i64 er]) ∧ Below w.heap.size w w')) (w : World) :
    Calls Try.prog 32 #[.agg #[.int .u64 (l0 n), .int .u64 (l1 n), .int .u64 (l2 n), .int .u64 (l3 n)], .agg #[.int .u64 (l0 m), .int .u64 (l1 m), .int .u64 (l2 m), .int .u64 (l3 m)], .agg #[.int .u64 (l0 k), .int .u64 (l1 k), .int .u64 (l2 k), .int .u64 (l3 k)]] w fun e' w' => e' = .returned (.tuple #[.agg #[.int .u64 (l0 r), .int .u64 (l1 r), .int .u64 (l2 r), .int .u64 (l3 r)], .int .i64 er]) ∧ Below w.heap.size w w' := by
  go_enter Try.func32, Try.ntmps32
  go_wp2_with fail
  refine calls_world (fun W => Below w.heap.size w W ∧ Hold W (w.heap.size + 1 + 1) k ∧ Blank W (w.heap.size + 1 + 1 + 1)) ⟨?_, (Hold.fresh (by simp)).alloc _, Blank.new (by simp)⟩ ?_
  · repeat (first | with_reducible exact Below.refl _ _ | with_reducible refine Below.alloc ?_ (by first | omega | (simp; done) | (simp; omega)) _)
  rintro W ⟨B, hM, hR⟩
  have o1 : w.heap.size ≤ w.heap.size + 1 + 1 + 1 := by omega
  have c2 : w.heap.size + 1 + 1 + 1 ≠ w.heap.size + 1 + 1 := by omega
  generalize w.heap.size + 1 + 1 + 1 = br at *
  generalize w.heap.size + 1 + 1 = bm at *
  with_reducible refine (rmul_any hn hm _).mono ?_
  rintro e w1 ⟨rfl, hb⟩
  replace B := B.trans (hb.mono B.size)
  replace hR := hR.keep hb; replace hM := hM.keep hb
  clear hb W
  have gM := hM.allocs2
  go_wp2_with fail
  clear c2
  refine calls_world (fun W => Below w.heap.size w W ∧ Blank W br) ⟨(B.alloc B.size _).alloc (by have := B.size; simp; omega) _, (hR.alloc _).alloc _⟩ ?_
  clear B hR hM gM
  rintro W ⟨B, hR⟩
  with_reducible refine (RD.out _).mono ?_
  rintro e w2 ⟨rfl, hb⟩
  replace B := B.trans (hb.mono B.size)
  replace hR := hR.keep hb
  clear hb W
  have gR := hR.1.all4; have fR := hR.2.all4
  go_wp2
  repeat (go_region; go_wp2)
  simp [bodyPost, results, Try.results32, go_sem, gR]
  repeat (first | with_reducible exact B | with_reducible refine Below.drew ?_ | with_reducible refine Below.setCell ?_ o1 _)

end Go.Proofs.Ytjjimkhppoppbab

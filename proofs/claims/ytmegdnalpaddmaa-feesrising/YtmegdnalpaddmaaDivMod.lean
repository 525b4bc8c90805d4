import Derived.Test.YtmegdnalpaddmaaDivAny
import Derived.Test.YtmegdnalpaddmaaQTail
import Derived.Test.YtmegdnalpaddmaaMul2
import Derived.Test.YtmegdnalpaddmaaHold
import Derived.Test.YtmegdnalpaddmaaReduce
import Derived.Test.YtmegdnalpaddmaaOut
namespace Go.Proofs.Ytmegdnalpaddmaa
open Go.RowKit Go.Sort

theorem val8 {n : Int} (hn : Num n) : val [l0 n, l1 n, l2 n, l3 n, 0, 0, 0, 0] = n := by
  have := num_l hn
  unfold num at this
  simp only [val]
  omega
/-- A quotient below 2^256: its limbs. -/
theorem low_limbs {q0 q1 q2 q3 q4 q5 q6 q7 n : Int} (hq : Words [q0, q1, q2, q3, q4, q5, q6, q7]) (e : val [q0, q1, q2, q3, q4, q5, q6, q7] = n) (hn : Num n) : q0 = l0 n ∧ q1 = l1 n ∧ q2 = l2 n ∧ q3 = l3 n ∧ q4 = 0 ∧ q5 = 0 ∧ q6 = 0 ∧ q7 = 0 := by
  obtain ⟨_, _⟩ := hq q0 (by simp); obtain ⟨_, _⟩ := hq q1 (by simp); obtain ⟨_, _⟩ := hq q2 (by simp); obtain ⟨_, _⟩ := hq q3 (by simp)
  obtain ⟨_, _⟩ := hq q4 (by simp); obtain ⟨_, _⟩ := hq q5 (by simp); obtain ⟨_, _⟩ := hq q6 (by simp); obtain ⟨_, _⟩ := hq q7 (by simp)
  obtain ⟨_, _⟩ := hn
  simp only [val] at e
  unfold l0 l1 l2 l3
  omega

set_option maxHeartbeats 20000000 in
theorem divMod_some {n m : Int} (hn : Num n) (hm : Num m) (hz : m ≠ 0) (w : World) :
    Calls Try.prog 28 #[.agg #[.int .u64 (l0 n), .int .u64 (l1 n), .int .u64 (l2 n), .int .u64 (l3 n)], .agg #[.int .u64 (l0 m), .int .u64 (l1 m), .int .u64 (l2 m), .int .u64 (l3 m)]] w fun e w' => e = .returned (.tuple #[.agg #[.int .u64 (l0 (n / m)), .int .u64 (l1 (n / m)), .int .u64 (l2 (n / m)), .int .u64 (l3 (n / m))], .agg #[.int .u64 (l0 (n % m)), .int .u64 (l1 (n % m)), .int .u64 (l2 (n % m)), .int .u64 (l3 (n % m))], .int .i64 0]) ∧ Below w.heap.size w w' := by
  have he := eq_zero hm
  simp only [decide_eq_false hz] at he
  have hb := build_zero
  have z : Word 0 := ⟨by decide, by decide⟩
  obtain ⟨q0, q1, q2, q3, q4, q5, q6, q7, wq, vq, dv⟩ := divide_any (l0_word n) (l1_word n) (l2_word n) (l3_word n) z z z z hm hz
  rw [val8 hn] at vq dv
  have m0 : 0 < m := by have := hm.1; omega
  have nq : Num (n / m) := ⟨Int.ediv_nonneg hn.1 (by omega), Int.lt_of_le_of_lt (Int.ediv_le_self _ hn.1) hn.2⟩
  obtain ⟨rfl, rfl, rfl, rfl, rfl, rfl, rfl, rfl⟩ := low_limbs wq vq nq
  generalize n / m = q at *
  generalize n % m = r at *
  have DV : Hid (∀ w, Calls Try.prog 41 #[.agg #[.int .u64 (l0 n), .int .u64 (l1 n), .int .u64 (l2 n), .int .u64 (l3 n), .int .u64 0, .int .u64 0, .int .u64 0, .int .u64 0], .agg #[.int .u64 (l0 m), .int .u64 (l1 m), .int .u64 (l2 m), .int .u64 (l3 m)]] w fun e w' => e = .returned (.tuple #[.agg #[.int .u64 (l0 q), .int .u64 (l1 q), .int .u64 (l2 q), .int .u64 (l3 q), .int .u64 0, .int .u64 0, .int .u64 0, .int .u64 0], .agg #[.int .u64 (l0 r), .int .u64 (l1 r), .int .u64 (l2 r), .int .u64 (l3 r)]]) ∧ Below w.heap.size w w') := dv
  clear dv wq vq z
  go_enter Try.func28, Try.ntmps28
  go_wp2
  refine wp_world (fun W => Below w.heap.size w W ∧ Hold W w.heap.size n ∧ Hold W (w.heap.size + 1) m ∧ Row W (w.heap.size + 1 + 1) [0, 0, 0, 0] ∧ Loose W (w.heap.size + 1 + 1) 4 ∧ Row W (w.heap.size + 1 + 1 + 1) [0, 0, 0, 0] ∧ Loose W (w.heap.size + 1 + 1 + 1) 4) ⟨?_, ?_, ?_, ?_, ?_, ?_, ?_⟩ ?_
  · repeat (first | with_reducible exact Below.refl _ _ | with_reducible refine Below.alloc ?_ (by first | omega | (simp; done) | (simp; omega)) _)
  · exact (((Hold.new w n _).alloc _).alloc _).alloc _
  · have := Hold.new (w.alloc (.cells #[.int .u64 (l0 n), .int .u64 (l1 n), .int .u64 (l2 n), .int .u64 (l3 n)] 24)) m 24
    simp at this
    exact (this.alloc _).alloc _
  · have := Row.new ((w.alloc (.cells #[.int .u64 (l0 n), .int .u64 (l1 n), .int .u64 (l2 n), .int .u64 (l3 n)] 24)).alloc (.cells #[.int .u64 (l0 m), .int .u64 (l1 m), .int .u64 (l2 m), .int .u64 (l3 m)] 24)) [0, 0, 0, 0] 24
    simp at this
    exact this.alloc _
  · have := Loose.new ((w.alloc (.cells #[.int .u64 (l0 n), .int .u64 (l1 n), .int .u64 (l2 n), .int .u64 (l3 n)] 24)).alloc (.cells #[.int .u64 (l0 m), .int .u64 (l1 m), .int .u64 (l2 m), .int .u64 (l3 m)] 24)) #[.int .u64 0, .int .u64 0, .int .u64 0, .int .u64 0] 24 4
    simp at this
    exact this.alloc (by simp) _
  · have := Row.new (((w.alloc (.cells #[.int .u64 (l0 n), .int .u64 (l1 n), .int .u64 (l2 n), .int .u64 (l3 n)] 24)).alloc (.cells #[.int .u64 (l0 m), .int .u64 (l1 m), .int .u64 (l2 m), .int .u64 (l3 m)] 24)).alloc (.cells #[.int .u64 0, .int .u64 0, .int .u64 0, .int .u64 0] 24)) [0, 0, 0, 0] 24
    simp at this
    exact this
  · have := Loose.new (((w.alloc (.cells #[.int .u64 (l0 n), .int .u64 (l1 n), .int .u64 (l2 n), .int .u64 (l3 n)] 24)).alloc (.cells #[.int .u64 (l0 m), .int .u64 (l1 m), .int .u64 (l2 m), .int .u64 (l3 m)] 24)).alloc (.cells #[.int .u64 0, .int .u64 0, .int .u64 0, .int .u64 0] 24)) #[.int .u64 0, .int .u64 0, .int .u64 0, .int .u64 0] 24 4
    simp at this
    exact this
  clear he hb
  rintro W ⟨B, hX, hM, hQ, lQ, hR, lR⟩
  have gX := hX.cells; have gM := hM.cells
  have lx := World.block_lt_of_cell? W _ hX.1; have lm := World.block_lt_of_cell? W _ hM.1; have lq := hQ.lt (by simp); have lr := hR.lt (by simp)
  have o1 : w.heap.size ≤ w.heap.size + 1 + 1 := by omega
  have o2 : w.heap.size ≤ w.heap.size + 1 + 1 + 1 := by omega
  have c1 : w.heap.size + 1 + 1 ≠ w.heap.size + 1 + 1 + 1 := by omega
  have c2 : w.heap.size ≠ w.heap.size + 1 + 1 := by omega
  have c3 : w.heap.size + 1 ≠ w.heap.size + 1 + 1 := by omega
  generalize w.heap.size + 1 + 1 + 1 = br at *
  generalize w.heap.size + 1 + 1 = bq at *
  generalize w.heap.size + 1 = bm at *
  have BB : Hid (Below w.heap.size w W) := B
  have HQ : Hid (Blank W bq ∧ Blank W br) := ⟨⟨hQ, lQ⟩, ⟨hR, lR⟩⟩
  clear B hQ lQ hX hM hR lR
  generalize hbx : w.heap.size = bx at *
  refine wp_out (fun a' W' => ∃ bw brs, bw ≠ bq ∧ brs ≠ bq ∧ brs ≠ br ∧ bx ≤ brs ∧ Row W' bw [l0 q, l1 q, l2 q, l3 q, 0, 0, 0, 0] ∧ Hold W' brs r ∧ Blank W' bq ∧ Blank W' br ∧ Below bx w W' ∧ a' = { tmps := #[.agg #[.int .u64 (l0 n), .int .u64 (l1 n), .int .u64 (l2 n), .int .u64 (l3 n)], .agg #[.int .u64 (l0 m), .int .u64 (l1 m), .int .u64 (l2 m), .int .u64 (l3 m)], .pointer (some { block := bx, off := 0 }), .pointer (some { block := bm, off := 0 }), .pointer (some { block := bq, off := 0 }), .pointer (some { block := br, off := 0 }), .int .i64 0, .pointer (some { block := bw, off := 0 }), .pointer (some { block := brs, off := 0 }), .agg #[.int .u64 (l0 m), .int .u64 (l1 m), .int .u64 (l2 m), .int .u64 (l3 m)], .agg #[.int .u64 0, .int .u64 0, .int .u64 0, .int .u64 0], .bool false, Go.undef, Go.undef, .tuple #[.agg #[.int .u64 (l0 q), .int .u64 (l1 q), .int .u64 (l2 q), .int .u64 (l3 q), .int .u64 0, .int .u64 0, .int .u64 0, .int .u64 0], .agg #[.int .u64 (l0 r), .int .u64 (l1 r), .int .u64 (l2 r), .int .u64 (l3 r)]], .agg #[.int .u64 0, .int .u64 0, .int .u64 0, .int .u64 0], .agg #[.int .u64 (l0 n), .int .u64 (l1 n), .int .u64 (l2 n), .int .u64 (l3 n)], .agg #[.int .u64 (l0 n), .int .u64 (l1 n), .int .u64 (l2 n), .int .u64 (l3 n), .int .u64 0, .int .u64 0, .int .u64 0, .int .u64 0], .agg #[.int .u64 (l0 m), .int .u64 (l1 m), .int .u64 (l2 m), .int .u64 (l3 m)], .tuple #[.agg #[.int .u64 (l0 q), .int .u64 (l1 q), .int .u64 (l2 q), .int .u64 (l3 q), .int .u64 0, .int .u64 0, .int .u64 0, .int .u64 0], .agg #[.int .u64 (l0 r), .int .u64 (l1 r), .int .u64 (l2 r), .int .u64 (l3 r)]], .agg #[.int .u64 (l0 q), .int .u64 (l1 q), .int .u64 (l2 q), .int .u64 (l3 q), .int .u64 0, .int .u64 0, .int .u64 0, .int .u64 0], .agg #[.int .u64 (l0 r), .int .u64 (l1 r), .int .u64 (l2 r), .int .u64 (l3 r)], Go.undef, Go.undef, Go.undef, Go.undef, Go.undef, Go.undef, Go.undef], defers := [] }) ?_ ?_
  ·
    have _ : bx < W.heap.size := by omega
    have _ : bx ≤ W.heap.size := by omega
    have _ : bx < W.heap.size + 1 := by omega
    have _ : bx < W.heap.size + 1 + 1 := by omega
    have _ : bx ≠ W.heap.size := by omega
    have _ : W.heap.size ≠ bx := by omega
    have _ : bx ≠ W.heap.size + 1 := by omega
    have _ : W.heap.size + 1 ≠ bx := by omega
    have _ : bm < W.heap.size := by omega
    have _ : bm ≤ W.heap.size := by omega
    have _ : bm < W.heap.size + 1 := by omega
    have _ : bm < W.heap.size + 1 + 1 := by omega
    have _ : bm ≠ W.heap.size := by omega
    have _ : W.heap.size ≠ bm := by omega
    have _ : bm ≠ W.heap.size + 1 := by omega
    have _ : W.heap.size + 1 ≠ bm := by omega
    have _ : bq < W.heap.size := by omega
    have _ : bq ≤ W.heap.size := by omega
    have _ : bq < W.heap.size + 1 := by omega
    have _ : bq < W.heap.size + 1 + 1 := by omega
    have _ : bq ≠ W.heap.size := by omega
    have _ : W.heap.size ≠ bq := by omega
    have _ : bq ≠ W.heap.size + 1 := by omega
    have _ : W.heap.size + 1 ≠ bq := by omega
    have _ : br < W.heap.size := by omega
    have _ : br ≤ W.heap.size := by omega
    have _ : br < W.heap.size + 1 := by omega
    have _ : br < W.heap.size + 1 + 1 := by omega
    have _ : br ≠ W.heap.size := by omega
    have _ : W.heap.size ≠ br := by omega
    have _ : br ≠ W.heap.size + 1 := by omega
    have _ : W.heap.size + 1 ≠ br := by omega
    have dz : W.drew.heap.size = W.heap.size := rfl
    go_region_held3 (fun w' => w'.cell? ⟨bx, 0, none⟩ = some (.int .u64 (l0 n)) ∧ w'.cell? ⟨bx, 1, none⟩ = some (.int .u64 (l1 n)) ∧ w'.cell? ⟨bx, 2, none⟩ = some (.int .u64 (l2 n)) ∧ w'.cell? ⟨bx, 3, none⟩ = some (.int .u64 (l3 n)) ∧ w'.cell? ⟨bm, 0, none⟩ = some (.int .u64 (l0 m)) ∧ w'.cell? ⟨bm, 1, none⟩ = some (.int .u64 (l1 m)) ∧ w'.cell? ⟨bm, 2, none⟩ = some (.int .u64 (l2 m)) ∧ w'.cell? ⟨bm, 3, none⟩ = some (.int .u64 (l3 m))) (((try dsimp only); (repeat' (apply And.intro)); (all_goals repeat (first | (simp [go_sem, *]; done) | with_reducible apply cell_keep hb2 | with_reducible apply cell_keep hb1 | with_reducible apply cell_alloc | (with_reducible refine cell_set ?_ (by assumption))))))
      (first
        | (go_at_call 42; refine (join_any _ _ _ _ _ _ _ _ _).mono ?_; rintro e w1 ⟨rfl, hb1⟩; have hc1 := oldCells hb1; have hz1 := hb1.size; (try simp at hz1); (try (have := fun j => oldCells hb1 (W.heap.size) j (by first | omega | (simp; done) | (simp; omega)))); (try (have := fun j => oldCells hb1 (W.heap.size + 1) j (by first | omega | (simp; done) | (simp; omega)))); have _ : bx < w1.heap.size := (by omega); have _ : bx ≤ w1.heap.size := (by omega); have _ : bx < w1.heap.size + 1 := (by omega); have _ : bx < w1.heap.size + 1 + 1 := (by omega); have _ : bx ≠ w1.heap.size := (by omega); have _ : w1.heap.size ≠ bx := (by omega); have _ : bx ≠ w1.heap.size + 1 := (by omega); have _ : w1.heap.size + 1 ≠ bx := (by omega); have _ : bm < w1.heap.size := (by omega); have _ : bm ≤ w1.heap.size := (by omega); have _ : bm < w1.heap.size + 1 := (by omega); have _ : bm < w1.heap.size + 1 + 1 := (by omega); have _ : bm ≠ w1.heap.size := (by omega); have _ : w1.heap.size ≠ bm := (by omega); have _ : bm ≠ w1.heap.size + 1 := (by omega); have _ : w1.heap.size + 1 ≠ bm := (by omega); have _ : bq < w1.heap.size := (by omega); have _ : bq ≤ w1.heap.size := (by omega); have _ : bq < w1.heap.size + 1 := (by omega); have _ : bq < w1.heap.size + 1 + 1 := (by omega); have _ : bq ≠ w1.heap.size := (by omega); have _ : w1.heap.size ≠ bq := (by omega); have _ : bq ≠ w1.heap.size + 1 := (by omega); have _ : w1.heap.size + 1 ≠ bq := (by omega); have _ : br < w1.heap.size := (by omega); have _ : br ≤ w1.heap.size := (by omega); have _ : br < w1.heap.size + 1 := (by omega); have _ : br < w1.heap.size + 1 + 1 := (by omega); have _ : br ≠ w1.heap.size := (by omega); have _ : w1.heap.size ≠ br := (by omega); have _ : br ≠ w1.heap.size + 1 := (by omega); have _ : w1.heap.size + 1 ≠ br := (by omega); (try (have _ : W.heap.size < w1.heap.size := (by omega))); (try (have _ : W.heap.size ≤ w1.heap.size := (by omega))); (try (have _ : W.heap.size ≠ w1.heap.size := (by omega))); (try (have _ : w1.heap.size ≠ W.heap.size := (by omega))); (try (have _ : W.heap.size < w1.heap.size + 1 := (by omega))); (try (have _ : W.heap.size + 1 < w1.heap.size := (by omega))); (try (have _ : W.heap.size + 1 ≤ w1.heap.size := (by omega))); (try (have _ : W.heap.size + 1 ≠ w1.heap.size := (by omega))); (try (have _ : w1.heap.size ≠ W.heap.size + 1 := (by omega))); (try (have _ : W.heap.size + 1 < w1.heap.size + 1 := (by omega))))
        | (go_at_call 41; refine (DV.out _).mono ?_; rintro e w2 ⟨rfl, hb2⟩; have hc2 := oldCells hb2; have hz2 := hb2.size; (try simp at hz2); (try (have := fun j => oldCells hb2 (W.heap.size) j (by first | omega | (simp; done) | (simp; omega)))); (try (have := fun j => oldCells hb2 (W.heap.size + 1) j (by first | omega | (simp; done) | (simp; omega)))); (try (have := fun j => oldCells hb2 (w1.heap.size) j (by first | omega | (simp; done) | (simp; omega)))); (try (have := fun j => oldCells hb2 (w1.heap.size + 1) j (by first | omega | (simp; done) | (simp; omega)))); have _ : bx < w2.heap.size := (by omega); have _ : bx ≤ w2.heap.size := (by omega); have _ : bx < w2.heap.size + 1 := (by omega); have _ : bx < w2.heap.size + 1 + 1 := (by omega); have _ : bx ≠ w2.heap.size := (by omega); have _ : w2.heap.size ≠ bx := (by omega); have _ : bx ≠ w2.heap.size + 1 := (by omega); have _ : w2.heap.size + 1 ≠ bx := (by omega); have _ : bm < w2.heap.size := (by omega); have _ : bm ≤ w2.heap.size := (by omega); have _ : bm < w2.heap.size + 1 := (by omega); have _ : bm < w2.heap.size + 1 + 1 := (by omega); have _ : bm ≠ w2.heap.size := (by omega); have _ : w2.heap.size ≠ bm := (by omega); have _ : bm ≠ w2.heap.size + 1 := (by omega); have _ : w2.heap.size + 1 ≠ bm := (by omega); have _ : bq < w2.heap.size := (by omega); have _ : bq ≤ w2.heap.size := (by omega); have _ : bq < w2.heap.size + 1 := (by omega); have _ : bq < w2.heap.size + 1 + 1 := (by omega); have _ : bq ≠ w2.heap.size := (by omega); have _ : w2.heap.size ≠ bq := (by omega); have _ : bq ≠ w2.heap.size + 1 := (by omega); have _ : w2.heap.size + 1 ≠ bq := (by omega); have _ : br < w2.heap.size := (by omega); have _ : br ≤ w2.heap.size := (by omega); have _ : br < w2.heap.size + 1 := (by omega); have _ : br < w2.heap.size + 1 + 1 := (by omega); have _ : br ≠ w2.heap.size := (by omega); have _ : w2.heap.size ≠ br := (by omega); have _ : br ≠ w2.heap.size + 1 := (by omega); have _ : w2.heap.size + 1 ≠ br := (by omega); (try (have _ : W.heap.size < w2.heap.size := (by omega))); (try (have _ : W.heap.size ≤ w2.heap.size := (by omega))); (try (have _ : W.heap.size ≠ w2.heap.size := (by omega))); (try (have _ : w2.heap.size ≠ W.heap.size := (by omega))); (try (have _ : W.heap.size < w2.heap.size + 1 := (by omega))); (try (have _ : W.heap.size + 1 < w2.heap.size := (by omega))); (try (have _ : W.heap.size + 1 ≤ w2.heap.size := (by omega))); (try (have _ : W.heap.size + 1 ≠ w2.heap.size := (by omega))); (try (have _ : w2.heap.size ≠ W.heap.size + 1 := (by omega))); (try (have _ : W.heap.size + 1 < w2.heap.size + 1 := (by omega))); (try (have _ : w1.heap.size < w2.heap.size := (by omega))); (try (have _ : w1.heap.size ≤ w2.heap.size := (by omega))); (try (have _ : w1.heap.size ≠ w2.heap.size := (by omega))); (try (have _ : w2.heap.size ≠ w1.heap.size := (by omega))); (try (have _ : w1.heap.size < w2.heap.size + 1 := (by omega))); (try (have _ : w1.heap.size + 1 < w2.heap.size := (by omega))); (try (have _ : w1.heap.size + 1 ≤ w2.heap.size := (by omega))); (try (have _ : w1.heap.size + 1 ≠ w2.heap.size := (by omega))); (try (have _ : w2.heap.size ≠ w1.heap.size + 1 := (by omega))); (try (have _ : w1.heap.size + 1 < w2.heap.size + 1 := (by omega)))))
    all_goals (refine OutQ.intro ⟨_, _, ?_, ?_, ?_, ?_, ?_, ?_, ?_, ?_, ?_, rfl⟩)
    all_goals first | with_reducible assumption | with_reducible exact Nat.le_succ_of_le (by with_reducible assumption) | skip
    all_goals repeat (first | with_reducible exact HQ.out.1 | with_reducible exact HQ.out.2 | with_reducible exact BB.out | with_reducible refine Row.fresh8 (by first | rfl | (simp; done) | fail) | with_reducible refine Hold.fresh (by first | rfl | (simp; done) | fail) | with_reducible refine Row.sets8 ?_ | with_reducible refine Hold.sets4 ?_ | with_reducible refine Row.alloc ?_ _ | with_reducible refine Hold.alloc ?_ _ | with_reducible refine Row.setOther ?_ (by first | with_reducible assumption | exact Nat.succ_ne_self _ | exact (Nat.succ_ne_self _).symm) _ | with_reducible refine Hold.set ?_ (by first | with_reducible assumption | exact Nat.succ_ne_self _ | exact (Nat.succ_ne_self _).symm) _ | with_reducible refine Blank.alloc ?_ _ | with_reducible refine Blank.drew ?_ | with_reducible refine Blank.set ?_ (by first | with_reducible assumption | exact Nat.succ_ne_self _ | exact (Nat.succ_ne_self _).symm) _ | with_reducible refine Blank.keep ?_ hb2 | with_reducible refine Blank.keep ?_ hb1 | with_reducible refine Has.fresh (by first | rfl | (simp; done) | fail) (by first | (simp; done) | fail) | with_reducible refine Has.alloc ?_ _ | with_reducible refine Has.set ?_ _ _ | with_reducible refine Has.keep ?_ hb2 | with_reducible refine Has.keep ?_ hb1 | with_reducible refine Has.drew ?_ | with_reducible refine below_alloc hbx ?_ _ | with_reducible refine Below.drew ?_ | with_reducible refine Below.setCell ?_ (by first | with_reducible assumption | exact Nat.le_succ_of_le (by with_reducible assumption)) _ | with_reducible refine below_then hbx ?_ hb2 | with_reducible refine below_then hbx ?_ hb1)
  · clear DV
    rintro _ V ⟨bw, brs, n1, n2, n3, n4, hW, hS, ⟨hQ, lQ⟩, ⟨hR, lR⟩, B, rfl⟩
    clear lm lx lr lq gX gM HQ BB
    have gW := hW.all8
    go_wp2_with fail
    refine (split_any _ _ _ _ _ _ _ _ _).mono ?_
    rintro e w3 ⟨rfl, hb3⟩
    have lq := hQ.lt (by simp); have lr := hR.lt (by simp)
    replace B := B.trans (hb3.mono (by have := B.size; omega))
    replace hQ := hQ.keep hb3; replace lQ := lQ.keep hb3 lq; replace hR := hR.keep hb3; replace lR := lR.keep hb3 lr; replace hS := hS.keep hb3
    clear hb3 hW gW lq lr V
    have gQ := hQ.all4; have fQ := lQ.all4
    go_wp2_with fail
    refine wp_world (fun V => Hold V bq q ∧ Loose V bq 4 ∧ Hold V brs r ∧ Row V br [0, 0, 0, 0] ∧ Loose V br 4 ∧ Below bx w V) ⟨?_, ?_, ?_, ?_, ?_, ?_⟩ ?_
    · exact ((((hQ.set 0 (by simp) (l0 q)).set 1 (by simp) (l1 q)).set 2 (by simp) (l2 q)).set 3 (by simp) (l3 q)).all4
    · exact ((((lQ.set _ _).set _ _).set _ _).set _ _)
    · exact ((((hS.set n2.symm _).set n2.symm _).set n2.symm _).set n2.symm _)
    · exact ((((hR.setOther c1 _).setOther c1 _).setOther c1 _).setOther c1 _)
    · exact ((((lR.set _ _).set _ _).set _ _).set _ _)
    · exact ((((B.setCell o1 _).setCell o1 _).setCell o1 _).setCell o1 _)
    clear gQ fQ hQ lQ hS hR lR B w3
    rintro V ⟨hQ, lQ, hS, hR, lR, B⟩
    have gQ := hQ.cells; have fQ := lQ.all4; have gS := hS.cells; have gR := hR.all4; have fR := lR.all4
    have BV : Hid (Below bx w V) := B
    clear hQ lQ hS hR lR B
    have c1' := c1.symm; have n2' := n2.symm; have n3' := n3.symm
    go_region_held3 (fun w' => w'.cell? ⟨bq, 0, none⟩ = some (.int .u64 (l0 q)) ∧ w'.cell? ⟨bq, 1, none⟩ = some (.int .u64 (l1 q)) ∧ w'.cell? ⟨bq, 2, none⟩ = some (.int .u64 (l2 q)) ∧ w'.cell? ⟨bq, 3, none⟩ = some (.int .u64 (l3 q)) ∧ w'.cell? ⟨brs, 0, none⟩ = some (.int .u64 (l0 r)) ∧ w'.cell? ⟨brs, 1, none⟩ = some (.int .u64 (l1 r)) ∧ w'.cell? ⟨brs, 2, none⟩ = some (.int .u64 (l2 r)) ∧ w'.cell? ⟨brs, 3, none⟩ = some (.int .u64 (l3 r))) (((try dsimp only); (repeat' (apply And.intro)); (all_goals (simp [go_sem, *]; done)))) (fail)
    all_goals go_wp2
    all_goals simp [bodyPost, results, Try.results28, go_sem, *]
    all_goals repeat (first | with_reducible exact BV.out | with_reducible refine Below.drew ?_ | with_reducible refine Below.setCell ?_ (by first | omega | (simp; omega)) _)
end Go.Proofs.Ytmegdnalpaddmaa

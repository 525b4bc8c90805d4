import Derived.Test.YtjjimkhppoppbabRootNum
import Derived.Test.YtjjimkhppoppbabExp
import Derived.Test.YtjjimkhppoppbabReduce
import Derived.Test.YtjjimkhppoppbabCmp
import Derived.Deep.RegionWith
import Derived.Deep.LoopGhost
namespace Go.Proofs.Ytjjimkhppoppbab
open Go.RowKit Go.Sort

theorem Blank.sets {W : World} {b : Nat} (h : Blank W b) (k : Int) : Var ((((W.setCell ⟨b, 0, none⟩ (.int .u64 (l0 k))).setCell ⟨b, 1, none⟩ (.int .u64 (l1 k))).setCell ⟨b, 2, none⟩ (.int .u64 (l2 k))).setCell ⟨b, 3, none⟩ (.int .u64 (l3 k))) b k := by
  obtain ⟨h0, h1, h2, h3⟩ := h.1.all4
  refine ⟨Hold.sets4 ?_, (((h.2.set _ _).set _ _).set _ _).set _ _⟩
  intro i hi
  match i, hi with
  | 0, _ => rw [h0]; rfl
  | 1, _ => rw [h1]; rfl
  | 2, _ => rw [h2]; rfl
  | 3, _ => rw [h3]; rfl

set_option maxRecDepth 100000 in
set_option maxHeartbeats 8000000 in
theorem root_some {n s : Int} (hn : Num n) (hz : n ≠ 0) (hs : IsRoot n s)
    (DV : Hid (∀ m, Num m → m ≠ 0 → ∀ w, Calls Try.prog 18 #[.agg #[.int .u64 (l0 n), .int .u64 (l1 n), .int .u64 (l2 n), .int .u64 (l3 n)], .agg #[.int .u64 (l0 m), .int .u64 (l1 m), .int .u64 (l2 m), .int .u64 (l3 m)]] w fun e w' => e = .returned (.tuple #[.agg #[.int .u64 (l0 (n / m)), .int .u64 (l1 (n / m)), .int .u64 (l2 (n / m)), .int .u64 (l3 (n / m))], .agg #[.int .u64 (l0 (n % m)), .int .u64 (l1 (n % m)), .int .u64 (l2 (n % m)), .int .u64 (l3 (n % m))], .int .i64 0]) ∧ Below w.heap.size w w')) (w : World) :
    Calls Try.prog 8 #[.agg #[.int .u64 (l0 n), .int .u64 (l1 n), .int .u64 (l2 n), .int .u64 (l3 n)]] w fun e w' => e = .returned (.agg #[.int .u64 (l0 s), .int .u64 (l1 s), .int .u64 (l2 s), .int .u64 (l3 s)]) ∧ Below w.heap.size w w' := by
  have one : Word 1 := ⟨by decide, by decide⟩
  have he := eq_zero hn
  simp only [decide_eq_false hz] at he
  have hb0 := build_zero
  obtain ⟨j, ej, hj, lj, _⟩ := lenN_bound hn
  have k0 : (j + 1) / 2 ≤ 128 := by omega
  have ev : IntKind.i64.wrap ((IntKind.i64.wrap ((j : Int) + 1)).tdiv 2) = (((j + 1) / 2 : Nat) : Int) := by rw [IntWalk.i64_in ((j : Int) + 1) ⟨by omega, by omega⟩, IntWalk.i64_quo ((j : Int) + 1) 2 ⟨by omega, by omega, by omega⟩]; omega
  have L : Hid (∀ w, Calls Try.prog 33 #[.agg #[.int .u64 (l0 n), .int .u64 (l1 n), .int .u64 (l2 n), .int .u64 (l3 n)]] w fun e w' => e = .returned (.int .i64 j) ∧ Below w.heap.size w w') := fun w => by have := len_any hn w; rw [ej] at this; exact this
  have SH : Hid (∀ w, Calls Try.prog 36 #[.agg #[.int .u64 (l0 1), .int .u64 (l1 1), .int .u64 (l2 1), .int .u64 (l3 1)], .int .i64 (IntKind.i64.wrap ((IntKind.i64.wrap ((j : Int) + 1)).tdiv 2))] w fun e w' => e = .returned (.agg #[.int .u64 (l0 (2 ^ ((j + 1) / 2))), .int .u64 (l1 (2 ^ ((j + 1) / 2))), .int .u64 (l2 (2 ^ ((j + 1) / 2))), .int .u64 (l3 (2 ^ ((j + 1) / 2)))]) ∧ Below w.heap.size w w') := fun w => by have := shl_any (n := 1) (k := (((j + 1) / 2 : Nat) : Int)) ⟨by decide, by decide⟩ w; rw [shl_one k0] at this; rw [ev]; exact this
  have Num_one : Num 1 := ⟨by decide, by decide⟩
  clear ev
  have ps := pow_small k0
  have st := root_start lj hs
  generalize (2 : Int) ^ ((j + 1) / 2) = p at *
  generalize (j + 1) / 2 = k at *
  go_enter Try.func8, Try.ntmps8
  go_wp2_with fail
  refine wp_world (fun W => Below w.heap.size w W ∧ Hold W w.heap.size n ∧ Blank W (w.heap.size + 1)) ⟨?_, ?_, ?_⟩ ?_
  · repeat (first | with_reducible exact Below.refl _ _ | with_reducible refine Below.alloc ?_ (by first | omega | (simp; done) | (simp; omega)) _)
  · exact (Hold.new w n _).alloc _
  · exact Blank.new (by simp)
  rintro W ⟨B, hX, hR⟩
  have gX := hX.cells
  have lx := World.block_lt_of_cell? W _ hX.1; have lr := hR.1.lt (by simp)
  have o1 : w.heap.size ≤ w.heap.size + 1 := by omega
  have c0 : w.heap.size ≠ w.heap.size + 1 := by omega
  generalize w.heap.size + 1 = br at *
  have BB : Hid (Below w.heap.size w W) := B
  have HX : Hid (Hold W w.heap.size n) := hX
  have HR : Hid (Blank W br) := hR
  clear B hX hR
  generalize hbx : w.heap.size = bx at *
  refine wp_out (fun a' W' => ∃ bp, bx ≠ bp ∧ br ≠ bp ∧ bx ≤ bp ∧ Hold W' bx n ∧ Blank W' br ∧ Var W' bp p ∧ Below bx w W' ∧ a' = { tmps := #[.agg #[.int .u64 (l0 n), .int .u64 (l1 n), .int .u64 (l2 n), .int .u64 (l3 n)], .pointer (some { block := bx, off := 0 }), .pointer (some { block := br, off := 0 }), .pointer (some { block := bp, off := 0 }), Go.undef, Go.undef, Go.undef, Go.undef, Go.undef, Go.undef, .agg #[.int .u64 (l0 n), .int .u64 (l1 n), .int .u64 (l2 n), .int .u64 (l3 n)], .agg #[.int .u64 0, .int .u64 0, .int .u64 0, .int .u64 0], .bool false, Go.undef, .agg #[.int .u64 (l0 1), .int .u64 (l1 1), .int .u64 (l2 1), .int .u64 (l3 1)], .agg #[.int .u64 (l0 n), .int .u64 (l1 n), .int .u64 (l2 n), .int .u64 (l3 n)], .int .i64 ↑j, .int .i64 (IntKind.i64.wrap (↑j + 1)), .int .i64 (IntKind.i64.wrap ((IntKind.i64.wrap (↑j + 1)).tdiv 2)), .agg #[.int .u64 (l0 p), .int .u64 (l1 p), .int .u64 (l2 p), .int .u64 (l3 p)], Go.undef, Go.undef, Go.undef, Go.undef, Go.undef, Go.undef, Go.undef, Go.undef, Go.undef, Go.undef, Go.undef, Go.undef, Go.undef, Go.undef, Go.undef, Go.undef, Go.undef, Go.undef, Go.undef, Go.undef, Go.undef], defers := [] }) ?_ ?_
  · clear DV hs hn hz st ps
    have _ : bx < W.heap.size := by omega
    have _ : bx ≤ W.heap.size := by omega
    have _ : bx < W.heap.size + 1 := by omega
    have _ : bx < W.heap.size + 1 + 1 := by omega
    have _ : bx ≠ W.heap.size := by omega
    have _ : W.heap.size ≠ bx := by omega
    have _ : bx ≠ W.heap.size + 1 := by omega
    have _ : W.heap.size + 1 ≠ bx := by omega
    have _ : br < W.heap.size := by omega
    have _ : br ≤ W.heap.size := by omega
    have _ : br < W.heap.size + 1 := by omega
    have _ : br < W.heap.size + 1 + 1 := by omega
    have _ : br ≠ W.heap.size := by omega
    have _ : W.heap.size ≠ br := by omega
    have _ : br ≠ W.heap.size + 1 := by omega
    have _ : W.heap.size + 1 ≠ br := by omega
    have dz : W.drew.heap.size = W.heap.size := rfl
    go_region_held3 (fun w' => w'.cell? ⟨bx, 0, none⟩ = some (.int .u64 (l0 n)) ∧ w'.cell? ⟨bx, 1, none⟩ = some (.int .u64 (l1 n)) ∧ w'.cell? ⟨bx, 2, none⟩ = some (.int .u64 (l2 n)) ∧ w'.cell? ⟨bx, 3, none⟩ = some (.int .u64 (l3 n))) (((try dsimp only); (repeat' (apply And.intro)); (all_goals repeat (first | with_reducible assumption | with_reducible apply cell_keep hb3 | with_reducible apply cell_keep hb2 | with_reducible apply cell_keep hb1 | with_reducible apply cell_alloc | (with_reducible refine cell_set ?_ (by with_reducible assumption)) | (simp [go_sem, *]; done)))))
      (first
        | (go_at_call 23; refine (from_any one _).mono ?_; rintro e w1 ⟨rfl, hb1⟩; have hc1 := oldCells hb1; have hz1 := hb1.size; (try simp at hz1); (try (have := fun j => oldCells hb1 (W.heap.size) j (by first | omega | (simp; done) | (simp; omega)))); (try (have := fun j => oldCells hb1 (W.heap.size + 1) j (by first | omega | (simp; done) | (simp; omega)))); have _ : bx < w1.heap.size := (by omega); have _ : bx ≤ w1.heap.size := (by omega); have _ : bx < w1.heap.size + 1 := (by omega); have _ : bx < w1.heap.size + 1 + 1 := (by omega); have _ : bx ≠ w1.heap.size := (by omega); have _ : w1.heap.size ≠ bx := (by omega); have _ : bx ≠ w1.heap.size + 1 := (by omega); have _ : w1.heap.size + 1 ≠ bx := (by omega); have _ : br < w1.heap.size := (by omega); have _ : br ≤ w1.heap.size := (by omega); have _ : br < w1.heap.size + 1 := (by omega); have _ : br < w1.heap.size + 1 + 1 := (by omega); have _ : br ≠ w1.heap.size := (by omega); have _ : w1.heap.size ≠ br := (by omega); have _ : br ≠ w1.heap.size + 1 := (by omega); have _ : w1.heap.size + 1 ≠ br := (by omega); (try (have _ : W.heap.size < w1.heap.size := (by omega))); (try (have _ : W.heap.size ≤ w1.heap.size := (by omega))); (try (have _ : W.heap.size ≠ w1.heap.size := (by omega))); (try (have _ : w1.heap.size ≠ W.heap.size := (by omega))); (try (have _ : W.heap.size < w1.heap.size + 1 := (by omega))); (try (have _ : W.heap.size + 1 < w1.heap.size := (by omega))); (try (have _ : W.heap.size + 1 ≤ w1.heap.size := (by omega))); (try (have _ : W.heap.size + 1 ≠ w1.heap.size := (by omega))); (try (have _ : w1.heap.size ≠ W.heap.size + 1 := (by omega))); (try (have _ : W.heap.size + 1 < w1.heap.size + 1 := (by omega))))
        | (go_at_call 33; refine (L.out _).mono ?_; rintro e w2 ⟨rfl, hb2⟩; have hc2 := oldCells hb2; have hz2 := hb2.size; (try simp at hz2); (try (have := fun j => oldCells hb2 (W.heap.size) j (by first | omega | (simp; done) | (simp; omega)))); (try (have := fun j => oldCells hb2 (W.heap.size + 1) j (by first | omega | (simp; done) | (simp; omega)))); (try (have := fun j => oldCells hb2 (w1.heap.size) j (by first | omega | (simp; done) | (simp; omega)))); (try (have := fun j => oldCells hb2 (w1.heap.size + 1) j (by first | omega | (simp; done) | (simp; omega)))); have _ : bx < w2.heap.size := (by omega); have _ : bx ≤ w2.heap.size := (by omega); have _ : bx < w2.heap.size + 1 := (by omega); have _ : bx < w2.heap.size + 1 + 1 := (by omega); have _ : bx ≠ w2.heap.size := (by omega); have _ : w2.heap.size ≠ bx := (by omega); have _ : bx ≠ w2.heap.size + 1 := (by omega); have _ : w2.heap.size + 1 ≠ bx := (by omega); have _ : br < w2.heap.size := (by omega); have _ : br ≤ w2.heap.size := (by omega); have _ : br < w2.heap.size + 1 := (by omega); have _ : br < w2.heap.size + 1 + 1 := (by omega); have _ : br ≠ w2.heap.size := (by omega); have _ : w2.heap.size ≠ br := (by omega); have _ : br ≠ w2.heap.size + 1 := (by omega); have _ : w2.heap.size + 1 ≠ br := (by omega); (try (have _ : W.heap.size < w2.heap.size := (by omega))); (try (have _ : W.heap.size ≤ w2.heap.size := (by omega))); (try (have _ : W.heap.size ≠ w2.heap.size := (by omega))); (try (have _ : w2.heap.size ≠ W.heap.size := (by omega))); (try (have _ : W.heap.size < w2.heap.size + 1 := (by omega))); (try (have _ : W.heap.size + 1 < w2.heap.size := (by omega))); (try (have _ : W.heap.size + 1 ≤ w2.heap.size := (by omega))); (try (have _ : W.heap.size + 1 ≠ w2.heap.size := (by omega))); (try (have _ : w2.heap.size ≠ W.heap.size + 1 := (by omega))); (try (have _ : W.heap.size + 1 < w2.heap.size + 1 := (by omega))); (try (have _ : w1.heap.size < w2.heap.size := (by omega))); (try (have _ : w1.heap.size ≤ w2.heap.size := (by omega))); (try (have _ : w1.heap.size ≠ w2.heap.size := (by omega))); (try (have _ : w2.heap.size ≠ w1.heap.size := (by omega))); (try (have _ : w1.heap.size < w2.heap.size + 1 := (by omega))); (try (have _ : w1.heap.size + 1 < w2.heap.size := (by omega))); (try (have _ : w1.heap.size + 1 ≤ w2.heap.size := (by omega))); (try (have _ : w1.heap.size + 1 ≠ w2.heap.size := (by omega))); (try (have _ : w2.heap.size ≠ w1.heap.size + 1 := (by omega))); (try (have _ : w1.heap.size + 1 < w2.heap.size + 1 := (by omega))))
        | (go_at_call 36; refine (SH.out _).mono ?_; rintro e w3 ⟨rfl, hb3⟩; have hc3 := oldCells hb3; have hz3 := hb3.size; (try simp at hz3); (try (have := fun j => oldCells hb3 (W.heap.size) j (by first | omega | (simp; done) | (simp; omega)))); (try (have := fun j => oldCells hb3 (W.heap.size + 1) j (by first | omega | (simp; done) | (simp; omega)))); (try (have := fun j => oldCells hb3 (w1.heap.size) j (by first | omega | (simp; done) | (simp; omega)))); (try (have := fun j => oldCells hb3 (w1.heap.size + 1) j (by first | omega | (simp; done) | (simp; omega)))); (try (have := fun j => oldCells hb3 (w2.heap.size) j (by first | omega | (simp; done) | (simp; omega)))); (try (have := fun j => oldCells hb3 (w2.heap.size + 1) j (by first | omega | (simp; done) | (simp; omega)))); have _ : bx < w3.heap.size := (by omega); have _ : bx ≤ w3.heap.size := (by omega); have _ : bx < w3.heap.size + 1 := (by omega); have _ : bx < w3.heap.size + 1 + 1 := (by omega); have _ : bx ≠ w3.heap.size := (by omega); have _ : w3.heap.size ≠ bx := (by omega); have _ : bx ≠ w3.heap.size + 1 := (by omega); have _ : w3.heap.size + 1 ≠ bx := (by omega); have _ : br < w3.heap.size := (by omega); have _ : br ≤ w3.heap.size := (by omega); have _ : br < w3.heap.size + 1 := (by omega); have _ : br < w3.heap.size + 1 + 1 := (by omega); have _ : br ≠ w3.heap.size := (by omega); have _ : w3.heap.size ≠ br := (by omega); have _ : br ≠ w3.heap.size + 1 := (by omega); have _ : w3.heap.size + 1 ≠ br := (by omega); (try (have _ : W.heap.size < w3.heap.size := (by omega))); (try (have _ : W.heap.size ≤ w3.heap.size := (by omega))); (try (have _ : W.heap.size ≠ w3.heap.size := (by omega))); (try (have _ : w3.heap.size ≠ W.heap.size := (by omega))); (try (have _ : W.heap.size < w3.heap.size + 1 := (by omega))); (try (have _ : W.heap.size + 1 < w3.heap.size := (by omega))); (try (have _ : W.heap.size + 1 ≤ w3.heap.size := (by omega))); (try (have _ : W.heap.size + 1 ≠ w3.heap.size := (by omega))); (try (have _ : w3.heap.size ≠ W.heap.size + 1 := (by omega))); (try (have _ : W.heap.size + 1 < w3.heap.size + 1 := (by omega))); (try (have _ : w1.heap.size < w3.heap.size := (by omega))); (try (have _ : w1.heap.size ≤ w3.heap.size := (by omega))); (try (have _ : w1.heap.size ≠ w3.heap.size := (by omega))); (try (have _ : w3.heap.size ≠ w1.heap.size := (by omega))); (try (have _ : w1.heap.size < w3.heap.size + 1 := (by omega))); (try (have _ : w1.heap.size + 1 < w3.heap.size := (by omega))); (try (have _ : w1.heap.size + 1 ≤ w3.heap.size := (by omega))); (try (have _ : w1.heap.size + 1 ≠ w3.heap.size := (by omega))); (try (have _ : w3.heap.size ≠ w1.heap.size + 1 := (by omega))); (try (have _ : w1.heap.size + 1 < w3.heap.size + 1 := (by omega))); (try (have _ : w2.heap.size < w3.heap.size := (by omega))); (try (have _ : w2.heap.size ≤ w3.heap.size := (by omega))); (try (have _ : w2.heap.size ≠ w3.heap.size := (by omega))); (try (have _ : w3.heap.size ≠ w2.heap.size := (by omega))); (try (have _ : w2.heap.size < w3.heap.size + 1 := (by omega))); (try (have _ : w2.heap.size + 1 < w3.heap.size := (by omega))); (try (have _ : w2.heap.size + 1 ≤ w3.heap.size := (by omega))); (try (have _ : w2.heap.size + 1 ≠ w3.heap.size := (by omega))); (try (have _ : w3.heap.size ≠ w2.heap.size + 1 := (by omega))); (try (have _ : w2.heap.size + 1 < w3.heap.size + 1 := (by omega)))))
    all_goals (refine OutQ.intro ⟨_, ?_, ?_, ?_, ?_, ?_, ?_, ?_, rfl⟩)
    all_goals first | with_reducible assumption | skip
    all_goals repeat (first | with_reducible exact HX.out | with_reducible exact HR.out | with_reducible exact BB.out | with_reducible refine Var.new (by first | rfl | (simp; done) | fail) | with_reducible refine Blank.sets ?_ _ | with_reducible refine Hold.alloc ?_ _ | with_reducible refine Hold.drew ?_ | with_reducible refine Hold.set4 ?_ (by with_reducible assumption) _ _ _ _ | with_reducible refine Blank.new (by first | rfl | (simp; done) | fail) | with_reducible refine Blank.alloc ?_ _ | with_reducible refine Blank.drew ?_ | with_reducible refine Blank.set4 ?_ (by with_reducible assumption) _ _ _ _ | with_reducible refine below_alloc hbx ?_ _ | with_reducible refine Below.drew ?_ | with_reducible refine Below.setCell ?_ (by with_reducible assumption) _ | with_reducible refine Hold.keep ?_ hb3 | with_reducible refine Hold.keep ?_ hb2 | with_reducible refine Hold.keep ?_ hb1 | with_reducible refine Blank.keep ?_ hb3 | with_reducible refine Blank.keep ?_ hb2 | with_reducible refine Blank.keep ?_ hb1 | with_reducible refine below_then hbx ?_ hb3 | with_reducible refine below_then hbx ?_ hb2 | with_reducible refine below_then hbx ?_ hb1)
  · rintro _ V ⟨bp, n1, n2, o2, hX, hR, hP, B, rfl⟩
    clear gX lx lr BB HX HR
    subst hbx
    obtain ⟨n0, _⟩ := hn
    have s1 : 1 ≤ s := by
      obtain ⟨a, _, b⟩ := hs
      by_cases h : s = 0
      · subst h; omega
      · omega
    clear he hb0 L SH
    have HS : Hid (IsRoot n s) := hs
    have HN : Hid (0 ≤ n ∧ n ≠ 0) := ⟨n0, hz⟩
    have ST : Hid (s ≤ p) := st
    have PS : Hid (0 < p ∧ p ≤ 340282366920938463463374607431768211456) := ps
    clear hs n0 hz st ps
    go_wp2_with fail
    go_loopg [] p.toNat (fun g wr => ∃ r : Int, g = r.toNat ∧ s ≤ r ∧ r ≤ 340282366920938463463374607431768211456 ∧ Below w.heap.size w wr ∧ Hold wr w.heap.size n ∧ Blank wr br ∧ Var wr bp r)
    case atStart => exact ⟨p, rfl, ST.out, PS.out.2, B, hX, hR, hP⟩
    case round =>
      clear B hX hR hP
      obtain ⟨r, hg, sr, r1, B, hX, hR, hP⟩ := hrel
      have r0 : 0 < r := by omega
      have nr : Num r := ⟨by omega, by omega⟩
      obtain ⟨q0, q1⟩ := newton_small HS.out r0 sr
      have low := newton_low HS.out r0
      have stop := newton_stop HS.out r0 sr
      have nq : Num (n / r) := ⟨q0, by omega⟩
      have D : Hid (∀ w, Calls Try.prog 18 #[.agg #[.int .u64 (l0 n), .int .u64 (l1 n), .int .u64 (l2 n), .int .u64 (l3 n)], .agg #[.int .u64 (l0 r), .int .u64 (l1 r), .int .u64 (l2 r), .int .u64 (l3 r)]] w fun e w' => e = .returned (.tuple #[.agg #[.int .u64 (l0 (n / r)), .int .u64 (l1 (n / r)), .int .u64 (l2 (n / r)), .int .u64 (l3 (n / r))], .agg #[.int .u64 (l0 (n % r)), .int .u64 (l1 (n % r)), .int .u64 (l2 (n % r)), .int .u64 (l3 (n % r))], .int .i64 0]) ∧ Below w.heap.size w w') := DV.out r nr (by omega)
      have es : sumN r (n / r) = r + n / r := by unfold sumN; omega
      have SR : Hid (∀ w, Calls Try.prog 37 #[.agg #[.int .u64 (l0 (sumN r (n / r))), .int .u64 (l1 (sumN r (n / r))), .int .u64 (l2 (sumN r (n / r))), .int .u64 (l3 (sumN r (n / r)))], .int .i64 1] w fun e w' => e = .returned (.agg #[.int .u64 (l0 ((r + n / r) / 2)), .int .u64 (l1 ((r + n / r) / 2)), .int .u64 (l2 ((r + n / r) / 2)), .int .u64 (l3 ((r + n / r) / 2))]) ∧ Below w.heap.size w w') := fun w => by have := shr_any (k := 1) (sumN_Num r (n / r)) w; rw [shr_half, es] at this; rw [es]; exact this
      have nt : Num ((r + n / r) / 2) := ⟨by omega, by omega⟩
      have C := cmp_any nt nr
      have N : Hid (s ≤ (r + n / r) / 2 ∧ (r ≤ (r + n / r) / 2 → r = s)) := ⟨low, stop⟩
      have G : Hid (gk = r.toNat ∧ r ≤ 340282366920938463463374607431768211456 ∧ 0 < r) := ⟨hg, r1, r0⟩
      have CC : Hid (∀ w, Calls Try.prog 14 #[.agg #[.int .u64 (l0 ((r + n / r) / 2)), .int .u64 (l1 ((r + n / r) / 2)), .int .u64 (l2 ((r + n / r) / 2)), .int .u64 (l3 ((r + n / r) / 2))], .agg #[.int .u64 (l0 r), .int .u64 (l1 r), .int .u64 (l2 r), .int .u64 (l3 r)]] w fun e w' => e = .returned (.int .i64 (cmpN ((r + n / r) / 2) r)) ∧ Below w.heap.size w w') := C
      clear q0 q1 low stop es C hg r1 sr r0
      generalize (r + n / r) / 2 = t at *
      generalize n / r = q at *
      generalize n % r = m at *
      have gX := hX.cells; have gP := hP.1.cells
      go_wp2_with fail
      refine (D.out _).mono ?_
      rintro e w3 ⟨rfl, hb⟩
      replace B := B.trans (hb.mono B.size)
      replace hX := hX.keep hb; replace hR := hR.keep hb; replace hP := hP.keep hb
      clear hb gX gP
      have gP := hP.1.allocs2
      go_wp2_with fail
      refine calls_world (fun W => Below w.heap.size w W ∧ Hold W w.heap.size n ∧ Blank W br ∧ Var W bp r) ⟨(B.alloc B.size _).alloc (by have := B.size; simp; omega) _, (hX.alloc _).alloc _, (hR.alloc _).alloc _, (hP.alloc _).alloc _⟩ ?_
      clear B hX hR hP gP
      rintro W ⟨B, hX, hR, hP⟩
      refine (add_any nr nq _).mono ?_
      rintro e w4 ⟨rfl, hb⟩
      replace B := B.trans (hb.mono B.size)
      replace hX := hX.keep hb; replace hR := hR.keep hb; replace hP := hP.keep hb
      clear hb W
      go_wp2_with fail
      refine calls_world (fun W => Below w.heap.size w W ∧ Hold W w.heap.size n ∧ Blank W br ∧ Var W bp r) ⟨B.alloc B.size _, hX.alloc _, hR.alloc _, hP.alloc _⟩ ?_
      clear B hX hR hP
      rintro W ⟨B, hX, hR, hP⟩
      refine (SR.out _).mono ?_
      rintro e w5 ⟨rfl, hb⟩
      replace B := B.trans (hb.mono B.size)
      replace hX := hX.keep hb; replace hR := hR.keep hb; replace hP := hP.keep hb
      clear hb W
      have gP := hP.1.allocs
      go_wp2_with fail
      refine calls_world (fun W => Below w.heap.size w W ∧ Hold W w.heap.size n ∧ Blank W br ∧ Var W bp r ∧ Hold W w5.heap.size t) ⟨B.alloc B.size _, hX.alloc _, hR.alloc _, hP.alloc _, Hold.new _ _ _⟩ ?_
      clear B hX hR hP gP
      rintro W ⟨B, hX, hR, hP, hT⟩
      generalize w5.heap.size = bt at *
      refine (CC.out _).mono ?_
      rintro e w6 ⟨rfl, hb⟩
      replace B := B.trans (hb.mono B.size)
      replace hX := hX.keep hb; replace hR := hR.keep hb; replace hP := hP.keep hb; replace hT := hT.keep hb
      clear hb W CC SR D
      have gP := hP.1.cells
      by_cases lt : t < r
      · have ec : cmpN t r = -1 := by unfold cmpN; rw [if_neg (by omega), if_pos lt]
        rw [ec]
        have gT := hT.cells; have fP := hP.2.all4
        have LT : Hid (t < r) := lt
        clear lt ec
        go_wp2
        go_roundg t.toNat
        case measure => have := LT.out; have := G.out; omega
        case rel => exact ⟨t, rfl, N.out.1, by have := LT.out; have := G.out; omega, below_set4 B o2 _ _ _ _, hX.set4 n1.symm _ _ _ _, hR.set4 n2.symm _ _ _ _, hP.sets _⟩
      · have er := N.out.2 (by omega)
        have ec : cmpN t r = 0 ∨ cmpN t r = 1 := by
          unfold cmpN
          by_cases h : t = r
          · left; rw [if_pos h]
          · right; rw [if_neg h, if_neg lt]
        clear N G lt hT
        subst er
        have gR := hR.1.all4; have fR := hR.2.all4
        rcases ec with ec | ec
        all_goals
          rw [ec]
          clear ec
          go_wp2
          simp [bodyPost, results, Try.results8, go_sem, gR]
          exact below_set4 B o1 _ _ _ _
end Go.Proofs.Ytjjimkhppoppbab

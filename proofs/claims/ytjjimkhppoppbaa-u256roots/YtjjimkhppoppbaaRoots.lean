import Derived.Test.YtjjimkhppoppbaaRoot
import Derived.Test.YtjjimkhppoppbaaRootsNum
import Derived.Test.YtjjimkhppoppbaaDivMod
import Derived.Test.YtjjimkhppoppbaaQTail
import Derived.Deep.RegionWith
namespace Go.Proofs.Ytjjimkhppoppbaa
open Go.RowKit Go.Sort

theorem root_zero (w : World) :
    Calls Try.prog 9 #[.agg #[.int .u64 (l0 0), .int .u64 (l1 0), .int .u64 (l2 0), .int .u64 (l3 0)]] w fun e w' => e = .returned (.agg #[.int .u64 (l0 0), .int .u64 (l1 0), .int .u64 (l2 0), .int .u64 (l3 0)]) ∧ Below w.heap.size w w' := by
  have he := eq_zero (m := 0) (show Num 0 from ⟨by decide, by decide⟩)
  obtain ⟨z0, z1, z2, z3⟩ := zero_limbs
  rw [z0, z1, z2, z3] at he ⊢
  clear z0 z1 z2 z3
  have hb := build_zero
  go_enter Try.func9, Try.ntmps9
  go_wp2
  simp [bodyPost, results, Try.results9, go_sem]
  repeat (first | with_reducible exact Below.refl _ _ | with_reducible refine Below.drew ?_ | with_reducible refine Below.alloc ?_ (by first | omega | (simp; done) | (simp; omega)) _)

theorem root_any {n s : Int} (hn : Num n) (hs : IsRoot n s) (w : World) :
    Calls Try.prog 9 #[.agg #[.int .u64 (l0 n), .int .u64 (l1 n), .int .u64 (l2 n), .int .u64 (l3 n)]] w fun e w' => e = .returned (.agg #[.int .u64 (l0 s), .int .u64 (l1 s), .int .u64 (l2 s), .int .u64 (l3 s)]) ∧ Below w.heap.size w w' := by
  by_cases hz : n = 0
  · subst hz
    have : s = 0 := root_one hs ⟨by decide, by decide, by decide⟩
    subst this
    exact root_zero w
  · exact root_some hn hz hs (fun m hm mz w => divMod_some hn hm mz w) w

set_option maxRecDepth 100000 in
set_option maxHeartbeats 8000000 in
theorem roots_walk {n s l t i m c : Int} (w : World)
    (RT : Hid (∀ w, Calls Try.prog 9 #[.agg #[.int .u64 (l0 n), .int .u64 (l1 n), .int .u64 (l2 n), .int .u64 (l3 n)]] w fun e w' => e = .returned (.agg #[.int .u64 (l0 s), .int .u64 (l1 s), .int .u64 (l2 s), .int .u64 (l3 s)]) ∧ Below w.heap.size w w'))
    (M1 : Hid (∀ w, Calls Try.prog 10 #[.agg #[.int .u64 (l0 s), .int .u64 (l1 s), .int .u64 (l2 s), .int .u64 (l3 s)], .agg #[.int .u64 (l0 s), .int .u64 (l1 s), .int .u64 (l2 s), .int .u64 (l3 s)]] w fun e w' => e = .returned (.tuple #[.agg #[.int .u64 (l0 0), .int .u64 (l1 0), .int .u64 (l2 0), .int .u64 (l3 0)], .agg #[.int .u64 (l0 l), .int .u64 (l1 l), .int .u64 (l2 l), .int .u64 (l3 l)]]) ∧ Below w.heap.size w w'))
    (A1 : Hid (∀ w, Calls Try.prog 11 #[.agg #[.int .u64 (l0 s), .int .u64 (l1 s), .int .u64 (l2 s), .int .u64 (l3 s)], .agg #[.int .u64 (l0 1), .int .u64 (l1 1), .int .u64 (l2 1), .int .u64 (l3 1)]] w fun e w' => e = .returned (.tuple #[.agg #[.int .u64 (l0 t), .int .u64 (l1 t), .int .u64 (l2 t), .int .u64 (l3 t)], .int .u64 0]) ∧ Below w.heap.size w w'))
    (M2 : Hid (∀ w, Calls Try.prog 10 #[.agg #[.int .u64 (l0 t), .int .u64 (l1 t), .int .u64 (l2 t), .int .u64 (l3 t)], .agg #[.int .u64 (l0 t), .int .u64 (l1 t), .int .u64 (l2 t), .int .u64 (l3 t)]] w fun e w' => e = .returned (.tuple #[.agg #[.int .u64 (l0 i), .int .u64 (l1 i), .int .u64 (l2 i), .int .u64 (l3 i)], .agg #[.int .u64 (l0 m), .int .u64 (l1 m), .int .u64 (l2 m), .int .u64 (l3 m)]]) ∧ Below w.heap.size w w'))
    (C1 : Hid (∀ w, Calls Try.prog 13 #[.agg #[.int .u64 (l0 l), .int .u64 (l1 l), .int .u64 (l2 l), .int .u64 (l3 l)], .agg #[.int .u64 (l0 n), .int .u64 (l1 n), .int .u64 (l2 n), .int .u64 (l3 n)]] w fun e w' => e = .returned (.int .i64 c) ∧ Below w.heap.size w w'))
    (hc : c = 0 ∨ c = -1)
    (hi : (i = 0 ∧ Hid (∀ w, Calls Try.prog 13 #[.agg #[.int .u64 (l0 m), .int .u64 (l1 m), .int .u64 (l2 m), .int .u64 (l3 m)], .agg #[.int .u64 (l0 n), .int .u64 (l1 n), .int .u64 (l2 n), .int .u64 (l3 n)]] w fun e w' => e = .returned (.int .i64 1) ∧ Below w.heap.size w w')) ∨ ∀ w, (Op.equalIn 10000 24 (.agg #[.int .u64 (l0 i), .int .u64 (l1 i), .int .u64 (l2 i), .int .u64 (l3 i)]) (.agg #[.int .u64 (l0 0), .int .u64 (l1 0), .int .u64 (l2 0), .int .u64 (l3 0)])).run Try.prog w = .ok false w) :
    Calls Try.prog 3 #[.agg #[.int .u64 (l0 n), .int .u64 (l1 n), .int .u64 (l2 n), .int .u64 (l3 n)]] w fun e w' => e = .returned (.bool true) ∧ Below w.heap.size w w' := by
  have zer : Word 0 := ⟨by decide, by decide⟩
  have one : Word 1 := ⟨by decide, by decide⟩
  have ey : ∀ n w, (Op.equalIn 10000 24 (.agg #[.int .u64 (l0 n), .int .u64 (l1 n), .int .u64 (l2 n), .int .u64 (l3 n)]) (.agg #[.int .u64 (l0 n), .int .u64 (l1 n), .int .u64 (l2 n), .int .u64 (l3 n)])).run Try.prog w = .ok true w := fun n w => eq_yes w
  go_enter Try.func3, Try.ntmps3
  go_wp2_with fail
  refine calls_world (fun W => Below w.heap.size w W ∧ Hold W w.heap.size n) ⟨?_, ?_⟩ ?_
  · repeat (first | with_reducible exact Below.refl _ _ | with_reducible refine Below.alloc ?_ (by first | omega | (simp; done) | (simp; omega)) _)
  · have := Hold.new w n 24
    (try simp at this)
    exact this
  rintro W ⟨B, hX⟩
  refine (RT.out _).mono ?_
  rintro e w1 ⟨rfl, hb⟩
  replace B := B.trans (hb.mono B.size)
  replace hX := hX.keep hb
  clear hb W
  go_wp2_with fail
  refine calls_world (fun W => Below w.heap.size w W ∧ Hold W w.heap.size n ∧ Hold W w1.heap.size s) ⟨B.alloc B.size _, hX.alloc _, Hold.new _ _ _⟩ ?_
  clear B  hX 
  rintro W ⟨B, hX, hS⟩
  generalize w1.heap.size = bs at *
  refine (M1.out _).mono ?_
  rintro e w2 ⟨rfl, hb⟩
  replace B := B.trans (hb.mono B.size)
  replace hX := hX.keep hb; replace hS := hS.keep hb
  clear hb W
  go_wp2_with fail
  refine wp_world (fun W => Below w.heap.size w W ∧ Hold W w.heap.size n ∧ Hold W bs s ∧ Hold W w2.heap.size 0 ∧ Hold W (w2.heap.size + 1) l) ⟨(B.alloc B.size _).alloc (by have := B.size; simp; omega) _, (hX.alloc _).alloc _, (hS.alloc _).alloc _, (Hold.new _ _ _).alloc _, ?_⟩ ?_
  · have := Hold.new (w2.alloc (.cells #[.int .u64 (l0 0), .int .u64 (l1 0), .int .u64 (l2 0), .int .u64 (l3 0)] 24)) l 24
    simp at this
    exact this
  clear B  hX hS 
  rintro W ⟨B, hX, hS, hH, hL⟩
  generalize w2.heap.size + 1 = bl at *
  generalize w2.heap.size = bh at *
  have ghS := hS.cells
  have lthX : w.heap.size < W.heap.size := World.block_lt_of_cell? W _ hX.1
  have lthS : bs < W.heap.size := World.block_lt_of_cell? W _ hS.1
  have lthH : bh < W.heap.size := World.block_lt_of_cell? W _ hH.1
  have lthL : bl < W.heap.size := World.block_lt_of_cell? W _ hL.1
  have BB : Hid (Below w.heap.size w W) := B
  have QhX : Hid (Hold W w.heap.size n) := hX
  have QhS : Hid (Hold W bs s) := hS
  have QhH : Hid (Hold W bh 0) := hH
  have QhL : Hid (Hold W bl l) := hL
  have geB : w.heap.size ≤ W.heap.size := B.size
  clear B hX hS hH hL
  generalize hbx : w.heap.size = bx at *
  refine wp_out (fun a' W' => ∃ bt, Below bx w W' ∧ Hold W' bx n ∧ Hold W' bs s ∧ Hold W' bh 0 ∧ Hold W' bl l ∧ Hold W' bt t ∧ a' = { tmps := #[.agg #[.int .u64 (l0 n), .int .u64 (l1 n), .int .u64 (l2 n), .int .u64 (l3 n)], .pointer (some { block := bx, off := 0 }), .bool false, .pointer (some { block := bs, off := 0 }), .pointer (some { block := bh, off := 0 }), .pointer (some { block := bl, off := 0 }), .pointer (some { block := bt, off := 0 }), .int .u64 0, Go.undef, Go.undef, .agg #[.int .u64 (l0 n), .int .u64 (l1 n), .int .u64 (l2 n), .int .u64 (l3 n)], .agg #[.int .u64 (l0 s), .int .u64 (l1 s), .int .u64 (l2 s), .int .u64 (l3 s)], .tuple #[.agg #[.int .u64 (l0 0), .int .u64 (l1 0), .int .u64 (l2 0), .int .u64 (l3 0)], .agg #[.int .u64 (l0 l), .int .u64 (l1 l), .int .u64 (l2 l), .int .u64 (l3 l)]], .agg #[.int .u64 (l0 s), .int .u64 (l1 s), .int .u64 (l2 s), .int .u64 (l3 s)], .agg #[.int .u64 (l0 s), .int .u64 (l1 s), .int .u64 (l2 s), .int .u64 (l3 s)], .tuple #[.agg #[.int .u64 (l0 0), .int .u64 (l1 0), .int .u64 (l2 0), .int .u64 (l3 0)], .agg #[.int .u64 (l0 l), .int .u64 (l1 l), .int .u64 (l2 l), .int .u64 (l3 l)]], .agg #[.int .u64 (l0 0), .int .u64 (l1 0), .int .u64 (l2 0), .int .u64 (l3 0)], .agg #[.int .u64 (l0 l), .int .u64 (l1 l), .int .u64 (l2 l), .int .u64 (l3 l)], .tuple #[.agg #[.int .u64 (l0 t), .int .u64 (l1 t), .int .u64 (l2 t), .int .u64 (l3 t)], .int .u64 0], .agg #[.int .u64 (l0 s), .int .u64 (l1 s), .int .u64 (l2 s), .int .u64 (l3 s)], .agg #[.int .u64 (l0 1), .int .u64 (l1 1), .int .u64 (l2 1), .int .u64 (l3 1)], .tuple #[.agg #[.int .u64 (l0 t), .int .u64 (l1 t), .int .u64 (l2 t), .int .u64 (l3 t)], .int .u64 0], .agg #[.int .u64 (l0 t), .int .u64 (l1 t), .int .u64 (l2 t), .int .u64 (l3 t)], .int .u64 0, Go.undef, Go.undef, Go.undef, Go.undef, Go.undef, Go.undef, Go.undef, Go.undef, Go.undef, Go.undef, Go.undef, Go.undef, Go.undef, Go.undef, Go.undef, Go.undef, Go.undef, Go.undef, Go.undef, Go.undef, Go.undef, Go.undef, Go.undef, Go.undef, Go.undef, Go.undef, Go.undef, Go.undef], defers := [] }) ?_ ?_
  ·
    clear RT
    clear M1
    clear M2
    clear C1
    clear hc
    clear hi
    clear ey
    have _ : bx < W.heap.size := by omega
    have _ : bx ≤ W.heap.size := by omega
    have _ : bx < W.heap.size + 1 := by omega
    have _ : bx < W.heap.size + 1 + 1 := by omega
    have _ : bx ≠ W.heap.size := by omega
    have _ : W.heap.size ≠ bx := by omega
    have _ : bx ≠ W.heap.size + 1 := by omega
    have _ : W.heap.size + 1 ≠ bx := by omega
    have _ : bs < W.heap.size := by omega
    have _ : bs ≤ W.heap.size := by omega
    have _ : bs < W.heap.size + 1 := by omega
    have _ : bs < W.heap.size + 1 + 1 := by omega
    have _ : bs ≠ W.heap.size := by omega
    have _ : W.heap.size ≠ bs := by omega
    have _ : bs ≠ W.heap.size + 1 := by omega
    have _ : W.heap.size + 1 ≠ bs := by omega
    have _ : bh < W.heap.size := by omega
    have _ : bh ≤ W.heap.size := by omega
    have _ : bh < W.heap.size + 1 := by omega
    have _ : bh < W.heap.size + 1 + 1 := by omega
    have _ : bh ≠ W.heap.size := by omega
    have _ : W.heap.size ≠ bh := by omega
    have _ : bh ≠ W.heap.size + 1 := by omega
    have _ : W.heap.size + 1 ≠ bh := by omega
    have _ : bl < W.heap.size := by omega
    have _ : bl ≤ W.heap.size := by omega
    have _ : bl < W.heap.size + 1 := by omega
    have _ : bl < W.heap.size + 1 + 1 := by omega
    have _ : bl ≠ W.heap.size := by omega
    have _ : W.heap.size ≠ bl := by omega
    have _ : bl ≠ W.heap.size + 1 := by omega
    have _ : W.heap.size + 1 ≠ bl := by omega
    have dz : W.drew.heap.size = W.heap.size := rfl
    go_region_held3 (fun w' => w'.cell? ⟨bs, 0, none⟩ = some (.int .u64 (l0 s)) ∧ w'.cell? ⟨bs, 1, none⟩ = some (.int .u64 (l1 s)) ∧ w'.cell? ⟨bs, 2, none⟩ = some (.int .u64 (l2 s)) ∧ w'.cell? ⟨bs, 3, none⟩ = some (.int .u64 (l3 s))) (((try dsimp only); (repeat' (apply And.intro)); (all_goals repeat (first | with_reducible assumption | with_reducible apply cell_keep hb2 | with_reducible apply cell_keep hb1 | with_reducible apply cell_alloc | (with_reducible refine cell_set ?_ (by with_reducible assumption)) | (simp [go_sem, *]; done)))))
      (first
        | (go_at_call 12; refine (from_any one _).mono ?_; rintro e w1 ⟨rfl, hb1⟩; have hc1 := oldCells hb1; have hz1 := hb1.size; (try simp at hz1); (try (have := fun j => oldCells hb1 (W.heap.size) j (by first | omega | (simp; done) | (simp; omega)))); (try (have := fun j => oldCells hb1 (W.heap.size + 1) j (by first | omega | (simp; done) | (simp; omega)))); have _ : bx < w1.heap.size := (by omega); have _ : bx ≤ w1.heap.size := (by omega); have _ : bx < w1.heap.size + 1 := (by omega); have _ : bx < w1.heap.size + 1 + 1 := (by omega); have _ : bx ≠ w1.heap.size := (by omega); have _ : w1.heap.size ≠ bx := (by omega); have _ : bx ≠ w1.heap.size + 1 := (by omega); have _ : w1.heap.size + 1 ≠ bx := (by omega); have _ : bs < w1.heap.size := (by omega); have _ : bs ≤ w1.heap.size := (by omega); have _ : bs < w1.heap.size + 1 := (by omega); have _ : bs < w1.heap.size + 1 + 1 := (by omega); have _ : bs ≠ w1.heap.size := (by omega); have _ : w1.heap.size ≠ bs := (by omega); have _ : bs ≠ w1.heap.size + 1 := (by omega); have _ : w1.heap.size + 1 ≠ bs := (by omega); have _ : bh < w1.heap.size := (by omega); have _ : bh ≤ w1.heap.size := (by omega); have _ : bh < w1.heap.size + 1 := (by omega); have _ : bh < w1.heap.size + 1 + 1 := (by omega); have _ : bh ≠ w1.heap.size := (by omega); have _ : w1.heap.size ≠ bh := (by omega); have _ : bh ≠ w1.heap.size + 1 := (by omega); have _ : w1.heap.size + 1 ≠ bh := (by omega); have _ : bl < w1.heap.size := (by omega); have _ : bl ≤ w1.heap.size := (by omega); have _ : bl < w1.heap.size + 1 := (by omega); have _ : bl < w1.heap.size + 1 + 1 := (by omega); have _ : bl ≠ w1.heap.size := (by omega); have _ : w1.heap.size ≠ bl := (by omega); have _ : bl ≠ w1.heap.size + 1 := (by omega); have _ : w1.heap.size + 1 ≠ bl := (by omega); (try (have _ : W.heap.size < w1.heap.size := (by omega))); (try (have _ : W.heap.size ≤ w1.heap.size := (by omega))); (try (have _ : W.heap.size ≠ w1.heap.size := (by omega))); (try (have _ : w1.heap.size ≠ W.heap.size := (by omega))); (try (have _ : W.heap.size < w1.heap.size + 1 := (by omega))); (try (have _ : W.heap.size + 1 < w1.heap.size := (by omega))); (try (have _ : W.heap.size + 1 ≤ w1.heap.size := (by omega))); (try (have _ : W.heap.size + 1 ≠ w1.heap.size := (by omega))); (try (have _ : w1.heap.size ≠ W.heap.size + 1 := (by omega))); (try (have _ : W.heap.size + 1 < w1.heap.size + 1 := (by omega))))
        | (go_at_call 11; refine (A1.out _).mono ?_; rintro e w2 ⟨rfl, hb2⟩; have hc2 := oldCells hb2; have hz2 := hb2.size; (try simp at hz2); (try (have := fun j => oldCells hb2 (W.heap.size) j (by first | omega | (simp; done) | (simp; omega)))); (try (have := fun j => oldCells hb2 (W.heap.size + 1) j (by first | omega | (simp; done) | (simp; omega)))); (try (have := fun j => oldCells hb2 (w1.heap.size) j (by first | omega | (simp; done) | (simp; omega)))); (try (have := fun j => oldCells hb2 (w1.heap.size + 1) j (by first | omega | (simp; done) | (simp; omega)))); have _ : bx < w2.heap.size := (by omega); have _ : bx ≤ w2.heap.size := (by omega); have _ : bx < w2.heap.size + 1 := (by omega); have _ : bx < w2.heap.size + 1 + 1 := (by omega); have _ : bx ≠ w2.heap.size := (by omega); have _ : w2.heap.size ≠ bx := (by omega); have _ : bx ≠ w2.heap.size + 1 := (by omega); have _ : w2.heap.size + 1 ≠ bx := (by omega); have _ : bs < w2.heap.size := (by omega); have _ : bs ≤ w2.heap.size := (by omega); have _ : bs < w2.heap.size + 1 := (by omega); have _ : bs < w2.heap.size + 1 + 1 := (by omega); have _ : bs ≠ w2.heap.size := (by omega); have _ : w2.heap.size ≠ bs := (by omega); have _ : bs ≠ w2.heap.size + 1 := (by omega); have _ : w2.heap.size + 1 ≠ bs := (by omega); have _ : bh < w2.heap.size := (by omega); have _ : bh ≤ w2.heap.size := (by omega); have _ : bh < w2.heap.size + 1 := (by omega); have _ : bh < w2.heap.size + 1 + 1 := (by omega); have _ : bh ≠ w2.heap.size := (by omega); have _ : w2.heap.size ≠ bh := (by omega); have _ : bh ≠ w2.heap.size + 1 := (by omega); have _ : w2.heap.size + 1 ≠ bh := (by omega); have _ : bl < w2.heap.size := (by omega); have _ : bl ≤ w2.heap.size := (by omega); have _ : bl < w2.heap.size + 1 := (by omega); have _ : bl < w2.heap.size + 1 + 1 := (by omega); have _ : bl ≠ w2.heap.size := (by omega); have _ : w2.heap.size ≠ bl := (by omega); have _ : bl ≠ w2.heap.size + 1 := (by omega); have _ : w2.heap.size + 1 ≠ bl := (by omega); (try (have _ : W.heap.size < w2.heap.size := (by omega))); (try (have _ : W.heap.size ≤ w2.heap.size := (by omega))); (try (have _ : W.heap.size ≠ w2.heap.size := (by omega))); (try (have _ : w2.heap.size ≠ W.heap.size := (by omega))); (try (have _ : W.heap.size < w2.heap.size + 1 := (by omega))); (try (have _ : W.heap.size + 1 < w2.heap.size := (by omega))); (try (have _ : W.heap.size + 1 ≤ w2.heap.size := (by omega))); (try (have _ : W.heap.size + 1 ≠ w2.heap.size := (by omega))); (try (have _ : w2.heap.size ≠ W.heap.size + 1 := (by omega))); (try (have _ : W.heap.size + 1 < w2.heap.size + 1 := (by omega))); (try (have _ : w1.heap.size < w2.heap.size := (by omega))); (try (have _ : w1.heap.size ≤ w2.heap.size := (by omega))); (try (have _ : w1.heap.size ≠ w2.heap.size := (by omega))); (try (have _ : w2.heap.size ≠ w1.heap.size := (by omega))); (try (have _ : w1.heap.size < w2.heap.size + 1 := (by omega))); (try (have _ : w1.heap.size + 1 < w2.heap.size := (by omega))); (try (have _ : w1.heap.size + 1 ≤ w2.heap.size := (by omega))); (try (have _ : w1.heap.size + 1 ≠ w2.heap.size := (by omega))); (try (have _ : w2.heap.size ≠ w1.heap.size + 1 := (by omega))); (try (have _ : w1.heap.size + 1 < w2.heap.size + 1 := (by omega)))))
    all_goals (refine OutQ.intro ⟨_, ?_, ?_, ?_, ?_, ?_, ?_, rfl⟩)
    all_goals repeat (first | with_reducible exact QhX.out | with_reducible exact QhS.out | with_reducible exact QhH.out | with_reducible exact QhL.out | with_reducible exact BB.out | with_reducible refine Hold.fresh (by first | rfl | (simp; done) | fail) | with_reducible refine Hold.sets4 ?_ | with_reducible refine Hold.alloc ?_ _ | with_reducible refine Hold.drew ?_ | with_reducible refine Hold.set ?_ (by first | with_reducible assumption | exact Nat.succ_ne_self _ | exact (Nat.succ_ne_self _).symm) _ | with_reducible refine Has.fresh (by first | rfl | (simp; done) | fail) (by first | (simp; done) | fail) | with_reducible refine Has.alloc ?_ _ | with_reducible refine Has.set ?_ _ _ | with_reducible refine Has.drew ?_ | with_reducible refine below_alloc hbx ?_ _ | with_reducible refine Below.drew ?_ | with_reducible refine Below.setCell ?_ (by first | with_reducible assumption | exact Nat.le_succ_of_le (by with_reducible assumption)) _ | with_reducible refine Hold.keep ?_ hb2 | with_reducible refine Has.keep ?_ hb2 | with_reducible refine below_then hbx ?_ hb2 | with_reducible refine Hold.keep ?_ hb1 | with_reducible refine Has.keep ?_ hb1 | with_reducible refine below_then hbx ?_ hb1)
  rintro _ W ⟨bt, B, hX, hS, hH, hL, hT, rfl⟩
  subst hbx
  clear BB geB QhX lthX QhS lthS QhH lthH QhL lthL ghS
  have ghT := hT.cells
  go_wp2_with fail
  clear ghT
  refine (M2.out _).mono ?_
  rintro e w3 ⟨rfl, hb⟩
  replace B := B.trans (hb.mono B.size)
  replace hX := hX.keep hb; replace hS := hS.keep hb; replace hH := hH.keep hb; replace hL := hL.keep hb; replace hT := hT.keep hb
  clear hb W
  go_wp2_with fail
  refine wp_world (fun W => Below w.heap.size w W ∧ Hold W w.heap.size n ∧ Hold W bs s ∧ Hold W bh 0 ∧ Hold W bl l ∧ Hold W bt t ∧ Hold W w3.heap.size i ∧ Hold W (w3.heap.size + 1) m) ⟨(B.alloc B.size _).alloc (by have := B.size; simp; omega) _, (hX.alloc _).alloc _, (hS.alloc _).alloc _, (hH.alloc _).alloc _, (hL.alloc _).alloc _, (hT.alloc _).alloc _, (Hold.new _ _ _).alloc _, ?_⟩ ?_
  · have := Hold.new (w3.alloc (.cells #[.int .u64 (l0 i), .int .u64 (l1 i), .int .u64 (l2 i), .int .u64 (l3 i)] 24)) m 24
    simp at this
    exact this
  clear B  hX hS hH hL hT 
  rintro W ⟨B, hX, hS, hH, hL, hT, hI, hM⟩
  generalize w3.heap.size + 1 = bm at *
  generalize w3.heap.size = bi at *
  rcases hc with rfl | rfl <;> rcases hi with ⟨rfl, C2⟩ | en
  all_goals
    clear hS hT
    have ghH := hH.grown
    have ghL := hL.grown
    have ghX := hX.grown
    refine wp_region_quiet_below (by kernel_rfl) (by kernel_rfl) ?_
    repeat
      first
        | go_big_quiet_skip
        | (go_big_quiet_want; go_big_quiet_op; go_big_quiet_on)
        | (go_big_quiet_want
           go_big_quiet_op
           apply Exists.intro
           refine ⟨fun p => ?_, ?_⟩
           · (first | (go_at_call 12; exact Calls.regrown_of (from_any zer _)) | (go_at_call 13; exact Calls.regrown_of (C1.out _)))
           go_big_quiet_on)
    refine wpQuiet_nil ?_
    rintro w4 ⟨p, rfl⟩
    have hb := below_regrown W p.d p.os
    generalize grow (redrawn W p.d) p.os = w4 at *
    replace B := B.trans (hb.mono B.size)
    replace hX := hX.keep hb; replace hH := hH.keep hb; replace hL := hL.keep hb; replace hI := hI.keep hb; replace hM := hM.keep hb
    clear hb W ghH ghL ghX
    clear hH hL
    go_wp2_with fail
    have ghI := hI.grown
    have ghM := hM.grown
    have ghX := hX.grown
    refine wp_region_quiet_below (by kernel_rfl) (by kernel_rfl) ?_
    repeat
      first
        | go_big_quiet_skip
        | (go_big_quiet_want; go_big_quiet_op; go_big_quiet_on)
        | (go_big_quiet_want
           go_big_quiet_op
           apply Exists.intro
           refine ⟨fun p => ?_, ?_⟩
           · (first | (go_at_call 12; exact Calls.regrown_of (from_any zer _)) | (go_at_call 13; exact Calls.regrown_of (C2.out _)))
           go_big_quiet_on)
    refine wpQuiet_nil ?_
    rintro w5 ⟨p, rfl⟩
    have hb := below_regrown w4 p.d p.os
    generalize grow (redrawn w4 p.d) p.os = w5 at *
    replace B := B.trans (hb.mono B.size)
    replace hX := hX.keep hb; replace hI := hI.keep hb; replace hM := hM.keep hb
    clear hb w4 ghI ghM ghX
    go_wp2
    go_ret
    exact ⟨rfl, B⟩

theorem roots_any {n : Int} (hn : Num n) (w : World) :
    Calls Try.prog 3 #[.agg #[.int .u64 (l0 n), .int .u64 (l1 n), .int .u64 (l2 n), .int .u64 (l3 n)]] w fun e w' => e = .returned (.bool true) ∧ Below w.heap.size w w' := by
  obtain ⟨s, hs⟩ := root_exists hn.1
  obtain ⟨ns, nt, h1, hc, h2, h3, hi⟩ := root_laws hn hs
  refine roots_walk (s := s) (l := loN s s) (t := s + 1) (i := hiN (s + 1) (s + 1)) (m := loN (s + 1) (s + 1)) w (fun w => root_any hn hs w) (fun w => ?_) (fun w => ?_) (fun w => mul_any nt nt w) (fun w => cmp_any (loN_Num s s) hn w) hc ?_
  · have := mul_any ns ns w; rw [h1] at this; exact this
  · have := add_any ns (show Num 1 from ⟨by decide, by decide⟩) w; rw [h2, h3] at this; exact this
  · rcases hi with ⟨e, c⟩ | ne
    · exact .inl ⟨e, fun w => by have := cmp_any (loN_Num (s + 1) (s + 1)) hn w; rw [c] at this; exact this⟩
    · exact .inr fun w => eq_no (hiN_Num nt nt) Num_zero ne w

end Go.Proofs.Ytjjimkhppoppbaa

import Derived.Test.YtmegdnalpaddmaaFeR
import Derived.Test.YtmegdnalpaddmaaMods
namespace Go.Proofs.Ytmegdnalpaddmaa
open Go.RowKit Go.Sort

def nxV (x u t : Int) : Int := if x + u < t then 0 else if x + u - t < 18446744073709551616 then x + u - t else 0
def nxE (x u t : Int) : Int := if x + u < t then 0 else if x + u - t < 18446744073709551616 then 0 else 183

set_option maxRecDepth 100000 in
set_option maxHeartbeats 4000000 in
theorem nx_walk {x u t s r k v er a b : Int} (hx : Word x) (hu : Word u) (ht : Word t) (AD : Hid (∀ w, Calls Try.prog 9 #[.agg #[.int .u64 (l0 x), .int .u64 (l1 x), .int .u64 (l2 x), .int .u64 (l3 x)], .agg #[.int .u64 (l0 u), .int .u64 (l1 u), .int .u64 (l2 u), .int .u64 (l3 u)]] w fun e w' => e = .returned (.tuple #[.agg #[.int .u64 (l0 s), .int .u64 (l1 s), .int .u64 (l2 s), .int .u64 (l3 s)], .int .u64 0]) ∧ Below w.heap.size w w')) (SU : Hid (∀ w, Calls Try.prog 10 #[.agg #[.int .u64 (l0 s), .int .u64 (l1 s), .int .u64 (l2 s), .int .u64 (l3 s)], .agg #[.int .u64 (l0 t), .int .u64 (l1 t), .int .u64 (l2 t), .int .u64 (l3 t)]] w fun e w' => e = .returned (.tuple #[.agg #[.int .u64 (l0 r), .int .u64 (l1 r), .int .u64 (l2 r), .int .u64 (l3 r)], .int .u64 k]) ∧ Below w.heap.size w w'))
    (SL : Hid (∀ w, Calls Try.prog 29 #[.agg #[.int .u64 (l0 r), .int .u64 (l1 r), .int .u64 (l2 r), .int .u64 (l3 r)]] w fun e w' => e = .returned (.tuple #[.int .u64 v, .int .i64 er]) ∧ Below w.heap.size w w')) (HK : k = 1 ∧ a = 0 ∧ b = 0 ∨ k = 0 ∧ (er = 0 ∧ a = v ∧ b = 0 ∨ er = 11 ∧ a = 0 ∧ b = 183)) (w : World) :
    Calls Try.prog 13 #[.int .u64 x, .int .u64 u, .int .u64 t] w fun e w' => e = .returned (.tuple #[.int .u64 a, .int .i64 b]) ∧ Below w.heap.size w w' := by
  go_enter Try.func13, Try.ntmps13
  go_wp2_with fail
  refine calls_world (fun W => Below w.heap.size w W) (Below.refl _ _) ?_
  rintro W B
  with_reducible refine (from_any hx _).mono ?_
  rintro e w1 ⟨rfl, hb⟩
  replace B := B.trans (hb.mono B.size)
  clear hb W
  go_wp2_with fail
  refine calls_world (fun W => Below w.heap.size w W) B ?_
  clear B
  rintro W B
  with_reducible refine (from_any hu _).mono ?_
  rintro e w2 ⟨rfl, hb⟩
  replace B := B.trans (hb.mono B.size)
  clear hb W
  go_wp2_with fail
  refine calls_world (fun W => Below w.heap.size w W) B ?_
  clear B
  rintro W B
  with_reducible refine (AD.out _).mono ?_
  rintro e w3 ⟨rfl, hb⟩
  replace B := B.trans (hb.mono B.size)
  clear hb W
  go_wp2_with fail
  refine wp_world (fun W => Below w.heap.size w W ∧ Hold W w3.heap.size s) ⟨B.alloc B.size _, Hold.new _ _ _⟩ ?_
  clear B  
  rintro W ⟨B, hS⟩
  generalize w3.heap.size = bs at *
  have ghS := hS.cells
  have lthS : bs < W.heap.size := World.block_lt_of_cell? W _ hS.1
  have BB : Hid (Below w.heap.size w W) := B
  have QhS : Hid (Hold W bs s) := hS
  have geB : w.heap.size ≤ W.heap.size := B.size
  clear B hS
  generalize hbx : w.heap.size = bx at *
  refine wp_out (fun a' W' => ∃ bd, Below bx w W' ∧ Hold W' bs s ∧ Hold W' bd r ∧ a' = { tmps := #[.int .u64 x, .int .u64 u, .int .u64 t, Go.undef, Go.undef, Go.undef, .int .u64 0, .int .i64 0, .pointer (some { block := bs, off := 0 }), .int .u64 0, .pointer (some { block := bd, off := 0 }), .int .u64 k, Go.undef, Go.undef, .tuple #[.agg #[.int .u64 (l0 s), .int .u64 (l1 s), .int .u64 (l2 s), .int .u64 (l3 s)], .int .u64 0], .int .u64 x, .agg #[.int .u64 (l0 x), .int .u64 (l1 x), .int .u64 (l2 x), .int .u64 (l3 x)], .int .u64 u, .agg #[.int .u64 (l0 u), .int .u64 (l1 u), .int .u64 (l2 u), .int .u64 (l3 u)], .tuple #[.agg #[.int .u64 (l0 s), .int .u64 (l1 s), .int .u64 (l2 s), .int .u64 (l3 s)], .int .u64 0], .agg #[.int .u64 (l0 s), .int .u64 (l1 s), .int .u64 (l2 s), .int .u64 (l3 s)], .int .u64 0, .tuple #[.agg #[.int .u64 (l0 r), .int .u64 (l1 r), .int .u64 (l2 r), .int .u64 (l3 r)], .int .u64 k], .agg #[.int .u64 (l0 s), .int .u64 (l1 s), .int .u64 (l2 s), .int .u64 (l3 s)], .int .u64 t, .agg #[.int .u64 (l0 t), .int .u64 (l1 t), .int .u64 (l2 t), .int .u64 (l3 t)], .tuple #[.agg #[.int .u64 (l0 r), .int .u64 (l1 r), .int .u64 (l2 r), .int .u64 (l3 r)], .int .u64 k], .agg #[.int .u64 (l0 r), .int .u64 (l1 r), .int .u64 (l2 r), .int .u64 (l3 r)], .int .u64 k, Go.undef, Go.undef, Go.undef, Go.undef, Go.undef, Go.undef, Go.undef, Go.undef, Go.undef, Go.undef], defers := [] }) ?_ ?_
  · have dz : W.drew.heap.size = W.heap.size := rfl
    have lo0 : bs < W.heap.size := by omega
    have _ := Nat.ne_of_lt lo0
    have _ := Nat.ne_of_gt lo0
    go_region_held3 (fun w' => w'.cell? ⟨bs, 0, none⟩ = some (.int .u64 (l0 s)) ∧ w'.cell? ⟨bs, 1, none⟩ = some (.int .u64 (l1 s)) ∧ w'.cell? ⟨bs, 2, none⟩ = some (.int .u64 (l2 s)) ∧ w'.cell? ⟨bs, 3, none⟩ = some (.int .u64 (l3 s))) (((try dsimp only); (repeat' (apply And.intro)); (all_goals repeat (first | with_reducible assumption | with_reducible apply cell_keep hb2 | with_reducible apply cell_keep hb1 | with_reducible apply cell_alloc | (with_reducible refine cell_set ?_ (by with_reducible assumption)) | (simp [go_sem, *]; done)))))
      (first
        | (go_at_call 25; with_reducible refine (from_any ht _).mono ?_; rintro e w1 ⟨rfl, hb1⟩; have hc1 := oldCells hb1; have hz1 := hb1.size; (try simp at hz1); have hW1 : W.heap.size ≤ w1.heap.size := (by omega); have _ := Nat.le_trans geB hW1; (try (have := fun j => oldCells hb1 (W.heap.size) j (by first | omega | (simp; done) | (simp; omega)))); have lo0_1 := Nat.lt_of_lt_of_le lo0 hW1; have _ := Nat.ne_of_lt lo0_1; have _ := Nat.ne_of_gt lo0_1; (try (have hv : W.heap.size < w1.heap.size := (by omega); have _ := Nat.ne_of_lt hv; have _ := Nat.ne_of_gt hv)))
        | (go_at_call 10; with_reducible refine (SU.out _).mono ?_; rintro e w2 ⟨rfl, hb2⟩; have hc2 := oldCells hb2; have hz2 := hb2.size; (try simp at hz2); have hW2 : W.heap.size ≤ w2.heap.size := (by omega); have _ := Nat.le_trans geB hW2; (try (have := fun j => oldCells hb2 (W.heap.size) j (by first | omega | (simp; done) | (simp; omega)))); (try (have := fun j => oldCells hb2 (w1.heap.size) j (by first | omega | (simp; done) | (simp; omega)))); have lo0_2 := Nat.lt_of_lt_of_le lo0 hW2; have _ := Nat.ne_of_lt lo0_2; have _ := Nat.ne_of_gt lo0_2; (try (have hv : W.heap.size < w2.heap.size := (by omega); have _ := Nat.ne_of_lt hv; have _ := Nat.ne_of_gt hv)); (try (have hv : w1.heap.size < w2.heap.size := (by omega); have _ := Nat.ne_of_lt hv; have _ := Nat.ne_of_gt hv))))
    all_goals (refine OutQ.intro ⟨_, ?_, ?_, ?_, rfl⟩)
    all_goals repeat (first | with_reducible exact BB.out | with_reducible exact QhS.out | with_reducible refine Hold.fresh (by first | rfl | (simp; done) | fail) | with_reducible refine Hold.sets4 ?_ | with_reducible refine Var.new (by first | rfl | (simp; done) | fail) | with_reducible refine Hold.alloc ?_ _ | with_reducible refine Hold.drew ?_ | with_reducible refine Hold.set4 ?_ (by with_reducible assumption) _ _ _ _ | with_reducible refine HoldM.alloc ?_ _ | with_reducible refine HoldM.drew ?_ | with_reducible refine HoldM.set4 ?_ (by with_reducible assumption) _ _ _ _ | with_reducible refine Blank.alloc ?_ _ | with_reducible refine Blank.drew ?_ | with_reducible refine Blank.set4 ?_ (by with_reducible assumption) _ _ _ _ | with_reducible refine Mds.alloc ?_ _ | with_reducible refine Mds.drew ?_ | with_reducible refine Mds.set4 ?_ (by with_reducible assumption) _ _ _ _ | with_reducible refine Var.alloc ?_ _ | with_reducible refine Var.set4 ?_ (by with_reducible assumption) _ _ _ _ | with_reducible refine below_alloc hbx ?_ _ | with_reducible refine Below.drew ?_ | with_reducible refine Below.setCell ?_ (by with_reducible assumption) _ | with_reducible refine Has.fresh (by first | rfl | (simp; done) | fail) (by first | (simp; done) | fail) | with_reducible refine Has.alloc ?_ _ | with_reducible refine Has.drew ?_ | with_reducible refine Has.keep ?_ hb2 | with_reducible refine Hold.keep ?_ hb2 | with_reducible refine HoldM.keep ?_ hb2 | with_reducible refine Blank.keep ?_ hb2 | with_reducible refine Mds.keep ?_ hb2 | with_reducible refine Var.keep ?_ hb2 | with_reducible refine below_then hbx ?_ hb2 | with_reducible refine Has.keep ?_ hb1 | with_reducible refine Hold.keep ?_ hb1 | with_reducible refine HoldM.keep ?_ hb1 | with_reducible refine Blank.keep ?_ hb1 | with_reducible refine Mds.keep ?_ hb1 | with_reducible refine Var.keep ?_ hb1 | with_reducible refine below_then hbx ?_ hb1)
  rintro _ W ⟨bd, B, hS, hD, rfl⟩
  subst hbx
  clear BB geB QhS ghS lthS
  have gD := hD.cells
  rcases HK with ⟨rfl, rfl, rfl⟩ | ⟨rfl, HK⟩
  · go_wp2
    simp [bodyPost, results, Try.results13, go_sem]
    exact B
  · go_wp2_with fail
    with_reducible refine (SL.out _).mono ?_
    rintro e w9 ⟨rfl, hb⟩
    replace B := B.trans (hb.mono B.size)
    clear hb
    rcases HK with ⟨rfl, rfl, rfl⟩ | ⟨rfl, rfl, rfl⟩
    all_goals (go_wp2; simp [bodyPost, results, Try.results13, go_sem]; exact B)

set_option maxRecDepth 100000 in
set_option maxHeartbeats 4000000 in
theorem rnx_walk {x u t s r k v er a b : Int} (hx : Word x) (hu : Word u) (ht : Word t) (AD : Hid (∀ w, Calls Try.prog 35 #[.agg #[.int .u64 (l0 x), .int .u64 (l1 x), .int .u64 (l2 x), .int .u64 (l3 x)], .agg #[.int .u64 (l0 u), .int .u64 (l1 u), .int .u64 (l2 u), .int .u64 (l3 u)]] w fun e w' => e = .returned (.tuple #[.agg #[.int .u64 (l0 s), .int .u64 (l1 s), .int .u64 (l2 s), .int .u64 (l3 s)], .int .u64 0]) ∧ Below w.heap.size w w')) (SU : Hid (∀ w, Calls Try.prog 33 #[.agg #[.int .u64 (l0 s), .int .u64 (l1 s), .int .u64 (l2 s), .int .u64 (l3 s)], .agg #[.int .u64 (l0 t), .int .u64 (l1 t), .int .u64 (l2 t), .int .u64 (l3 t)]] w fun e w' => e = .returned (.tuple #[.agg #[.int .u64 (l0 r), .int .u64 (l1 r), .int .u64 (l2 r), .int .u64 (l3 r)], .int .u64 k]) ∧ Below w.heap.size w w'))
    (SL : Hid (∀ w, Calls Try.prog 36 #[.agg #[.int .u64 (l0 r), .int .u64 (l1 r), .int .u64 (l2 r), .int .u64 (l3 r)]] w fun e w' => e = .returned (.tuple #[.int .u64 v, .int .i64 er]) ∧ Below w.heap.size w w')) (HK : k = 1 ∧ a = 0 ∧ b = 0 ∨ k = 0 ∧ (er = 0 ∧ a = v ∧ b = 0 ∨ er = 11 ∧ a = 0 ∧ b = 183)) (w : World) :
    Calls Try.prog 16 #[.int .u64 x, .int .u64 u, .int .u64 t] w fun e w' => e = .returned (.tuple #[.int .u64 a, .int .i64 b]) ∧ Below w.heap.size w w' := by
  go_enter Try.func16, Try.ntmps16
  go_wp2_with fail
  refine calls_world (fun W => Below w.heap.size w W) (Below.refl _ _) ?_
  rintro W B
  with_reducible refine (rfrom_any hx _).mono ?_
  rintro e w1 ⟨rfl, hb⟩
  replace B := B.trans (hb.mono B.size)
  clear hb W
  go_wp2_with fail
  refine calls_world (fun W => Below w.heap.size w W) B ?_
  clear B
  rintro W B
  with_reducible refine (rfrom_any hu _).mono ?_
  rintro e w2 ⟨rfl, hb⟩
  replace B := B.trans (hb.mono B.size)
  clear hb W
  go_wp2_with fail
  refine calls_world (fun W => Below w.heap.size w W) B ?_
  clear B
  rintro W B
  with_reducible refine (AD.out _).mono ?_
  rintro e w3 ⟨rfl, hb⟩
  replace B := B.trans (hb.mono B.size)
  clear hb W
  go_wp2_with fail
  refine wp_world (fun W => Below w.heap.size w W ∧ Hold W w3.heap.size s) ⟨B.alloc B.size _, Hold.new _ _ _⟩ ?_
  clear B  
  rintro W ⟨B, hS⟩
  generalize w3.heap.size = bs at *
  have ghS := hS.cells
  have lthS : bs < W.heap.size := World.block_lt_of_cell? W _ hS.1
  have BB : Hid (Below w.heap.size w W) := B
  have QhS : Hid (Hold W bs s) := hS
  have geB : w.heap.size ≤ W.heap.size := B.size
  clear B hS
  generalize hbx : w.heap.size = bx at *
  refine wp_out (fun a' W' => ∃ bd, Below bx w W' ∧ Hold W' bs s ∧ Hold W' bd r ∧ a' = { tmps := #[.int .u64 x, .int .u64 u, .int .u64 t, Go.undef, Go.undef, Go.undef, .int .u64 0, .int .i64 0, .pointer (some { block := bs, off := 0 }), .int .u64 0, .pointer (some { block := bd, off := 0 }), .int .u64 k, Go.undef, Go.undef, .tuple #[.agg #[.int .u64 (l0 s), .int .u64 (l1 s), .int .u64 (l2 s), .int .u64 (l3 s)], .int .u64 0], .int .u64 x, .agg #[.int .u64 (l0 x), .int .u64 (l1 x), .int .u64 (l2 x), .int .u64 (l3 x)], .int .u64 u, .agg #[.int .u64 (l0 u), .int .u64 (l1 u), .int .u64 (l2 u), .int .u64 (l3 u)], .tuple #[.agg #[.int .u64 (l0 s), .int .u64 (l1 s), .int .u64 (l2 s), .int .u64 (l3 s)], .int .u64 0], .agg #[.int .u64 (l0 s), .int .u64 (l1 s), .int .u64 (l2 s), .int .u64 (l3 s)], .int .u64 0, .tuple #[.agg #[.int .u64 (l0 r), .int .u64 (l1 r), .int .u64 (l2 r), .int .u64 (l3 r)], .int .u64 k], .agg #[.int .u64 (l0 s), .int .u64 (l1 s), .int .u64 (l2 s), .int .u64 (l3 s)], .int .u64 t, .agg #[.int .u64 (l0 t), .int .u64 (l1 t), .int .u64 (l2 t), .int .u64 (l3 t)], .tuple #[.agg #[.int .u64 (l0 r), .int .u64 (l1 r), .int .u64 (l2 r), .int .u64 (l3 r)], .int .u64 k], .agg #[.int .u64 (l0 r), .int .u64 (l1 r), .int .u64 (l2 r), .int .u64 (l3 r)], .int .u64 k, Go.undef, Go.undef, Go.undef, Go.undef, Go.undef, Go.undef, Go.undef, Go.undef, Go.undef, Go.undef], defers := [] }) ?_ ?_
  · have dz : W.drew.heap.size = W.heap.size := rfl
    have lo0 : bs < W.heap.size := by omega
    have _ := Nat.ne_of_lt lo0
    have _ := Nat.ne_of_gt lo0
    go_region_held3 (fun w' => w'.cell? ⟨bs, 0, none⟩ = some (.int .u64 (l0 s)) ∧ w'.cell? ⟨bs, 1, none⟩ = some (.int .u64 (l1 s)) ∧ w'.cell? ⟨bs, 2, none⟩ = some (.int .u64 (l2 s)) ∧ w'.cell? ⟨bs, 3, none⟩ = some (.int .u64 (l3 s))) (((try dsimp only); (repeat' (apply And.intro)); (all_goals repeat (first | with_reducible assumption | with_reducible apply cell_keep hb2 | with_reducible apply cell_keep hb1 | with_reducible apply cell_alloc | (with_reducible refine cell_set ?_ (by with_reducible assumption)) | (simp [go_sem, *]; done)))))
      (first
        | (go_at_call 31; with_reducible refine (rfrom_any ht _).mono ?_; rintro e w1 ⟨rfl, hb1⟩; have hc1 := oldCells hb1; have hz1 := hb1.size; (try simp at hz1); have hW1 : W.heap.size ≤ w1.heap.size := (by omega); have _ := Nat.le_trans geB hW1; (try (have := fun j => oldCells hb1 (W.heap.size) j (by first | omega | (simp; done) | (simp; omega)))); have lo0_1 := Nat.lt_of_lt_of_le lo0 hW1; have _ := Nat.ne_of_lt lo0_1; have _ := Nat.ne_of_gt lo0_1; (try (have hv : W.heap.size < w1.heap.size := (by omega); have _ := Nat.ne_of_lt hv; have _ := Nat.ne_of_gt hv)))
        | (go_at_call 33; with_reducible refine (SU.out _).mono ?_; rintro e w2 ⟨rfl, hb2⟩; have hc2 := oldCells hb2; have hz2 := hb2.size; (try simp at hz2); have hW2 : W.heap.size ≤ w2.heap.size := (by omega); have _ := Nat.le_trans geB hW2; (try (have := fun j => oldCells hb2 (W.heap.size) j (by first | omega | (simp; done) | (simp; omega)))); (try (have := fun j => oldCells hb2 (w1.heap.size) j (by first | omega | (simp; done) | (simp; omega)))); have lo0_2 := Nat.lt_of_lt_of_le lo0 hW2; have _ := Nat.ne_of_lt lo0_2; have _ := Nat.ne_of_gt lo0_2; (try (have hv : W.heap.size < w2.heap.size := (by omega); have _ := Nat.ne_of_lt hv; have _ := Nat.ne_of_gt hv)); (try (have hv : w1.heap.size < w2.heap.size := (by omega); have _ := Nat.ne_of_lt hv; have _ := Nat.ne_of_gt hv))))
    all_goals (refine OutQ.intro ⟨_, ?_, ?_, ?_, rfl⟩)
    all_goals repeat (first | with_reducible exact BB.out | with_reducible exact QhS.out | with_reducible refine Hold.fresh (by first | rfl | (simp; done) | fail) | with_reducible refine Hold.sets4 ?_ | with_reducible refine Var.new (by first | rfl | (simp; done) | fail) | with_reducible refine Hold.alloc ?_ _ | with_reducible refine Hold.drew ?_ | with_reducible refine Hold.set4 ?_ (by with_reducible assumption) _ _ _ _ | with_reducible refine HoldM.alloc ?_ _ | with_reducible refine HoldM.drew ?_ | with_reducible refine HoldM.set4 ?_ (by with_reducible assumption) _ _ _ _ | with_reducible refine Blank.alloc ?_ _ | with_reducible refine Blank.drew ?_ | with_reducible refine Blank.set4 ?_ (by with_reducible assumption) _ _ _ _ | with_reducible refine Mds.alloc ?_ _ | with_reducible refine Mds.drew ?_ | with_reducible refine Mds.set4 ?_ (by with_reducible assumption) _ _ _ _ | with_reducible refine Var.alloc ?_ _ | with_reducible refine Var.set4 ?_ (by with_reducible assumption) _ _ _ _ | with_reducible refine below_alloc hbx ?_ _ | with_reducible refine Below.drew ?_ | with_reducible refine Below.setCell ?_ (by with_reducible assumption) _ | with_reducible refine Has.fresh (by first | rfl | (simp; done) | fail) (by first | (simp; done) | fail) | with_reducible refine Has.alloc ?_ _ | with_reducible refine Has.drew ?_ | with_reducible refine Has.keep ?_ hb2 | with_reducible refine Hold.keep ?_ hb2 | with_reducible refine HoldM.keep ?_ hb2 | with_reducible refine Blank.keep ?_ hb2 | with_reducible refine Mds.keep ?_ hb2 | with_reducible refine Var.keep ?_ hb2 | with_reducible refine below_then hbx ?_ hb2 | with_reducible refine Has.keep ?_ hb1 | with_reducible refine Hold.keep ?_ hb1 | with_reducible refine HoldM.keep ?_ hb1 | with_reducible refine Blank.keep ?_ hb1 | with_reducible refine Mds.keep ?_ hb1 | with_reducible refine Var.keep ?_ hb1 | with_reducible refine below_then hbx ?_ hb1)
  rintro _ W ⟨bd, B, hS, hD, rfl⟩
  subst hbx
  clear BB geB QhS ghS lthS
  have gD := hD.cells
  rcases HK with ⟨rfl, rfl, rfl⟩ | ⟨rfl, HK⟩
  · go_wp2
    simp [bodyPost, results, Try.results16, go_sem]
    exact B
  · go_wp2_with fail
    with_reducible refine (SL.out _).mono ?_
    rintro e w9 ⟨rfl, hb⟩
    replace B := B.trans (hb.mono B.size)
    clear hb
    rcases HK with ⟨rfl, rfl, rfl⟩ | ⟨rfl, rfl, rfl⟩
    all_goals (go_wp2; simp [bodyPost, results, Try.results16, go_sem]; exact B)

theorem nx_hk {x u t : Int} (hx : Word x) (hu : Word u) (ht : Word t) : Num (x + u) ∧ sumN x u = x + u ∧ carN x u = 0 ∧
    (x + u < t → borN (x + u) t = 1 ∧ nxV x u t = 0 ∧ nxE x u t = 0) ∧ (¬ x + u < t → borN (x + u) t = 0 ∧ difN (x + u) t = x + u - t ∧ Num (x + u - t) ∧
      (x + u - t < 18446744073709551616 → nxV x u t = x + u - t ∧ nxE x u t = 0) ∧ (¬ x + u - t < 18446744073709551616 → nxV x u t = 0 ∧ nxE x u t = 183)) := by
  obtain ⟨_, _⟩ := hx; obtain ⟨_, _⟩ := hu; obtain ⟨_, _⟩ := ht
  refine ⟨⟨by omega, by omega⟩, by unfold sumN; omega, by unfold carN; omega, fun c => ⟨if_pos c, if_pos c, if_pos c⟩, fun c => ⟨if_neg c, by unfold difN; omega, ⟨by omega, by omega⟩, fun c2 => ⟨?_, ?_⟩, fun c2 => ⟨?_, ?_⟩⟩⟩
  · unfold nxV; rw [if_neg c, if_pos c2]
  · unfold nxE; rw [if_neg c, if_pos c2]
  · unfold nxV; rw [if_neg c, if_neg c2]
  · unfold nxE; rw [if_neg c, if_neg c2]
theorem small_lt {n : Int} (hn : Num n) (h : n < 18446744073709551616) (w : World) : Calls Try.prog 29 #[.agg #[.int .u64 (l0 n), .int .u64 (l1 n), .int .u64 (l2 n), .int .u64 (l3 n)]] w fun e w' => e = .returned (.tuple #[.int .u64 n, .int .i64 0]) ∧ Below w.heap.size w w' := by
  have e : l0 n = n := by unfold l0; have := hn.1; omega
  have := small_walk (n := n) (t := true) (fun w => by have := eq_num hn (show Num (l0 n) by rw [e]; exact hn) w; rw [decide_eq_true e.symm] at this; exact this) w
  rw [if_pos rfl] at this
  refine this.mono fun e' w' h => ⟨?_, h.2⟩
  rw [h.1, e]
theorem small_ge {n : Int} (hn : Num n) (h : ¬ n < 18446744073709551616) (w : World) : Calls Try.prog 29 #[.agg #[.int .u64 (l0 n), .int .u64 (l1 n), .int .u64 (l2 n), .int .u64 (l3 n)]] w fun e w' => e = .returned (.tuple #[.int .u64 0, .int .i64 11]) ∧ Below w.heap.size w w' := by
  have wl := l0_word n
  have := small_walk (n := n) (t := false) (fun w => eq_no hn ⟨wl.1, by have := wl.2; omega⟩ (by have := wl.2; omega) w) w
  rw [if_neg (by decide)] at this
  exact this
theorem rsmall_lt {n : Int} (hn : Num n) (h : n < 18446744073709551616) (w : World) : Calls Try.prog 36 #[.agg #[.int .u64 (l0 n), .int .u64 (l1 n), .int .u64 (l2 n), .int .u64 (l3 n)]] w fun e w' => e = .returned (.tuple #[.int .u64 n, .int .i64 0]) ∧ Below w.heap.size w w' := by
  obtain ⟨r0, r1, r2, r3⟩ := from_val (show Word n from ⟨hn.1, h⟩)
  have := rsmall_limbs (x0 := l0 n) (x1 := l1 n) (x2 := l2 n) (x3 := l3 n) w
  rw [if_pos ⟨r1, r2, r3⟩] at this
  refine this.mono fun e' w' h => ⟨?_, h.2⟩
  rw [h.1, r0]
theorem rsmall_ge {n : Int} (hn : Num n) (h : ¬ n < 18446744073709551616) (w : World) : Calls Try.prog 36 #[.agg #[.int .u64 (l0 n), .int .u64 (l1 n), .int .u64 (l2 n), .int .u64 (l3 n)]] w fun e w' => e = .returned (.tuple #[.int .u64 0, .int .i64 11]) ∧ Below w.heap.size w w' := by
  have := rsmall_limbs (x0 := l0 n) (x1 := l1 n) (x2 := l2 n) (x3 := l3 n) w
  rw [if_neg (fun c => by
    have e := num_l hn
    rw [c.1, c.2.1, c.2.2] at e
    have := (l0_word n).2
    unfold num at e
    omega)] at this
  exact this

theorem nx_any {x u t : Int} (hx : Word x) (hu : Word u) (ht : Word t) (w : World) :
    Calls Try.prog 13 #[.int .u64 x, .int .u64 u, .int .u64 t] w fun e w' => e = .returned (.tuple #[.int .u64 (nxV x u t), .int .i64 (nxE x u t)]) ∧ Below w.heap.size w w' := by
  obtain ⟨ns, e1, e2, A, Bc⟩ := nx_hk hx hu ht
  have AD := fun w => add_any hx.num hu.num w
  rw [e1, e2] at AD
  have SU := fun w => sub_any ns ht.num w
  by_cases c : x + u < t
  · obtain ⟨a1, a2, a3⟩ := A c
    rw [a1] at SU
    obtain ⟨v, er, S1, S2⟩ := smalls (difN_Num (x + u) t)
    exact nx_walk hx hu ht AD SU S1 (.inl ⟨rfl, a2, a3⟩) w
  · obtain ⟨a1, a2, a3, a4, a5⟩ := Bc c
    rw [a1, a2] at SU
    by_cases c2 : x + u - t < 18446744073709551616
    · exact nx_walk hx hu ht AD SU (fun w => small_lt a3 c2 w) (.inr ⟨rfl, .inl ⟨rfl, (a4 c2).1, (a4 c2).2⟩⟩) w
    · exact nx_walk hx hu ht AD SU (fun w => small_ge a3 c2 w) (.inr ⟨rfl, .inr ⟨rfl, (a5 c2).1, (a5 c2).2⟩⟩) w

theorem rnx_any {x u t : Int} (hx : Word x) (hu : Word u) (ht : Word t) (w : World) :
    Calls Try.prog 16 #[.int .u64 x, .int .u64 u, .int .u64 t] w fun e w' => e = .returned (.tuple #[.int .u64 (nxV x u t), .int .i64 (nxE x u t)]) ∧ Below w.heap.size w w' := by
  obtain ⟨ns, e1, e2, A, Bc⟩ := nx_hk hx hu ht
  have AD := fun w => radd_any hx.num hu.num w
  rw [e1, e2] at AD
  have SU := fun w => rsub_any ns ht.num w
  by_cases c : x + u < t
  · obtain ⟨a1, a2, a3⟩ := A c
    rw [a1] at SU
    obtain ⟨v, er, S1, S2⟩ := smalls (difN_Num (x + u) t)
    exact rnx_walk hx hu ht AD SU S2 (.inl ⟨rfl, a2, a3⟩) w
  · obtain ⟨a1, a2, a3, a4, a5⟩ := Bc c
    rw [a1, a2] at SU
    by_cases c2 : x + u - t < 18446744073709551616
    · exact rnx_walk hx hu ht AD SU (fun w => rsmall_lt a3 c2 w) (.inr ⟨rfl, .inl ⟨rfl, (a4 c2).1, (a4 c2).2⟩⟩) w
    · exact rnx_walk hx hu ht AD SU (fun w => rsmall_ge a3 c2 w) (.inr ⟨rfl, .inr ⟨rfl, (a5 c2).1, (a5 c2).2⟩⟩) w

end Go.Proofs.Ytmegdnalpaddmaa

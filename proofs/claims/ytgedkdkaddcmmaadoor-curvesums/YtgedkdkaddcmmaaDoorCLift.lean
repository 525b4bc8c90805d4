import Derived.Test.YtgedkdkaddcmmaaDoorCPnt
import Derived.Test.YtgedkdkaddcmmaaDoorCMod
import Derived.Test.YtgedkdkaddcmmaaDoorFRootAny
import Derived.Test.YtgedkdkaddcmmaaDoorFRefX
import Derived.Test.YtgedkdkaddcmmaaDoorFRefY
namespace Go.Proofs.YtgedkdkaddcmmaaDoor
open Go.RowKit Go.Sort

def liftOk (x : Int) : Prop := x < pN ∧ rootE (cubN x) = 0
instance (x : Int) : Decidable (liftOk x) := inferInstanceAs (Decidable (_ ∧ _))
end Go.Proofs.YtgedkdkaddcmmaaDoor

namespace Go.Proofs.YtgedkdkaddcmmaaDoor
open Go.RowKit Go.Sort

set_option maxHeartbeats 2000000 in
theorem r5add_any {x y : Int} (hx : Num x) (hy : Num y) (w : World) :
    Calls Tryd.prog 43 #[.agg #[.int .u64 (l0 x), .int .u64 (l1 x), .int .u64 (l2 x), .int .u64 (l3 x)], .agg #[.int .u64 (l0 y), .int .u64 (l1 y), .int .u64 (l2 y), .int .u64 (l3 y)]] w fun e w' => e = .returned (.agg #[.int .u64 (l0 (modN pN (x + y))), .int .u64 (l1 (modN pN (x + y))), .int .u64 (l2 (modN pN (x + y))), .int .u64 (l3 (modN pN (x + y)))]) ∧ Below w.heap.size w w' := by
  have C : Hid (∀ w, Calls Tryd.prog 55 #[.int .i64 0, .agg #[.int .u64 (l0 x), .int .u64 (l1 x), .int .u64 (l2 x), .int .u64 (l3 x)], .agg #[.int .u64 (l0 y), .int .u64 (l1 y), .int .u64 (l2 y), .int .u64 (l3 y)]] w fun e w' => e = .returned (.tuple #[.agg #[.int .u64 (l0 (modN pN (x + y))), .int .u64 (l1 (modN pN (x + y))), .int .u64 (l2 (modN pN (x + y))), .int .u64 (l3 (modN pN (x + y)))], .int .i64 0]) ∧ Below w.heap.size w w') := fun w => rAdd_good (.inl rfl) hx hy w
  generalize modN pN (x + y) = r at *
  clear hx hy
  go_enter Tryd.func43, Tryd.ntmps43
  go_wp2_with fail
  refine calls_world (fun W => Below w.heap.size w W ∧ Blank W (w.heap.size + 1 + 1)) ⟨by repeat (first | with_reducible exact Below.refl _ _ | with_reducible refine Below.alloc ?_ (by first | omega | (simp; done) | (simp; omega)) _), Blank.new (by simp)⟩ ?_
  rintro W ⟨B, hR⟩
  have o3 : w.heap.size ≤ w.heap.size + 1 + 1 := by omega
  generalize w.heap.size + 1 + 1 = br at *
  with_reducible refine (C.out _).mono ?_
  rintro e w1 ⟨rfl, hb⟩
  replace B := B.trans (hb.mono B.size)
  replace hR := hR.keep hb
  have lr := hR.1.lt (by simp)
  have nr : w1.heap.size ≠ br := by omega
  have nr' := nr.symm
  clear hb W lr
  have gR := fun o => (hR.alloc o).1.all4
  have fR := fun o => (hR.alloc o).2.all4
  have BB : Hid (∀ o, Below w.heap.size w (w1.alloc o)) := fun o => B.alloc B.size o
  clear B hR
  go_wp2
  simp [bodyPost, results, Tryd.results43, go_sem, *]
  repeat (first | with_reducible exact BB.out _ | with_reducible refine Below.drew ?_ | with_reducible refine Below.setCell ?_ (by with_reducible assumption) _)

set_option maxHeartbeats 2000000 in
theorem r5sub_any {x y : Int} (hx : Num x) (hy : Num y) (w : World) :
    Calls Tryd.prog 30 #[.agg #[.int .u64 (l0 x), .int .u64 (l1 x), .int .u64 (l2 x), .int .u64 (l3 x)], .agg #[.int .u64 (l0 y), .int .u64 (l1 y), .int .u64 (l2 y), .int .u64 (l3 y)]] w fun e w' => e = .returned (.agg #[.int .u64 (l0 (modN pN (x - y))), .int .u64 (l1 (modN pN (x - y))), .int .u64 (l2 (modN pN (x - y))), .int .u64 (l3 (modN pN (x - y)))]) ∧ Below w.heap.size w w' := by
  have C : Hid (∀ w, Calls Tryd.prog 46 #[.int .i64 0, .agg #[.int .u64 (l0 x), .int .u64 (l1 x), .int .u64 (l2 x), .int .u64 (l3 x)], .agg #[.int .u64 (l0 y), .int .u64 (l1 y), .int .u64 (l2 y), .int .u64 (l3 y)]] w fun e w' => e = .returned (.tuple #[.agg #[.int .u64 (l0 (modN pN (x - y))), .int .u64 (l1 (modN pN (x - y))), .int .u64 (l2 (modN pN (x - y))), .int .u64 (l3 (modN pN (x - y)))], .int .i64 0]) ∧ Below w.heap.size w w') := fun w => rSub_good (.inl rfl) hx hy w
  generalize modN pN (x - y) = r at *
  clear hx hy
  go_enter Tryd.func30, Tryd.ntmps30
  go_wp2_with fail
  refine calls_world (fun W => Below w.heap.size w W ∧ Blank W (w.heap.size + 1 + 1)) ⟨by repeat (first | with_reducible exact Below.refl _ _ | with_reducible refine Below.alloc ?_ (by first | omega | (simp; done) | (simp; omega)) _), Blank.new (by simp)⟩ ?_
  rintro W ⟨B, hR⟩
  have o3 : w.heap.size ≤ w.heap.size + 1 + 1 := by omega
  generalize w.heap.size + 1 + 1 = br at *
  with_reducible refine (C.out _).mono ?_
  rintro e w1 ⟨rfl, hb⟩
  replace B := B.trans (hb.mono B.size)
  replace hR := hR.keep hb
  have lr := hR.1.lt (by simp)
  have nr : w1.heap.size ≠ br := by omega
  have nr' := nr.symm
  clear hb W lr
  have gR := fun o => (hR.alloc o).1.all4
  have fR := fun o => (hR.alloc o).2.all4
  have BB : Hid (∀ o, Below w.heap.size w (w1.alloc o)) := fun o => B.alloc B.size o
  clear B hR
  go_wp2
  simp [bodyPost, results, Tryd.results30, go_sem, *]
  repeat (first | with_reducible exact BB.out _ | with_reducible refine Below.drew ?_ | with_reducible refine Below.setCell ?_ (by with_reducible assumption) _)

set_option maxHeartbeats 2000000 in
theorem r5mul_any {x y : Int} (hx : Num x) (hy : Num y) (w : World) :
    Calls Tryd.prog 25 #[.agg #[.int .u64 (l0 x), .int .u64 (l1 x), .int .u64 (l2 x), .int .u64 (l3 x)], .agg #[.int .u64 (l0 y), .int .u64 (l1 y), .int .u64 (l2 y), .int .u64 (l3 y)]] w fun e w' => e = .returned (.agg #[.int .u64 (l0 (modN pN (x * y))), .int .u64 (l1 (modN pN (x * y))), .int .u64 (l2 (modN pN (x * y))), .int .u64 (l3 (modN pN (x * y)))]) ∧ Below w.heap.size w w' := by
  have C : Hid (∀ w, Calls Tryd.prog 42 #[.int .i64 0, .agg #[.int .u64 (l0 x), .int .u64 (l1 x), .int .u64 (l2 x), .int .u64 (l3 x)], .agg #[.int .u64 (l0 y), .int .u64 (l1 y), .int .u64 (l2 y), .int .u64 (l3 y)]] w fun e w' => e = .returned (.tuple #[.agg #[.int .u64 (l0 (modN pN (x * y))), .int .u64 (l1 (modN pN (x * y))), .int .u64 (l2 (modN pN (x * y))), .int .u64 (l3 (modN pN (x * y)))], .int .i64 0]) ∧ Below w.heap.size w w') := fun w => rMul_good (.inl rfl) hx hy w
  generalize modN pN (x * y) = r at *
  clear hx hy
  go_enter Tryd.func25, Tryd.ntmps25
  go_wp2_with fail
  refine calls_world (fun W => Below w.heap.size w W ∧ Blank W (w.heap.size + 1 + 1)) ⟨by repeat (first | with_reducible exact Below.refl _ _ | with_reducible refine Below.alloc ?_ (by first | omega | (simp; done) | (simp; omega)) _), Blank.new (by simp)⟩ ?_
  rintro W ⟨B, hR⟩
  have o3 : w.heap.size ≤ w.heap.size + 1 + 1 := by omega
  generalize w.heap.size + 1 + 1 = br at *
  with_reducible refine (C.out _).mono ?_
  rintro e w1 ⟨rfl, hb⟩
  replace B := B.trans (hb.mono B.size)
  replace hR := hR.keep hb
  have lr := hR.1.lt (by simp)
  have nr : w1.heap.size ≠ br := by omega
  have nr' := nr.symm
  clear hb W lr
  have gR := fun o => (hR.alloc o).1.all4
  have fR := fun o => (hR.alloc o).2.all4
  have BB : Hid (∀ o, Below w.heap.size w (w1.alloc o)) := fun o => B.alloc B.size o
  clear B hR
  go_wp2
  simp [bodyPost, results, Tryd.results25, go_sem, *]
  repeat (first | with_reducible exact BB.out _ | with_reducible refine Below.drew ?_ | with_reducible refine Below.setCell ?_ (by with_reducible assumption) _)

set_option maxHeartbeats 2000000 in
theorem r5low_any {x : Int} (hx : Num x) (w : World) :
    Calls Tryd.prog 24 #[.agg #[.int .u64 (l0 x), .int .u64 (l1 x), .int .u64 (l2 x), .int .u64 (l3 x)]] w fun e w' => e = .returned (.bool (decide (x < pN))) ∧ Below w.heap.size w w' := by
  have C := fun w => rcmp_any hx fit_p.num w
  have hv : decide (cmpN x pN < 0) = decide (x < pN) := by
    unfold cmpN
    by_cases h' : x = pN
    · rw [h']; simp
    · by_cases h : x < pN <;> simp [h, h']
  have O : Hid (∀ w, Calls Tryd.prog 40 #[.int .i64 0] w fun e w' => e = .returned (.tuple #[.agg #[.int .u64 (l0 pN), .int .u64 (l1 pN), .int .u64 (l2 pN), .int .u64 (l3 pN)], .int .i64 0]) ∧ Below w.heap.size w w') := fun w => rModulus_good (.inl rfl) w
  generalize decide (x < pN) = r at *
  generalize cmpN x pN = q at *
  generalize pN = p at *
  clear hx
  go_enter Tryd.func24, Tryd.ntmps24
  go_wp2_with fail
  refine calls_world (fun W => Below w.heap.size w W ∧ Hold W w.heap.size x) ⟨by repeat (first | with_reducible exact Below.refl _ _ | with_reducible refine Below.alloc ?_ (by first | omega | (simp; done) | (simp; omega)) _), Hold.fresh (by simp)⟩ ?_
  rintro W ⟨B, hX⟩
  with_reducible refine (O.out _).mono ?_
  rintro e w1 ⟨rfl, hb⟩
  replace B := B.trans (hb.mono B.size)
  replace hX := hX.keep hb
  clear hb W
  have gX := hX.allocs
  go_wp2_with fail
  refine calls_world (fun W => Below w.heap.size w W) (B.alloc B.size _) ?_
  clear B hX gX
  rintro W B
  with_reducible refine (C _).mono ?_
  rintro e w2 ⟨rfl, hb⟩
  replace B := B.trans (hb.mono B.size)
  clear hb W
  go_wp2
  simp [bodyPost, results, Tryd.results24, go_sem]
  exact B

set_option maxRecDepth 100000 in
set_option maxHeartbeats 8000000 in
theorem r5cubic_walk {x a b r : Int} (C1 : Hid (∀ w, Calls Tryd.prog 25 #[.agg #[.int .u64 (l0 x), .int .u64 (l1 x), .int .u64 (l2 x), .int .u64 (l3 x)], .agg #[.int .u64 (l0 x), .int .u64 (l1 x), .int .u64 (l2 x), .int .u64 (l3 x)]] w fun e w' => e = .returned (.agg #[.int .u64 (l0 a), .int .u64 (l1 a), .int .u64 (l2 a), .int .u64 (l3 a)]) ∧ Below w.heap.size w w')) (C2 : Hid (∀ w, Calls Tryd.prog 25 #[.agg #[.int .u64 (l0 a), .int .u64 (l1 a), .int .u64 (l2 a), .int .u64 (l3 a)], .agg #[.int .u64 (l0 x), .int .u64 (l1 x), .int .u64 (l2 x), .int .u64 (l3 x)]] w fun e w' => e = .returned (.agg #[.int .u64 (l0 b), .int .u64 (l1 b), .int .u64 (l2 b), .int .u64 (l3 b)]) ∧ Below w.heap.size w w'))
    (C3 : Hid (∀ w, Calls Tryd.prog 44 #[.int .u64 7] w fun e w' => e = .returned (.agg #[.int .u64 (l0 7), .int .u64 (l1 7), .int .u64 (l2 7), .int .u64 (l3 7)]) ∧ Below w.heap.size w w')) (C4 : Hid (∀ w, Calls Tryd.prog 43 #[.agg #[.int .u64 (l0 b), .int .u64 (l1 b), .int .u64 (l2 b), .int .u64 (l3 b)], .agg #[.int .u64 (l0 7), .int .u64 (l1 7), .int .u64 (l2 7), .int .u64 (l3 7)]] w fun e w' => e = .returned (.agg #[.int .u64 (l0 r), .int .u64 (l1 r), .int .u64 (l2 r), .int .u64 (l3 r)]) ∧ Below w.heap.size w w')) (w : World) :
    Calls Tryd.prog 26 #[.agg #[.int .u64 (l0 x), .int .u64 (l1 x), .int .u64 (l2 x), .int .u64 (l3 x)]] w fun e w' => e = .returned (.agg #[.int .u64 (l0 r), .int .u64 (l1 r), .int .u64 (l2 r), .int .u64 (l3 r)]) ∧ Below w.heap.size w w' := by
  go_enter Tryd.func26, Tryd.ntmps26
  go_wp2_with fail
  refine wp_world (fun W => Below w.heap.size w W ∧ Hold W w.heap.size x ∧ Blank W (w.heap.size + 1)) ⟨by repeat (first | with_reducible exact Below.refl _ _ | with_reducible refine Below.alloc ?_ (by first | omega | (simp; done) | (simp; omega)) _), (Hold.fresh (by simp)).alloc _, Blank.new (by simp)⟩ ?_
  rintro W ⟨B, hX, hR⟩
  have o3 : w.heap.size ≤ w.heap.size + 1 := by omega
  generalize w.heap.size + 1 = br at *
  have ghX := hX.cells
  have lthX : w.heap.size < W.heap.size := World.block_lt_of_cell? W _ hX.1
  have lthR : br < W.heap.size := hR.1.lt (by simp)
  have BB : Hid (Below w.heap.size w W) := B
  have QhX : Hid (Hold W w.heap.size x) := hX
  have QhR : Hid (Blank W br) := hR
  have geB : w.heap.size ≤ W.heap.size := B.size
  clear B hX hR
  generalize hbx : w.heap.size = bx at *
  refine wp_out (fun a' W' => ∃ bc, Below bx w W' ∧ Hold W' bx x ∧ Blank W' br ∧ Hold W' bc b ∧ a' = { tmps := #[.agg #[.int .u64 (l0 x), .int .u64 (l1 x), .int .u64 (l2 x), .int .u64 (l3 x)], .pointer (some { block := bx, off := 0 }), .pointer (some { block := br, off := 0 }), .pointer (some { block := bc, off := 0 }), .agg #[.int .u64 (l0 x), .int .u64 (l1 x), .int .u64 (l2 x), .int .u64 (l3 x)], .agg #[.int .u64 (l0 x), .int .u64 (l1 x), .int .u64 (l2 x), .int .u64 (l3 x)], .agg #[.int .u64 (l0 a), .int .u64 (l1 a), .int .u64 (l2 a), .int .u64 (l3 a)], .agg #[.int .u64 (l0 x), .int .u64 (l1 x), .int .u64 (l2 x), .int .u64 (l3 x)], .agg #[.int .u64 (l0 b), .int .u64 (l1 b), .int .u64 (l2 b), .int .u64 (l3 b)], Go.undef, Go.undef, Go.undef], defers := [] }) ?_ ?_
  · have dz : W.drew.heap.size = W.heap.size := rfl
    clear C3 C4
    have lo0 : bx < W.heap.size := by omega
    have _ := Nat.ne_of_lt lo0
    have _ := Nat.ne_of_gt lo0
    have lo1 : br < W.heap.size := by omega
    have _ := Nat.ne_of_lt lo1
    have _ := Nat.ne_of_gt lo1
    go_region_held3 (fun w' => w'.cell? ⟨bx, 0, none⟩ = some (.int .u64 (l0 x)) ∧ w'.cell? ⟨bx, 1, none⟩ = some (.int .u64 (l1 x)) ∧ w'.cell? ⟨bx, 2, none⟩ = some (.int .u64 (l2 x)) ∧ w'.cell? ⟨bx, 3, none⟩ = some (.int .u64 (l3 x))) (((try dsimp only); (repeat' (apply And.intro)); (all_goals repeat (first | with_reducible assumption | with_reducible apply cell_keep hb2 | with_reducible apply cell_keep hb1 | with_reducible apply cell_alloc | (with_reducible refine cell_set ?_ (by with_reducible assumption)) | (with_reducible refine cell_far ?_ (by with_reducible assumption)) | (simp [go_sem, *]; done)))))
      (first
        | (go_at_call 25; with_reducible refine (C1.out _).mono ?_; rintro e w1 ⟨rfl, hb1⟩; have hc1 := oldCells hb1; have hz1 := hb1.size; (try simp at hz1); have hW1 : W.heap.size ≤ w1.heap.size := (by omega); have _ := Nat.le_trans geB hW1; (try (have := fun j => oldCells hb1 (W.heap.size) j (by first | omega | (simp; done) | (simp; omega)))); have lo0_1 := Nat.lt_of_lt_of_le lo0 hW1; have _ := Nat.ne_of_lt lo0_1; have _ := Nat.ne_of_gt lo0_1; have lo1_1 := Nat.lt_of_lt_of_le lo1 hW1; have _ := Nat.ne_of_lt lo1_1; have _ := Nat.ne_of_gt lo1_1; (try (have hv : W.heap.size < w1.heap.size := (by omega); have _ := Nat.ne_of_lt hv; have _ := Nat.ne_of_gt hv)))
        | (go_at_call 25; with_reducible refine (C2.out _).mono ?_; rintro e w2 ⟨rfl, hb2⟩; have hc2 := oldCells hb2; have hz2 := hb2.size; (try simp at hz2); have hW2 : W.heap.size ≤ w2.heap.size := (by omega); have _ := Nat.le_trans geB hW2; (try (have := fun j => oldCells hb2 (W.heap.size) j (by first | omega | (simp; done) | (simp; omega)))); (try (have := fun j => oldCells hb2 (w1.heap.size) j (by first | omega | (simp; done) | (simp; omega)))); have lo0_2 := Nat.lt_of_lt_of_le lo0 hW2; have _ := Nat.ne_of_lt lo0_2; have _ := Nat.ne_of_gt lo0_2; have lo1_2 := Nat.lt_of_lt_of_le lo1 hW2; have _ := Nat.ne_of_lt lo1_2; have _ := Nat.ne_of_gt lo1_2; (try (have hv : W.heap.size < w2.heap.size := (by omega); have _ := Nat.ne_of_lt hv; have _ := Nat.ne_of_gt hv)); (try (have hv : w1.heap.size < w2.heap.size := (by omega); have _ := Nat.ne_of_lt hv; have _ := Nat.ne_of_gt hv))))
    all_goals (refine OutQ.intro ⟨_, ?_, ?_, ?_, ?_, rfl⟩)
    all_goals repeat (first | with_reducible exact BB.out | with_reducible exact QhX.out | with_reducible exact QhR.out | with_reducible refine Hold.fresh (by first | rfl | (simp; done) | fail) | with_reducible refine Hold.sets4 ?_ | with_reducible refine Var.new (by first | rfl | (simp; done) | fail) | with_reducible refine Hold.alloc ?_ _ | with_reducible refine Hold.drew ?_ | with_reducible refine Hold.set4 ?_ (by with_reducible assumption) _ _ _ _ | with_reducible refine HoldM.alloc ?_ _ | with_reducible refine HoldM.drew ?_ | with_reducible refine HoldM.set4 ?_ (by with_reducible assumption) _ _ _ _ | with_reducible refine Blank.alloc ?_ _ | with_reducible refine Blank.drew ?_ | with_reducible refine Blank.set4 ?_ (by with_reducible assumption) _ _ _ _ | with_reducible refine Mds.alloc ?_ _ | with_reducible refine Mds.drew ?_ | with_reducible refine Mds.set4 ?_ (by with_reducible assumption) _ _ _ _ | with_reducible refine Var.alloc ?_ _ | with_reducible refine Var.set4 ?_ (by with_reducible assumption) _ _ _ _ | with_reducible refine below_alloc hbx ?_ _ | with_reducible refine Below.drew ?_ | with_reducible refine Below.setCell ?_ (by with_reducible assumption) _ | with_reducible refine Has.fresh (by first | rfl | (simp; done) | fail) (by first | (simp; done) | fail) | with_reducible refine Has.alloc ?_ _ | with_reducible refine Has.drew ?_ | with_reducible refine Has.keep ?_ hb2 | with_reducible refine Hold.keep ?_ hb2 | with_reducible refine HoldM.keep ?_ hb2 | with_reducible refine Blank.keep ?_ hb2 | with_reducible refine Mds.keep ?_ hb2 | with_reducible refine Var.keep ?_ hb2 | with_reducible refine below_then hbx ?_ hb2 | with_reducible refine Has.keep ?_ hb1 | with_reducible refine Hold.keep ?_ hb1 | with_reducible refine HoldM.keep ?_ hb1 | with_reducible refine Blank.keep ?_ hb1 | with_reducible refine Mds.keep ?_ hb1 | with_reducible refine Var.keep ?_ hb1 | with_reducible refine below_then hbx ?_ hb1)
  rintro _ W ⟨bc, B, hX, hR, hC, rfl⟩
  subst hbx
  clear BB geB QhX QhR ghX lthX lthR
  go_wp2_with fail
  have ghC := hC.grown
  refine below_tail 3 (by kernel_rfl) (by kernel_rfl) ?_
  simp only [List.take_succ_cons, List.take_zero, List.drop_succ_cons, List.drop_zero]
  repeat
    first
      | go_big_quiet_skip
      | (go_big_quiet_want; go_big_quiet_op; go_big_quiet_on)
      | (go_big_quiet_want
         go_big_quiet_op
         apply Exists.intro
         refine ⟨fun p => ?_, ?_⟩
         · (first | (go_at_call 44; with_reducible exact Calls.regrown_of (C3.out _)) | (go_at_call 43; with_reducible exact Calls.regrown_of (C4.out _)))
         go_big_quiet_on)
  refine wpQuiet_nil ?_
  rintro w1 ⟨p, rfl⟩
  have hb := below_regrown W p.d p.os
  generalize grow (redrawn W p.d) p.os = w1 at *
  replace B := B.trans (hb.mono B.size)
  replace hX := hX.keep hb; replace hR := hR.keep hb; replace hC := hC.keep hb
  clear hb W ghC 
  have gR := hR.1.all4; have fR := hR.2.all4
  go_wp2
  simp [bodyPost, results, Tryd.results26, go_sem, gR]
  exact below_set4 B o3 _ _ _ _

theorem r5cubic_any {x : Int} (hx : Num x) (w : World) :
    Calls Tryd.prog 26 #[.agg #[.int .u64 (l0 x), .int .u64 (l1 x), .int .u64 (l2 x), .int .u64 (l3 x)]] w fun e w' => e = .returned (.agg #[.int .u64 (l0 (cubN x)), .int .u64 (l1 (cubN x)), .int .u64 (l2 (cubN x)), .int .u64 (l3 (cubN x))]) ∧ Below w.heap.size w w' :=
  r5cubic_walk (fun w => r5mul_any hx hx w) (fun w => r5mul_any (modN_Num fit_p _) hx w) (fun w => rfrom_any ⟨by decide, by decide⟩ w)
    (fun w => r5add_any (modN_Num fit_p _) ⟨by decide, by decide⟩ w) w

set_option maxHeartbeats 4000000 in
theorem r5neg_walk {x y s : Int} (C : Hid (∀ w, Calls Tryd.prog 30 #[.agg #[.int .u64 0, .int .u64 0, .int .u64 0, .int .u64 0], .agg #[.int .u64 (l0 y), .int .u64 (l1 y), .int .u64 (l2 y), .int .u64 (l3 y)]] w fun e w' => e = .returned (.agg #[.int .u64 (l0 s), .int .u64 (l1 s), .int .u64 (l2 s), .int .u64 (l3 s)]) ∧ Below w.heap.size w w')) (w : World) :
    Calls Tryd.prog 27 #[.agg #[.int .u64 (l0 x), .int .u64 (l1 x), .int .u64 (l2 x), .int .u64 (l3 x), .int .u64 (l0 y), .int .u64 (l1 y), .int .u64 (l2 y), .int .u64 (l3 y), .bool false]] w fun e w' => e = .returned (.agg #[.int .u64 (l0 x), .int .u64 (l1 x), .int .u64 (l2 x), .int .u64 (l3 x), .int .u64 (l0 s), .int .u64 (l1 s), .int .u64 (l2 s), .int .u64 (l3 s), .bool false]) ∧ Below w.heap.size w w' := by
  have bz := build_zero
  go_enter Tryd.func27, Tryd.ntmps27
  go_wp2_with fail
  refine calls_world (fun W => Below w.heap.size w W ∧ Pnt W w.heap.size x y false ∧ Bk9 W (w.heap.size + 1)) ⟨by repeat (first | with_reducible exact Below.refl _ _ | with_reducible refine Below.alloc ?_ (by first | omega | (simp; done) | (simp; omega)) _), (Pnt.new rfl).alloc _, Bk9.new (by simp)⟩ ?_
  rintro W ⟨B, hP, hR⟩
  have o3 : w.heap.size ≤ w.heap.size + 1 := by omega
  generalize w.heap.size + 1 = br at *
  with_reducible refine (C.out _).mono ?_
  rintro e w1 ⟨rfl, hb⟩
  replace B := B.trans (hb.mono B.size)
  replace hR := hR.keep hb; replace hP := hP.keep hb
  have lr := hR.lt
  have nr : w1.heap.size ≠ br := by omega
  have nr' := nr.symm
  have gP := fun o => (hP.alloc o).cells
  have gR := fun o => (hR.alloc o).cells; have fR := fun o => (hR.alloc o).free
  have BB : Hid (∀ o, Below w.heap.size w (w1.alloc o)) := fun o => B.alloc B.size o
  clear hb W lr hR hP B
  go_wp2
  simp [bodyPost, results, Tryd.results27, go_sem, *]
  repeat (first | with_reducible exact BB.out _ | with_reducible refine Below.drew ?_ | with_reducible refine Below.setCell ?_ (by with_reducible assumption) _)
theorem r5neg_any {x y : Int} (hy : Num y) (w : World) :
    Calls Tryd.prog 27 #[.agg #[.int .u64 (l0 x), .int .u64 (l1 x), .int .u64 (l2 x), .int .u64 (l3 x), .int .u64 (l0 y), .int .u64 (l1 y), .int .u64 (l2 y), .int .u64 (l3 y), .bool false]] w fun e w' => e = .returned (.agg #[.int .u64 (l0 x), .int .u64 (l1 x), .int .u64 (l2 x), .int .u64 (l3 x), .int .u64 (l0 (modN pN (0 - y))), .int .u64 (l1 (modN pN (0 - y))), .int .u64 (l2 (modN pN (0 - y))), .int .u64 (l3 (modN pN (0 - y))), .bool false]) ∧ Below w.heap.size w w' :=
  r5neg_walk (fun w => by
    have := r5sub_any (x := 0) ⟨by decide, by decide⟩ hy w
    obtain ⟨z0, z1, z2, z3⟩ := zero_limbs
    rw [z0, z1, z2, z3] at this
    exact this) w

end Go.Proofs.YtgedkdkaddcmmaaDoor

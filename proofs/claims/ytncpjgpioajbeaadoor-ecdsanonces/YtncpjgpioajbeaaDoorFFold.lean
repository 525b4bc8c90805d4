import Derived.Test.YtncpjgpioajbeaaDoorHold
import Derived.Deep.RegionWith
import Derived.Test.YtncpjgpioajbeaaDoorRefNum
import Derived.Test.YtncpjgpioajbeaaDoorAdd
namespace Go.Proofs.YtncpjgpioajbeaaDoor
open Go.RowKit Go.Sort

theorem post_world {Q : Exit → Act → World → Prop} {e : Exit} {a : Act} {w : World} (S : World → Prop) (h : S w) (k : ∀ W, S W → Q e a W) : Q e a w := k w h

set_option maxHeartbeats 1000000 in
theorem ffold_any {m c h l : Int} (hf : Fit m c) (hh : Num h) (hl : Num l) (w : World) :
    Calls Tryd.prog 56 #[.agg #[.int .u64 (l0 h), .int .u64 (l1 h), .int .u64 (l2 h), .int .u64 (l3 h)], .agg #[.int .u64 (l0 l), .int .u64 (l1 l), .int .u64 (l2 l), .int .u64 (l3 l)], .agg #[.int .u64 (l0 c), .int .u64 (l1 c), .int .u64 (l2 c), .int .u64 (l3 c)]] w fun e w' => e = .returned (.tuple #[.agg #[.int .u64 (l0 (foldH h l c)), .int .u64 (l1 (foldH h l c)), .int .u64 (l2 (foldH h l c)), .int .u64 (l3 (foldH h l c))], .agg #[.int .u64 (l0 (foldL h l c)), .int .u64 (l1 (foldL h l c)), .int .u64 (l2 (foldL h l c)), .int .u64 (l3 (foldL h l c))]]) ∧ Below w.heap.size w w' := by
  have hc := hf.numc
  obtain ⟨q1, q2, q3, q4⟩ := fold_num hf hh hl
  have M1 : Hid (∀ w, Calls Tryd.prog 68 #[.agg #[.int .u64 (l0 h), .int .u64 (l1 h), .int .u64 (l2 h), .int .u64 (l3 h)], .agg #[.int .u64 (l0 c), .int .u64 (l1 c), .int .u64 (l2 c), .int .u64 (l3 c)]] w fun e w' => e = .returned (.tuple #[.agg #[.int .u64 (l0 (hiN h c)), .int .u64 (l1 (hiN h c)), .int .u64 (l2 (hiN h c)), .int .u64 (l3 (hiN h c))], .agg #[.int .u64 (l0 (loN h c)), .int .u64 (l1 (loN h c)), .int .u64 (l2 (loN h c)), .int .u64 (l3 (loN h c))]]) ∧ Below w.heap.size w w') := mul_any hh hc
  have A1 : Hid (∀ w, Calls Tryd.prog 69 #[.agg #[.int .u64 (l0 (loN h c)), .int .u64 (l1 (loN h c)), .int .u64 (l2 (loN h c)), .int .u64 (l3 (loN h c))], .agg #[.int .u64 (l0 l), .int .u64 (l1 l), .int .u64 (l2 l), .int .u64 (l3 l)]] w fun e w' => e = .returned (.tuple #[.agg #[.int .u64 (l0 (foldL h l c)), .int .u64 (l1 (foldL h l c)), .int .u64 (l2 (foldL h l c)), .int .u64 (l3 (foldL h l c))], .int .u64 (carN (loN h c) l)]) ∧ Below w.heap.size w w') := fun w => by
    have := add_any (loN_Num h c) hl w; rw [q2] at this; exact this
  have F1 := from_any q4
  have nc : Num (carN (loN h c) l) := by obtain ⟨a, b⟩ := q4; exact ⟨a, by omega⟩
  have A2 : Hid (∀ w, Calls Tryd.prog 69 #[.agg #[.int .u64 (l0 (hiN h c)), .int .u64 (l1 (hiN h c)), .int .u64 (l2 (hiN h c)), .int .u64 (l3 (hiN h c))], .agg #[.int .u64 (l0 (carN (loN h c) l)), .int .u64 (l1 (carN (loN h c) l)), .int .u64 (l2 (carN (loN h c) l)), .int .u64 (l3 (carN (loN h c) l))]] w fun e w' => e = .returned (.tuple #[.agg #[.int .u64 (l0 (foldH h l c)), .int .u64 (l1 (foldH h l c)), .int .u64 (l2 (foldH h l c)), .int .u64 (l3 (foldH h l c))], .int .u64 (carN (hiN h c) (carN (loN h c) l))]) ∧ Below w.heap.size w w') := fun w => by
    have := add_any (hiN_Num hh hc) nc w; rw [q3] at this; exact this
  have F2 : Hid (∀ w, Calls Tryd.prog 70 #[.int .u64 (carN (loN h c) l)] w fun e w' => e = .returned (.agg #[.int .u64 (l0 (carN (loN h c) l)), .int .u64 (l1 (carN (loN h c) l)), .int .u64 (l2 (carN (loN h c) l)), .int .u64 (l3 (carN (loN h c) l))]) ∧ Below w.heap.size w w') := F1
  clear q1 q2 q3 q4 nc F1
  generalize hiN h c = H at *
  generalize loN h c = L at *
  generalize carN L l = C at *
  generalize carN H C = D at *
  generalize foldH h l c = R at *
  generalize foldL h l c = S at *
  go_enter Tryd.func56, Tryd.ntmps56
  go_wp2_with fail
  refine calls_world (fun W => Below w.heap.size w W ∧ Hold W (w.heap.size + 1) l ∧ Blank W (w.heap.size + 1 + 1 + 1) ∧ Blank W (w.heap.size + 1 + 1 + 1 + 1)) ⟨by repeat (first | with_reducible exact Below.refl _ _ | with_reducible refine Below.alloc ?_ (by first | omega | (simp; done) | (simp; omega)) _), (((Hold.fresh (by simp)).alloc _).alloc _).alloc _, (Blank.new (by simp)).alloc _, Blank.new (by simp)⟩ ?_
  rintro W ⟨B, hX, hR, hT⟩
  have o1 : w.heap.size ≤ w.heap.size + 1 + 1 + 1 := by omega
  have o2 : w.heap.size ≤ w.heap.size + 1 + 1 + 1 + 1 := by omega
  have rt : w.heap.size + 1 + 1 + 1 + 1 ≠ w.heap.size + 1 + 1 + 1 := by omega
  generalize w.heap.size + 1 + 1 + 1 + 1 = bt at *
  generalize w.heap.size + 1 + 1 + 1 = br at *
  generalize w.heap.size + 1 = bx at *
  with_reducible refine (M1.out _).mono ?_
  rintro e w1 ⟨rfl, hb⟩
  replace B := B.trans (hb.mono B.size)
  replace hR := hR.keep hb; replace hT := hT.keep hb; replace hX := hX.keep hb
  clear hb W
  have gX := hX.allocs2
  go_wp2_with fail
  have nr : w1.heap.size ≠ br := by have := hR.1.lt (by simp); omega
  have nt : w1.heap.size ≠ bt := by have := hT.1.lt (by simp); omega
  have os : w.heap.size ≤ w1.heap.size := B.size
  refine calls_world (fun W => Below w.heap.size w W ∧ Blank W br ∧ Blank W bt ∧ Var W w1.heap.size H) ⟨(B.alloc B.size _).alloc (by have := B.size; simp; omega) _, (hR.alloc _).alloc _, (hT.alloc _).alloc _, (Var.new rfl).alloc _⟩ ?_
  clear B hX hR hT gX
  rintro W ⟨B, hR, hT, hO⟩
  generalize w1.heap.size + 1 = bu at *
  generalize w1.heap.size = bo at *
  with_reducible refine (A1.out _).mono ?_
  rintro e w2 ⟨rfl, hb⟩
  replace B := B.trans (hb.mono B.size)
  replace hR := hR.keep hb; replace hT := hT.keep hb; replace hO := hO.keep hb
  clear hb W
  go_wp2_with fail
  have nrs : br ≠ w2.heap.size := by have := hR.1.lt (by simp); omega
  have nts : bt ≠ w2.heap.size := by have := hT.1.lt (by simp); omega
  have ns : bo ≠ w2.heap.size := by have := hO.1.row.lt (by simp); omega
  refine wp_world (fun W => Below w.heap.size w W ∧ Blank W br ∧ Blank W bt ∧ Var W bo H ∧ Hold W w2.heap.size S) ⟨B.alloc B.size _, hR.alloc _, hT.alloc _, hO.alloc _, Hold.new _ _ _⟩ ?_
  clear B hR hT hO
  rintro W ⟨B, hR, hT, hO, hS⟩
  generalize w2.heap.size = bs at *
  have gO := hO.1.cells; have fO := hO.2.all4; have gS := hS.cells; have gR := hR.1.all4; have fR := hR.2.all4; have gT := hT.1.all4; have fT := hT.2.all4
  have lo := World.block_lt_of_cell? W _ hO.1.1; have ls := World.block_lt_of_cell? W _ hS.1; have lr := hR.1.lt (by simp); have lt := hT.1.lt (by simp)
  have BB : Hid (Below w.heap.size w W) := B
  have geB := B.size
  have HO : Hid (Var W bo H) := hO
  have HS : Hid (Hold W bs S) := hS
  have HR : Hid (Blank W br) := hR
  have HT : Hid (Blank W bt) := hT
  clear B hO hS hR hT
  have nr' := nr.symm; have nt' := nt.symm; have ns' := ns.symm; have nrs' := nrs.symm; have nts' := nts.symm; have rt' := rt.symm
  have _ : bo < W.heap.size := by omega
  have _ : bo ≤ W.heap.size := by omega
  have _ : bo < W.heap.size + 1 := by omega
  have _ : bo < W.heap.size + 1 + 1 := by omega
  have _ : bo ≠ W.heap.size := by omega
  have _ : W.heap.size ≠ bo := by omega
  have _ : bo ≠ W.heap.size + 1 := by omega
  have _ : W.heap.size + 1 ≠ bo := by omega
  have _ : br < W.heap.size := by omega
  have _ : br ≤ W.heap.size := by omega
  have _ : br < W.heap.size + 1 := by omega
  have _ : br < W.heap.size + 1 + 1 := by omega
  have _ : br ≠ W.heap.size := by omega
  have _ : W.heap.size ≠ br := by omega
  have _ : br ≠ W.heap.size + 1 := by omega
  have _ : W.heap.size + 1 ≠ br := by omega
  have _ : bt < W.heap.size := by omega
  have _ : bt ≤ W.heap.size := by omega
  have _ : bt < W.heap.size + 1 := by omega
  have _ : bt < W.heap.size + 1 + 1 := by omega
  have _ : bt ≠ W.heap.size := by omega
  have _ : W.heap.size ≠ bt := by omega
  have _ : bt ≠ W.heap.size + 1 := by omega
  have _ : W.heap.size + 1 ≠ bt := by omega
  have _ : bs < W.heap.size := by omega
  have _ : bs ≤ W.heap.size := by omega
  have _ : bs < W.heap.size + 1 := by omega
  have _ : bs < W.heap.size + 1 + 1 := by omega
  have _ : bs ≠ W.heap.size := by omega
  have _ : W.heap.size ≠ bs := by omega
  have _ : bs ≠ W.heap.size + 1 := by omega
  have _ : W.heap.size + 1 ≠ bs := by omega
  have dz : W.drew.heap.size = W.heap.size := rfl
  clear gR fR gT fT gS
  go_region_with (first
      | (go_at_call 70; with_reducible refine (F2.out _).mono ?_; rintro e w1 ⟨rfl, hb1⟩; have hc1 := oldCells hb1; have hz1 := hb1.size; (try simp at hz1); (try (have := fun j => oldCells hb1 (W.heap.size) j (by first | omega | (simp; done) | (simp; omega)))); (try (have := fun j => oldCells hb1 (W.heap.size + 1) j (by first | omega | (simp; done) | (simp; omega)))); have _ : bo < w1.heap.size := (by omega); have _ : bo ≤ w1.heap.size := (by omega); have _ : bo < w1.heap.size + 1 := (by omega); have _ : bo < w1.heap.size + 1 + 1 := (by omega); have _ : bo ≠ w1.heap.size := (by omega); have _ : w1.heap.size ≠ bo := (by omega); have _ : bo ≠ w1.heap.size + 1 := (by omega); have _ : w1.heap.size + 1 ≠ bo := (by omega); have _ : br < w1.heap.size := (by omega); have _ : br ≤ w1.heap.size := (by omega); have _ : br < w1.heap.size + 1 := (by omega); have _ : br < w1.heap.size + 1 + 1 := (by omega); have _ : br ≠ w1.heap.size := (by omega); have _ : w1.heap.size ≠ br := (by omega); have _ : br ≠ w1.heap.size + 1 := (by omega); have _ : w1.heap.size + 1 ≠ br := (by omega); have _ : bt < w1.heap.size := (by omega); have _ : bt ≤ w1.heap.size := (by omega); have _ : bt < w1.heap.size + 1 := (by omega); have _ : bt < w1.heap.size + 1 + 1 := (by omega); have _ : bt ≠ w1.heap.size := (by omega); have _ : w1.heap.size ≠ bt := (by omega); have _ : bt ≠ w1.heap.size + 1 := (by omega); have _ : w1.heap.size + 1 ≠ bt := (by omega); have _ : bs < w1.heap.size := (by omega); have _ : bs ≤ w1.heap.size := (by omega); have _ : bs < w1.heap.size + 1 := (by omega); have _ : bs < w1.heap.size + 1 + 1 := (by omega); have _ : bs ≠ w1.heap.size := (by omega); have _ : w1.heap.size ≠ bs := (by omega); have _ : bs ≠ w1.heap.size + 1 := (by omega); have _ : w1.heap.size + 1 ≠ bs := (by omega); (try (have _ : W.heap.size < w1.heap.size := (by omega))); (try (have _ : W.heap.size ≤ w1.heap.size := (by omega))); (try (have _ : W.heap.size ≠ w1.heap.size := (by omega))); (try (have _ : w1.heap.size ≠ W.heap.size := (by omega))); (try (have _ : W.heap.size < w1.heap.size + 1 := (by omega))); (try (have _ : W.heap.size + 1 < w1.heap.size := (by omega))); (try (have _ : W.heap.size + 1 ≤ w1.heap.size := (by omega))); (try (have _ : W.heap.size + 1 ≠ w1.heap.size := (by omega))); (try (have _ : w1.heap.size ≠ W.heap.size + 1 := (by omega))); (try (have _ : W.heap.size + 1 < w1.heap.size + 1 := (by omega))))
      | (go_at_call 69; with_reducible refine (A2.out _).mono ?_; rintro e w2 ⟨rfl, hb2⟩; have hc2 := oldCells hb2; have hz2 := hb2.size; (try simp at hz2); (try (have := fun j => oldCells hb2 (W.heap.size) j (by first | omega | (simp; done) | (simp; omega)))); (try (have := fun j => oldCells hb2 (W.heap.size + 1) j (by first | omega | (simp; done) | (simp; omega)))); (try (have := fun j => oldCells hb2 (w1.heap.size) j (by first | omega | (simp; done) | (simp; omega)))); (try (have := fun j => oldCells hb2 (w1.heap.size + 1) j (by first | omega | (simp; done) | (simp; omega)))); have _ : bo < w2.heap.size := (by omega); have _ : bo ≤ w2.heap.size := (by omega); have _ : bo < w2.heap.size + 1 := (by omega); have _ : bo < w2.heap.size + 1 + 1 := (by omega); have _ : bo ≠ w2.heap.size := (by omega); have _ : w2.heap.size ≠ bo := (by omega); have _ : bo ≠ w2.heap.size + 1 := (by omega); have _ : w2.heap.size + 1 ≠ bo := (by omega); have _ : br < w2.heap.size := (by omega); have _ : br ≤ w2.heap.size := (by omega); have _ : br < w2.heap.size + 1 := (by omega); have _ : br < w2.heap.size + 1 + 1 := (by omega); have _ : br ≠ w2.heap.size := (by omega); have _ : w2.heap.size ≠ br := (by omega); have _ : br ≠ w2.heap.size + 1 := (by omega); have _ : w2.heap.size + 1 ≠ br := (by omega); have _ : bt < w2.heap.size := (by omega); have _ : bt ≤ w2.heap.size := (by omega); have _ : bt < w2.heap.size + 1 := (by omega); have _ : bt < w2.heap.size + 1 + 1 := (by omega); have _ : bt ≠ w2.heap.size := (by omega); have _ : w2.heap.size ≠ bt := (by omega); have _ : bt ≠ w2.heap.size + 1 := (by omega); have _ : w2.heap.size + 1 ≠ bt := (by omega); have _ : bs < w2.heap.size := (by omega); have _ : bs ≤ w2.heap.size := (by omega); have _ : bs < w2.heap.size + 1 := (by omega); have _ : bs < w2.heap.size + 1 + 1 := (by omega); have _ : bs ≠ w2.heap.size := (by omega); have _ : w2.heap.size ≠ bs := (by omega); have _ : bs ≠ w2.heap.size + 1 := (by omega); have _ : w2.heap.size + 1 ≠ bs := (by omega); (try (have _ : W.heap.size < w2.heap.size := (by omega))); (try (have _ : W.heap.size ≤ w2.heap.size := (by omega))); (try (have _ : W.heap.size ≠ w2.heap.size := (by omega))); (try (have _ : w2.heap.size ≠ W.heap.size := (by omega))); (try (have _ : W.heap.size < w2.heap.size + 1 := (by omega))); (try (have _ : W.heap.size + 1 < w2.heap.size := (by omega))); (try (have _ : W.heap.size + 1 ≤ w2.heap.size := (by omega))); (try (have _ : W.heap.size + 1 ≠ w2.heap.size := (by omega))); (try (have _ : w2.heap.size ≠ W.heap.size + 1 := (by omega))); (try (have _ : W.heap.size + 1 < w2.heap.size + 1 := (by omega))); (try (have _ : w1.heap.size < w2.heap.size := (by omega))); (try (have _ : w1.heap.size ≤ w2.heap.size := (by omega))); (try (have _ : w1.heap.size ≠ w2.heap.size := (by omega))); (try (have _ : w2.heap.size ≠ w1.heap.size := (by omega))); (try (have _ : w1.heap.size < w2.heap.size + 1 := (by omega))); (try (have _ : w1.heap.size + 1 < w2.heap.size := (by omega))); (try (have _ : w1.heap.size + 1 ≤ w2.heap.size := (by omega))); (try (have _ : w1.heap.size + 1 ≠ w2.heap.size := (by omega))); (try (have _ : w2.heap.size ≠ w1.heap.size + 1 := (by omega))); (try (have _ : w1.heap.size + 1 < w2.heap.size + 1 := (by omega)))))
  all_goals refine post_world (fun W => RowKit.Below w.heap.size w W ∧ Hold W bo R ∧ Hold W bs S ∧ Blank W br ∧ Blank W bt) ⟨?_, ?_, ?_, ?_, ?_⟩ ?_
  all_goals first | (rintro W ⟨B, hO, hS, hR, hT⟩) | skip
  all_goals try ((repeat (first | with_reducible exact BB.out | with_reducible exact HS.out | with_reducible exact HR.out | with_reducible exact HT.out | with_reducible refine Hold.sets4 ?_ | exact Has.keep (Has.keep (Has.drew HO.out.1.has) hb1) hb2 | with_reducible refine Has.keep ?_ hb2 | with_reducible refine Has.keep ?_ hb1 | with_reducible exact HO.out.1.has | with_reducible refine Has.drew ?_ | with_reducible refine Hold.set ?_ (by with_reducible assumption) _ | with_reducible refine Blank.set ?_ (by with_reducible assumption) _ | with_reducible refine Hold.drew ?_ | with_reducible refine Blank.drew ?_ | with_reducible refine Hold.keep ?_ hb2 | with_reducible refine Hold.keep ?_ hb1 | with_reducible refine Blank.keep ?_ hb2 | with_reducible refine Blank.keep ?_ hb1 | with_reducible refine Below.drew ?_ | with_reducible refine Below.setCell ?_ (by with_reducible assumption) _ | with_reducible refine Below.trans ?_ (Below.mono hb2 (by omega)) | with_reducible refine Below.trans ?_ (Below.mono hb1 (by omega)))); done)
  all_goals clear BB HO HS HR HT gO fO
  all_goals have gO := hO.cells
  all_goals have gS := hS.cells
  all_goals have gR := hR.1.all4
  all_goals have fR := hR.2.all4
  all_goals have gT := hT.1.all4
  all_goals have fT := hT.2.all4
  all_goals have BB : Hid (Below w.heap.size w W) := B
  all_goals clear B hO hS hR hT
  all_goals go_wp2
  all_goals (repeat (go_region; go_wp2))
  all_goals simp [bodyPost, results, Tryd.results56, go_sem, *]
  all_goals repeat (first | with_reducible exact BB.out | with_reducible refine Below.drew ?_ | with_reducible refine Below.setCell ?_ (by with_reducible assumption) _)
end Go.Proofs.YtncpjgpioajbeaaDoor

namespace Go.Proofs.YtncpjgpioajbeaaDoor
open Go.RowKit

set_option maxHeartbeats 1000000 in
theorem digits_limbs {x0 x1 x2 x3 : Int} (h0 : Word x0) (h1 : Word x1) (h2 : Word x2) (h3 : Word x3) (w : World) :
    Calls Tryd.prog 71 #[.agg #[.int .u64 x0, .int .u64 x1, .int .u64 x2, .int .u64 x3]] w fun e w' =>
      e = .returned (.agg #[.int .u64 (x0 % 4294967296), .int .u64 (x0 / 4294967296), .int .u64 (x1 % 4294967296), .int .u64 (x1 / 4294967296), .int .u64 (x2 % 4294967296), .int .u64 (x2 / 4294967296), .int .u64 (x3 % 4294967296), .int .u64 (x3 / 4294967296)]) ∧ Below w.heap.size w w' := by
  obtain ⟨_, _⟩ := h0; obtain ⟨_, _⟩ := h1; obtain ⟨_, _⟩ := h2; obtain ⟨_, _⟩ := h3
  go_enter Tryd.func71, Tryd.ntmps71
  go_wp2
  refine wp_loop_rounds 5 ?_
  rw [rounds_succ]; go_wp2
  rw [rounds_succ]; go_wp2
  rw [rounds_succ]; go_wp2
  rw [rounds_succ]; go_wp2
  rw [rounds_succ]; go_wp2
  simp [bodyPost, results, Tryd.results71, go_sem]
  repeat (first | with_reducible exact Below.refl _ _ | with_reducible refine Below.drew ?_ | with_reducible refine Below.alloc ?_ (by first | omega | (simp; done) | (simp; omega)) _)

set_option maxHeartbeats 1000000 in
theorem number_digits {d0 d1 d2 d3 d4 d5 d6 d7 : Int} (h0 : Dig d0) (h1 : Dig d1) (h2 : Dig d2) (h3 : Dig d3) (h4 : Dig d4) (h5 : Dig d5) (h6 : Dig d6) (h7 : Dig d7) (w : World) :
    Calls Tryd.prog 72 #[.agg #[.int .u64 d0, .int .u64 d1, .int .u64 d2, .int .u64 d3, .int .u64 d4, .int .u64 d5, .int .u64 d6, .int .u64 d7]] w fun e w' =>
      e = .returned (.agg #[.int .u64 (d0 + 4294967296 * d1), .int .u64 (d2 + 4294967296 * d3), .int .u64 (d4 + 4294967296 * d5), .int .u64 (d6 + 4294967296 * d7)]) ∧ Below w.heap.size w w' := by
  obtain ⟨_, _⟩ := h0; obtain ⟨_, _⟩ := h1; obtain ⟨_, _⟩ := h2; obtain ⟨_, _⟩ := h3; obtain ⟨_, _⟩ := h4; obtain ⟨_, _⟩ := h5; obtain ⟨_, _⟩ := h6; obtain ⟨_, _⟩ := h7
  go_enter Tryd.func72, Tryd.ntmps72
  go_wp2
  refine wp_loop_rounds 5 ?_
  rw [rounds_succ]; go_wp2; go_region; go_wp2
  rw [rounds_succ]; go_wp2; go_region; go_wp2
  rw [rounds_succ]; go_wp2; go_region; go_wp2
  rw [rounds_succ]; go_wp2; go_region; go_wp2
  rw [rounds_succ]; go_wp2
  simp [bodyPost, results, Tryd.results72, go_sem]
  repeat (first | with_reducible exact Below.refl _ _ | with_reducible refine Below.drew ?_ | with_reducible refine Below.alloc ?_ (by first | omega | (simp; done) | (simp; omega)) _)

theorem number_any {l : List Int} {n : Int} (hl : l.length = 8) (hd : Digs l) (e : vd l = n) (w : World) :
    Calls Tryd.prog 72 #[.agg (l.map (Value.int .u64)).toArray] w fun e w' => e = .returned (.agg #[.int .u64 (l0 n), .int .u64 (l1 n), .int .u64 (l2 n), .int .u64 (l3 n)]) ∧ Below w.heap.size w w' := by
  obtain ⟨a, b, c, d, e', f, g, i, rfl⟩ := len8 hl
  obtain ⟨_, q0, q1, q2, q3⟩ := vd_limbs hd e
  have := number_digits (hd a (by simp)) (hd b (by simp)) (hd c (by simp)) (hd d (by simp)) (hd e' (by simp)) (hd f (by simp)) (hd g (by simp)) (hd i (by simp)) w
  rw [q0, q1, q2, q3] at this
  exact this

/-- The digits of a number, under names. -/
theorem digits_names {n : Int} (hn : Num n) : ∃ a0 a1 a2 a3 a4 a5 a6 a7, Digs [a0, a1, a2, a3, a4, a5, a6, a7] ∧ vd [a0, a1, a2, a3, a4, a5, a6, a7] = n ∧
    ∀ w, Calls Tryd.prog 71 #[.agg #[.int .u64 (l0 n), .int .u64 (l1 n), .int .u64 (l2 n), .int .u64 (l3 n)]] w fun e w' => e = .returned (.agg #[.int .u64 a0, .int .u64 a1, .int .u64 a2, .int .u64 a3, .int .u64 a4, .int .u64 a5, .int .u64 a6, .int .u64 a7]) ∧ Below w.heap.size w w' :=
  ⟨_, _, _, _, _, _, _, _, dl_digs n, dl_vd hn, fun w => digits_limbs (l0_word n) (l1_word n) (l2_word n) (l3_word n) w⟩
/-- Block b holds these digits and may be written. -/
def Dgs (W : World) (b : Nat) (l : List Int) : Prop := Row W b l ∧ Loose W b l.length
theorem Dgs.keep {W w1 : World} {b : Nat} {l : List Int} (h : Dgs W b l) (hl : 0 < l.length) (hb : Below W.heap.size W w1) : Dgs w1 b l := ⟨h.1.keep hb, h.2.keep hb (h.1.lt hl)⟩
theorem Dgs.alloc {W : World} {b : Nat} {l : List Int} (h : Dgs W b l) (hl : 0 < l.length) (o : Obj) : Dgs (W.alloc o) b l := h.keep hl ((Below.refl _ _).alloc (Nat.le_refl _) o)
theorem Dgs.new (W : World) (l : List Int) (t : TypeId) : Dgs (W.alloc (.cells (l.map (Value.int .u64)).toArray t)) W.heap.size l := ⟨Row.new W l t, Loose.new _ _ _ _⟩
theorem Dgs.set {W : World} {b : Nat} {l : List Int} (h : Dgs W b l) (i : Nat) (hi : i < l.length) (v : Int) : Dgs (W.setCell ⟨b, i, none⟩ (.int .u64 v)) b (l.set i v) := ⟨h.1.set i hi v, by rw [List.length_set]; exact h.2.set _ _⟩
theorem Dgs.drew {W : World} {b : Nat} {l : List Int} (h : Dgs W b l) : Dgs W.drew b l := h
theorem Dgs.other {W : World} {b b' i : Nat} {l : List Int} (h : Dgs W b l) (ne : b' ≠ b) (v : Value) : Dgs (W.setCell ⟨b', i, none⟩ v) b l := ⟨h.1.setOther ne v, h.2.set _ _⟩

end Go.Proofs.YtncpjgpioajbeaaDoor

namespace Go.Proofs.YtncpjgpioajbeaaDoor
open Go.RowKit

def cmpL (x0 x1 x2 x3 y0 y1 y2 y3 : Int) : Int := if x3 < y3 then -1 else if y3 < x3 then 1 else if x2 < y2 then -1 else if y2 < x2 then 1 else if x1 < y1 then -1 else if y1 < x1 then 1 else if x0 < y0 then -1 else if y0 < x0 then 1 else 0

theorem cmpL_eq {n m : Int} (hn : Num n) (hm : Num m) : cmpL (l0 n) (l1 n) (l2 n) (l3 n) (l0 m) (l1 m) (l2 m) (l3 m) = cmpN n m := by
  have e1 := num_l hn; have e2 := num_l hm
  unfold num at e1 e2
  obtain ⟨_, _⟩ := l0_word n; obtain ⟨_, _⟩ := l1_word n; obtain ⟨_, _⟩ := l2_word n; obtain ⟨_, _⟩ := l3_word n
  obtain ⟨_, _⟩ := l0_word m; obtain ⟨_, _⟩ := l1_word m; obtain ⟨_, _⟩ := l2_word m; obtain ⟨_, _⟩ := l3_word m
  generalize l0 n = x0 at *; generalize l1 n = x1 at *; generalize l2 n = x2 at *; generalize l3 n = x3 at *
  generalize l0 m = y0 at *; generalize l1 m = y1 at *; generalize l2 m = y2 at *; generalize l3 m = y3 at *
  unfold cmpL cmpN
  by_cases h : n = m
  · rw [if_pos h]
    have : x3 = y3 := by omega
    have : x2 = y2 := by omega
    have : x1 = y1 := by omega
    have : x0 = y0 := by omega
    repeat rw [if_neg (by omega)]
  · rw [if_neg h]
    by_cases h2 : n < m
    · rw [if_pos h2]
      by_cases a3 : x3 < y3
      · rw [if_pos a3]
      rw [if_neg a3, if_neg (show ¬ y3 < x3 by omega)]
      by_cases a2 : x2 < y2
      · rw [if_pos a2]
      rw [if_neg a2, if_neg (show ¬ y2 < x2 by omega)]
      by_cases a1 : x1 < y1
      · rw [if_pos a1]
      rw [if_neg a1, if_neg (show ¬ y1 < x1 by omega), if_pos (show x0 < y0 by omega)]
    · rw [if_neg h2]
      by_cases a3 : y3 < x3
      · rw [if_neg (show ¬ x3 < y3 by omega), if_pos a3]
      rw [if_neg (show ¬ x3 < y3 by omega), if_neg a3]
      by_cases a2 : y2 < x2
      · rw [if_neg (show ¬ x2 < y2 by omega), if_pos a2]
      rw [if_neg (show ¬ x2 < y2 by omega), if_neg a2]
      by_cases a1 : y1 < x1
      · rw [if_neg (show ¬ x1 < y1 by omega), if_pos a1]
      rw [if_neg (show ¬ x1 < y1 by omega), if_neg a1, if_neg (show ¬ x0 < y0 by omega), if_pos (show y0 < x0 by omega)]

set_option maxHeartbeats 2000000 in
theorem rcmp_limbs (x0 x1 x2 x3 y0 y1 y2 y3 : Int) (w : World) :
    Calls Tryd.prog 22 #[.agg #[.int .u64 x0, .int .u64 x1, .int .u64 x2, .int .u64 x3], .agg #[.int .u64 y0, .int .u64 y1, .int .u64 y2, .int .u64 y3]] w fun e w' => e = .returned (.int .i64 (cmpL x0 x1 x2 x3 y0 y1 y2 y3)) ∧ Below w.heap.size w w' := by
  go_enter Tryd.func22, Tryd.ntmps22
  go_wp2
  refine wp_loop_rounds 5 ?_
  rw [rounds_succ]
  by_cases a3 : x3 < y3
  · have ec : cmpL x0 x1 x2 x3 y0 y1 y2 y3 = -1 := by unfold cmpL; rw [if_pos a3]
    go_wp2
    repeat (go_region; go_wp2)
    simp [bodyPost, results, Tryd.results22, go_sem, ec]
    repeat (first | with_reducible exact Below.refl _ _ | with_reducible refine Below.drew ?_ | with_reducible refine Below.alloc ?_ (by first | omega | (simp; done) | (simp; omega)) _)
  by_cases b3 : y3 < x3
  · have ec : cmpL x0 x1 x2 x3 y0 y1 y2 y3 = 1 := by unfold cmpL; rw [if_neg (show ¬ x3 < y3 by omega), if_pos b3]
    go_wp2
    repeat (go_region; go_wp2)
    simp [bodyPost, results, Tryd.results22, go_sem, ec]
    repeat (first | with_reducible exact Below.refl _ _ | with_reducible refine Below.drew ?_ | with_reducible refine Below.alloc ?_ (by first | omega | (simp; done) | (simp; omega)) _)
  go_wp2
  repeat (go_region; go_wp2)
  rw [rounds_succ]
  by_cases a2 : x2 < y2
  · have ec : cmpL x0 x1 x2 x3 y0 y1 y2 y3 = -1 := by unfold cmpL; rw [if_neg (show ¬ x3 < y3 by omega), if_neg (show ¬ y3 < x3 by omega), if_pos a2]
    go_wp2
    repeat (go_region; go_wp2)
    simp [bodyPost, results, Tryd.results22, go_sem, ec]
    repeat (first | with_reducible exact Below.refl _ _ | with_reducible refine Below.drew ?_ | with_reducible refine Below.alloc ?_ (by first | omega | (simp; done) | (simp; omega)) _)
  by_cases b2 : y2 < x2
  · have ec : cmpL x0 x1 x2 x3 y0 y1 y2 y3 = 1 := by unfold cmpL; rw [if_neg (show ¬ x3 < y3 by omega), if_neg (show ¬ y3 < x3 by omega), if_neg (show ¬ x2 < y2 by omega), if_pos b2]
    go_wp2
    repeat (go_region; go_wp2)
    simp [bodyPost, results, Tryd.results22, go_sem, ec]
    repeat (first | with_reducible exact Below.refl _ _ | with_reducible refine Below.drew ?_ | with_reducible refine Below.alloc ?_ (by first | omega | (simp; done) | (simp; omega)) _)
  go_wp2
  repeat (go_region; go_wp2)
  rw [rounds_succ]
  by_cases a1 : x1 < y1
  · have ec : cmpL x0 x1 x2 x3 y0 y1 y2 y3 = -1 := by unfold cmpL; rw [if_neg (show ¬ x3 < y3 by omega), if_neg (show ¬ y3 < x3 by omega), if_neg (show ¬ x2 < y2 by omega), if_neg (show ¬ y2 < x2 by omega), if_pos a1]
    go_wp2
    repeat (go_region; go_wp2)
    simp [bodyPost, results, Tryd.results22, go_sem, ec]
    repeat (first | with_reducible exact Below.refl _ _ | with_reducible refine Below.drew ?_ | with_reducible refine Below.alloc ?_ (by first | omega | (simp; done) | (simp; omega)) _)
  by_cases b1 : y1 < x1
  · have ec : cmpL x0 x1 x2 x3 y0 y1 y2 y3 = 1 := by unfold cmpL; rw [if_neg (show ¬ x3 < y3 by omega), if_neg (show ¬ y3 < x3 by omega), if_neg (show ¬ x2 < y2 by omega), if_neg (show ¬ y2 < x2 by omega), if_neg (show ¬ x1 < y1 by omega), if_pos b1]
    go_wp2
    repeat (go_region; go_wp2)
    simp [bodyPost, results, Tryd.results22, go_sem, ec]
    repeat (first | with_reducible exact Below.refl _ _ | with_reducible refine Below.drew ?_ | with_reducible refine Below.alloc ?_ (by first | omega | (simp; done) | (simp; omega)) _)
  go_wp2
  repeat (go_region; go_wp2)
  rw [rounds_succ]
  by_cases a0 : x0 < y0
  · have ec : cmpL x0 x1 x2 x3 y0 y1 y2 y3 = -1 := by unfold cmpL; rw [if_neg (show ¬ x3 < y3 by omega), if_neg (show ¬ y3 < x3 by omega), if_neg (show ¬ x2 < y2 by omega), if_neg (show ¬ y2 < x2 by omega), if_neg (show ¬ x1 < y1 by omega), if_neg (show ¬ y1 < x1 by omega), if_pos a0]
    go_wp2
    repeat (go_region; go_wp2)
    simp [bodyPost, results, Tryd.results22, go_sem, ec]
    repeat (first | with_reducible exact Below.refl _ _ | with_reducible refine Below.drew ?_ | with_reducible refine Below.alloc ?_ (by first | omega | (simp; done) | (simp; omega)) _)
  by_cases b0 : y0 < x0
  · have ec : cmpL x0 x1 x2 x3 y0 y1 y2 y3 = 1 := by unfold cmpL; rw [if_neg (show ¬ x3 < y3 by omega), if_neg (show ¬ y3 < x3 by omega), if_neg (show ¬ x2 < y2 by omega), if_neg (show ¬ y2 < x2 by omega), if_neg (show ¬ x1 < y1 by omega), if_neg (show ¬ y1 < x1 by omega), if_neg (show ¬ x0 < y0 by omega), if_pos b0]
    go_wp2
    repeat (go_region; go_wp2)
    simp [bodyPost, results, Tryd.results22, go_sem, ec]
    repeat (first | with_reducible exact Below.refl _ _ | with_reducible refine Below.drew ?_ | with_reducible refine Below.alloc ?_ (by first | omega | (simp; done) | (simp; omega)) _)
  go_wp2
  repeat (go_region; go_wp2)
  rw [rounds_succ]
  have ec : cmpL x0 x1 x2 x3 y0 y1 y2 y3 = 0 := by unfold cmpL; rw [if_neg (show ¬ x3 < y3 by omega), if_neg (show ¬ y3 < x3 by omega), if_neg (show ¬ x2 < y2 by omega), if_neg (show ¬ y2 < x2 by omega), if_neg (show ¬ x1 < y1 by omega), if_neg (show ¬ y1 < x1 by omega), if_neg (show ¬ x0 < y0 by omega), if_neg (show ¬ y0 < x0 by omega)]
  go_wp2
  simp [bodyPost, results, Tryd.results22, go_sem, ec]
  repeat (first | with_reducible exact Below.refl _ _ | with_reducible refine Below.drew ?_ | with_reducible refine Below.alloc ?_ (by first | omega | (simp; done) | (simp; omega)) _)

theorem rcmp_any {n m : Int} (hn : Num n) (hm : Num m) (w : World) :
    Calls Tryd.prog 22 #[.agg #[.int .u64 (l0 n), .int .u64 (l1 n), .int .u64 (l2 n), .int .u64 (l3 n)], .agg #[.int .u64 (l0 m), .int .u64 (l1 m), .int .u64 (l2 m), .int .u64 (l3 m)]] w fun e w' => e = .returned (.int .i64 (cmpN n m)) ∧ Below w.heap.size w w' := by
  rw [← cmpL_eq hn hm]; exact rcmp_limbs _ _ _ _ _ _ _ _ w

theorem rfrom_any {v : Int} (h : Word v) (w : World) :
    Calls Tryd.prog 61 #[.int .u64 v] w fun e w' => e = .returned (.agg #[.int .u64 (l0 v), .int .u64 (l1 v), .int .u64 (l2 v), .int .u64 (l3 v)]) ∧ Below w.heap.size w w' := by
  obtain ⟨r0, r1, r2, r3⟩ := from_val h
  rw [r0, r1, r2, r3]
  clear r0 r1 r2 r3
  go_enter Tryd.func61, Tryd.ntmps61
  go_wp2
  simp [bodyPost, results, Tryd.results61, go_sem]
  repeat (first | with_reducible exact Below.refl _ _ | with_reducible refine Below.drew ?_ | with_reducible refine Below.alloc ?_ (by first | omega | (simp; done) | (simp; omega)) _)

end Go.Proofs.YtncpjgpioajbeaaDoor

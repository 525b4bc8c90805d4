import Derived.Test.YtncpjgpioajbeaaGreatDoorFOnce
import Derived.Deep.RegionWith
namespace Go.Proofs.YtncpjgpioajbeaaGreatDoor
open Go.RowKit Go.Sort

theorem post_world {Q : Exit → Act → World → Prop} {e : Exit} {a : Act} {w : World} (S : World → Prop) (h : S w) (k : ∀ W, S W → Q e a W) : Q e a w := k w h

set_option maxHeartbeats 1000000 in
theorem ffold_any {m c h l : Int} (hf : Fit m c) (hh : Num h) (hl : Num l) (w : World) :
    Calls Tryz.prog 131 #[.agg #[.int .u64 (l0 h), .int .u64 (l1 h), .int .u64 (l2 h), .int .u64 (l3 h)], .agg #[.int .u64 (l0 l), .int .u64 (l1 l), .int .u64 (l2 l), .int .u64 (l3 l)], .agg #[.int .u64 (l0 c), .int .u64 (l1 c), .int .u64 (l2 c), .int .u64 (l3 c)]] w fun e w' => e = .returned (.tuple #[.agg #[.int .u64 (l0 (foldH h l c)), .int .u64 (l1 (foldH h l c)), .int .u64 (l2 (foldH h l c)), .int .u64 (l3 (foldH h l c))], .agg #[.int .u64 (l0 (foldL h l c)), .int .u64 (l1 (foldL h l c)), .int .u64 (l2 (foldL h l c)), .int .u64 (l3 (foldL h l c))]]) ∧ Below w.heap.size w w' := by
  have hc := hf.numc
  obtain ⟨q1, q2, q3, q4⟩ := fold_num hf hh hl
  have M1 : Hid (∀ w, Calls Tryz.prog 115 #[.agg #[.int .u64 (l0 h), .int .u64 (l1 h), .int .u64 (l2 h), .int .u64 (l3 h)], .agg #[.int .u64 (l0 c), .int .u64 (l1 c), .int .u64 (l2 c), .int .u64 (l3 c)]] w fun e w' => e = .returned (.tuple #[.agg #[.int .u64 (l0 (hiN h c)), .int .u64 (l1 (hiN h c)), .int .u64 (l2 (hiN h c)), .int .u64 (l3 (hiN h c))], .agg #[.int .u64 (l0 (loN h c)), .int .u64 (l1 (loN h c)), .int .u64 (l2 (loN h c)), .int .u64 (l3 (loN h c))]]) ∧ Below w.heap.size w w') := mul_any hh hc
  have A1 : Hid (∀ w, Calls Tryz.prog 83 #[.agg #[.int .u64 (l0 (loN h c)), .int .u64 (l1 (loN h c)), .int .u64 (l2 (loN h c)), .int .u64 (l3 (loN h c))], .agg #[.int .u64 (l0 l), .int .u64 (l1 l), .int .u64 (l2 l), .int .u64 (l3 l)]] w fun e w' => e = .returned (.tuple #[.agg #[.int .u64 (l0 (foldL h l c)), .int .u64 (l1 (foldL h l c)), .int .u64 (l2 (foldL h l c)), .int .u64 (l3 (foldL h l c))], .int .u64 (carN (loN h c) l)]) ∧ Below w.heap.size w w') := fun w => by
    have := add_any (loN_Num h c) hl w; rw [q2] at this; exact this
  have F1 := from_any q4
  have nc : Num (carN (loN h c) l) := by obtain ⟨a, b⟩ := q4; exact ⟨a, by omega⟩
  have A2 : Hid (∀ w, Calls Tryz.prog 83 #[.agg #[.int .u64 (l0 (hiN h c)), .int .u64 (l1 (hiN h c)), .int .u64 (l2 (hiN h c)), .int .u64 (l3 (hiN h c))], .agg #[.int .u64 (l0 (carN (loN h c) l)), .int .u64 (l1 (carN (loN h c) l)), .int .u64 (l2 (carN (loN h c) l)), .int .u64 (l3 (carN (loN h c) l))]] w fun e w' => e = .returned (.tuple #[.agg #[.int .u64 (l0 (foldH h l c)), .int .u64 (l1 (foldH h l c)), .int .u64 (l2 (foldH h l c)), .int .u64 (l3 (foldH h l c))], .int .u64 (carN (hiN h c) (carN (loN h c) l))]) ∧ Below w.heap.size w w') := fun w => by
    have := add_any (hiN_Num hh hc) nc w; rw [q3] at this; exact this
  have F2 : Hid (∀ w, Calls Tryz.prog 84 #[.int .u64 (carN (loN h c) l)] w fun e w' => e = .returned (.agg #[.int .u64 (l0 (carN (loN h c) l)), .int .u64 (l1 (carN (loN h c) l)), .int .u64 (l2 (carN (loN h c) l)), .int .u64 (l3 (carN (loN h c) l))]) ∧ Below w.heap.size w w') := F1
  clear q1 q2 q3 q4 nc F1
  generalize hiN h c = H at *
  generalize loN h c = L at *
  generalize carN L l = C at *
  generalize carN H C = D at *
  generalize foldH h l c = R at *
  generalize foldL h l c = S at *
  go_enter Tryz.func131, Tryz.ntmps131
  go_wp2_with fail
  refine calls_world (fun W => Below w.heap.size w W ∧ Hold W (w.heap.size + 1) l ∧ Blank W (w.heap.size + 1 + 1 + 1) ∧ Blank W (w.heap.size + 1 + 1 + 1 + 1)) ⟨by repeat (first | with_reducible exact Below.refl _ _ | with_reducible refine Below.alloc ?_ (by first | omega | (simp; done) | (simp; omega)) _), (((Hold.fresh (by simp)).alloc _).alloc _).alloc _, (Blank.new (by simp)).alloc _, Blank.new (by simp)⟩ ?_
  rintro W ⟨B, hX, hR, hT⟩
  have o1 : w.heap.size ≤ w.heap.size + 1 + 1 + 1 := by omega
  have o2 : w.heap.size ≤ w.heap.size + 1 + 1 + 1 + 1 := by omega
  have rt : w.heap.size + 1 + 1 + 1 + 1 ≠ w.heap.size + 1 + 1 + 1 := by omega
  generalize w.heap.size + 1 + 1 + 1 + 1 = bt at *
  generalize w.heap.size + 1 + 1 + 1 = br at *
  generalize w.heap.size + 1 = bx at *
  with_reducible refine (M1.out _).mono ?_
  rintro e w1 ⟨rfl, hb⟩
  replace B := B.trans (hb.mono B.size)
  replace hR := hR.keep hb; replace hT := hT.keep hb; replace hX := hX.keep hb
  clear hb W
  have gX := hX.allocs2
  go_wp2_with fail
  have nr : w1.heap.size ≠ br := by have := hR.1.lt (by simp); omega
  have nt : w1.heap.size ≠ bt := by have := hT.1.lt (by simp); omega
  have os : w.heap.size ≤ w1.heap.size := B.size
  refine calls_world (fun W => Below w.heap.size w W ∧ Blank W br ∧ Blank W bt ∧ Var W w1.heap.size H) ⟨(B.alloc B.size _).alloc (by have := B.size; simp; omega) _, (hR.alloc _).alloc _, (hT.alloc _).alloc _, (Var.new rfl).alloc _⟩ ?_
  clear B hX hR hT gX
  rintro W ⟨B, hR, hT, hO⟩
  generalize w1.heap.size + 1 = bu at *
  generalize w1.heap.size = bo at *
  with_reducible refine (A1.out _).mono ?_
  rintro e w2 ⟨rfl, hb⟩
  replace B := B.trans (hb.mono B.size)
  replace hR := hR.keep hb; replace hT := hT.keep hb; replace hO := hO.keep hb
  clear hb W
  go_wp2_with fail
  have nrs : br ≠ w2.heap.size := by have := hR.1.lt (by simp); omega
  have nts : bt ≠ w2.heap.size := by have := hT.1.lt (by simp); omega
  have ns : bo ≠ w2.heap.size := by have := hO.1.row.lt (by simp); omega
  refine wp_world (fun W => Below w.heap.size w W ∧ Blank W br ∧ Blank W bt ∧ Var W bo H ∧ Hold W w2.heap.size S) ⟨B.alloc B.size _, hR.alloc _, hT.alloc _, hO.alloc _, Hold.new _ _ _⟩ ?_
  clear B hR hT hO
  rintro W ⟨B, hR, hT, hO, hS⟩
  generalize w2.heap.size = bs at *
  have gO := hO.1.cells; have fO := hO.2.all4; have gS := hS.cells; have gR := hR.1.all4; have fR := hR.2.all4; have gT := hT.1.all4; have fT := hT.2.all4
  have lo := World.block_lt_of_cell? W _ hO.1.1; have ls := World.block_lt_of_cell? W _ hS.1; have lr := hR.1.lt (by simp); have lt := hT.1.lt (by simp)
  have BB : Hid (Below w.heap.size w W) := B
  have geB := B.size
  have HO : Hid (Var W bo H) := hO
  have HS : Hid (Hold W bs S) := hS
  have HR : Hid (Blank W br) := hR
  have HT : Hid (Blank W bt) := hT
  clear B hO hS hR hT
  have nr' := nr.symm; have nt' := nt.symm; have ns' := ns.symm; have nrs' := nrs.symm; have nts' := nts.symm; have rt' := rt.symm
  have _ : bo < W.heap.size := by omega
  have _ : bo ≤ W.heap.size := by omega
  have _ : bo < W.heap.size + 1 := by omega
  have _ : bo < W.heap.size + 1 + 1 := by omega
  have _ : bo ≠ W.heap.size := by omega
  have _ : W.heap.size ≠ bo := by omega
  have _ : bo ≠ W.heap.size + 1 := by omega
  have _ : W.heap.size + 1 ≠ bo := by omega
  have _ : br < W.heap.size := by omega
  have _ : br ≤ W.heap.size := by omega
  have _ : br < W.heap.size + 1 := by omega
  have _ : br < W.heap.size + 1 + 1 := by omega
  have _ : br ≠ W.heap.size := by omega
  have _ : W.heap.size ≠ br := by omega
  have _ : br ≠ W.heap.size + 1 := by omega
  have _ : W.heap.size + 1 ≠ br := by omega
  have _ : bt < W.heap.size := by omega
  have _ : bt ≤ W.heap.size := by omega
  have _ : bt < W.heap.size + 1 := by omega
  have _ : bt < W.heap.size + 1 + 1 := by omega
  have _ : bt ≠ W.heap.size := by omega
  have _ : W.heap.size ≠ bt := by omega
  have _ : bt ≠ W.heap.size + 1 := by omega
  have _ : W.heap.size + 1 ≠ bt := by omega
  have _ : bs < W.heap.size := by omega
  have _ : bs ≤ W.heap.size := by omega
  have _ : bs < W.heap.size + 1 := by omega
  have _ : bs < W.heap.size + 1 + 1 := by omega
  have _ : bs ≠ W.heap.size := by omega
  have _ : W.heap.size ≠ bs := by omega
  have _ : bs ≠ W.heap.size + 1 := by omega
  have _ : W.heap.size + 1 ≠ bs := by omega
  have dz : W.drew.heap.size = W.heap.size := rfl
  clear gR fR gT fT gS
  go_region_with (first
      | (go_at_call 84; with_reducible refine (F2.out _).mono ?_; rintro e w1 ⟨rfl, hb1⟩; have hc1 := oldCells hb1; have hz1 := hb1.size; (try simp at hz1); (try (have := fun j => oldCells hb1 (W.heap.size) j (by first | omega | (simp; done) | (simp; omega)))); (try (have := fun j => oldCells hb1 (W.heap.size + 1) j (by first | omega | (simp; done) | (simp; omega)))); have _ : bo < w1.heap.size := (by omega); have _ : bo ≤ w1.heap.size := (by omega); have _ : bo < w1.heap.size + 1 := (by omega); have _ : bo < w1.heap.size + 1 + 1 := (by omega); have _ : bo ≠ w1.heap.size := (by omega); have _ : w1.heap.size ≠ bo := (by omega); have _ : bo ≠ w1.heap.size + 1 := (by omega); have _ : w1.heap.size + 1 ≠ bo := (by omega); have _ : br < w1.heap.size := (by omega); have _ : br ≤ w1.heap.size := (by omega); have _ : br < w1.heap.size + 1 := (by omega); have _ : br < w1.heap.size + 1 + 1 := (by omega); have _ : br ≠ w1.heap.size := (by omega); have _ : w1.heap.size ≠ br := (by omega); have _ : br ≠ w1.heap.size + 1 := (by omega); have _ : w1.heap.size + 1 ≠ br := (by omega); have _ : bt < w1.heap.size := (by omega); have _ : bt ≤ w1.heap.size := (by omega); have _ : bt < w1.heap.size + 1 := (by omega); have _ : bt < w1.heap.size + 1 + 1 := (by omega); have _ : bt ≠ w1.heap.size := (by omega); have _ : w1.heap.size ≠ bt := (by omega); have _ : bt ≠ w1.heap.size + 1 := (by omega); have _ : w1.heap.size + 1 ≠ bt := (by omega); have _ : bs < w1.heap.size := (by omega); have _ : bs ≤ w1.heap.size := (by omega); have _ : bs < w1.heap.size + 1 := (by omega); have _ : bs < w1.heap.size + 1 + 1 := (by omega); have _ : bs ≠ w1.heap.size := (by omega); have _ : w1.heap.size ≠ bs := (by omega); have _ : bs ≠ w1.heap.size + 1 := (by omega); have _ : w1.heap.size + 1 ≠ bs := (by omega); (try (have _ : W.heap.size < w1.heap.size := (by omega))); (try (have _ : W.heap.size ≤ w1.heap.size := (by omega))); (try (have _ : W.heap.size ≠ w1.heap.size := (by omega))); (try (have _ : w1.heap.size ≠ W.heap.size := (by omega))); (try (have _ : W.heap.size < w1.heap.size + 1 := (by omega))); (try (have _ : W.heap.size + 1 < w1.heap.size := (by omega))); (try (have _ : W.heap.size + 1 ≤ w1.heap.size := (by omega))); (try (have _ : W.heap.size + 1 ≠ w1.heap.size := (by omega))); (try (have _ : w1.heap.size ≠ W.heap.size + 1 := (by omega))); (try (have _ : W.heap.size + 1 < w1.heap.size + 1 := (by omega))))
      | (go_at_call 83; with_reducible refine (A2.out _).mono ?_; rintro e w2 ⟨rfl, hb2⟩; have hc2 := oldCells hb2; have hz2 := hb2.size; (try simp at hz2); (try (have := fun j => oldCells hb2 (W.heap.size) j (by first | omega | (simp; done) | (simp; omega)))); (try (have := fun j => oldCells hb2 (W.heap.size + 1) j (by first | omega | (simp; done) | (simp; omega)))); (try (have := fun j => oldCells hb2 (w1.heap.size) j (by first | omega | (simp; done) | (simp; omega)))); (try (have := fun j => oldCells hb2 (w1.heap.size + 1) j (by first | omega | (simp; done) | (simp; omega)))); have _ : bo < w2.heap.size := (by omega); have _ : bo ≤ w2.heap.size := (by omega); have _ : bo < w2.heap.size + 1 := (by omega); have _ : bo < w2.heap.size + 1 + 1 := (by omega); have _ : bo ≠ w2.heap.size := (by omega); have _ : w2.heap.size ≠ bo := (by omega); have _ : bo ≠ w2.heap.size + 1 := (by omega); have _ : w2.heap.size + 1 ≠ bo := (by omega); have _ : br < w2.heap.size := (by omega); have _ : br ≤ w2.heap.size := (by omega); have _ : br < w2.heap.size + 1 := (by omega); have _ : br < w2.heap.size + 1 + 1 := (by omega); have _ : br ≠ w2.heap.size := (by omega); have _ : w2.heap.size ≠ br := (by omega); have _ : br ≠ w2.heap.size + 1 := (by omega); have _ : w2.heap.size + 1 ≠ br := (by omega); have _ : bt < w2.heap.size := (by omega); have _ : bt ≤ w2.heap.size := (by omega); have _ : bt < w2.heap.size + 1 := (by omega); have _ : bt < w2.heap.size + 1 + 1 := (by omega); have _ : bt ≠ w2.heap.size := (by omega); have _ : w2.heap.size ≠ bt := (by omega); have _ : bt ≠ w2.heap.size + 1 := (by omega); have _ : w2.heap.size + 1 ≠ bt := (by omega); have _ : bs < w2.heap.size := (by omega); have _ : bs ≤ w2.heap.size := (by omega); have _ : bs < w2.heap.size + 1 := (by omega); have _ : bs < w2.heap.size + 1 + 1 := (by omega); have _ : bs ≠ w2.heap.size := (by omega); have _ : w2.heap.size ≠ bs := (by omega); have _ : bs ≠ w2.heap.size + 1 := (by omega); have _ : w2.heap.size + 1 ≠ bs := (by omega); (try (have _ : W.heap.size < w2.heap.size := (by omega))); (try (have _ : W.heap.size ≤ w2.heap.size := (by omega))); (try (have _ : W.heap.size ≠ w2.heap.size := (by omega))); (try (have _ : w2.heap.size ≠ W.heap.size := (by omega))); (try (have _ : W.heap.size < w2.heap.size + 1 := (by omega))); (try (have _ : W.heap.size + 1 < w2.heap.size := (by omega))); (try (have _ : W.heap.size + 1 ≤ w2.heap.size := (by omega))); (try (have _ : W.heap.size + 1 ≠ w2.heap.size := (by omega))); (try (have _ : w2.heap.size ≠ W.heap.size + 1 := (by omega))); (try (have _ : W.heap.size + 1 < w2.heap.size + 1 := (by omega))); (try (have _ : w1.heap.size < w2.heap.size := (by omega))); (try (have _ : w1.heap.size ≤ w2.heap.size := (by omega))); (try (have _ : w1.heap.size ≠ w2.heap.size := (by omega))); (try (have _ : w2.heap.size ≠ w1.heap.size := (by omega))); (try (have _ : w1.heap.size < w2.heap.size + 1 := (by omega))); (try (have _ : w1.heap.size + 1 < w2.heap.size := (by omega))); (try (have _ : w1.heap.size + 1 ≤ w2.heap.size := (by omega))); (try (have _ : w1.heap.size + 1 ≠ w2.heap.size := (by omega))); (try (have _ : w2.heap.size ≠ w1.heap.size + 1 := (by omega))); (try (have _ : w1.heap.size + 1 < w2.heap.size + 1 := (by omega)))))
  all_goals refine post_world (fun W => RowKit.Below w.heap.size w W ∧ Hold W bo R ∧ Hold W bs S ∧ Blank W br ∧ Blank W bt) ⟨?_, ?_, ?_, ?_, ?_⟩ ?_
  all_goals first | (rintro W ⟨B, hO, hS, hR, hT⟩) | skip
  all_goals try ((repeat (first | with_reducible exact BB.out | with_reducible exact HS.out | with_reducible exact HR.out | with_reducible exact HT.out | with_reducible refine Hold.sets4 ?_ | exact Has.keep (Has.keep (Has.drew HO.out.1.has) hb1) hb2 | with_reducible refine Has.keep ?_ hb2 | with_reducible refine Has.keep ?_ hb1 | with_reducible exact HO.out.1.has | with_reducible refine Has.drew ?_ | with_reducible refine Hold.set ?_ (by with_reducible assumption) _ | with_reducible refine Blank.set ?_ (by with_reducible assumption) _ | with_reducible refine Hold.drew ?_ | with_reducible refine Blank.drew ?_ | with_reducible refine Hold.keep ?_ hb2 | with_reducible refine Hold.keep ?_ hb1 | with_reducible refine Blank.keep ?_ hb2 | with_reducible refine Blank.keep ?_ hb1 | with_reducible refine Below.drew ?_ | with_reducible refine Below.setCell ?_ (by with_reducible assumption) _ | with_reducible refine Below.trans ?_ (Below.mono hb2 (by omega)) | with_reducible refine Below.trans ?_ (Below.mono hb1 (by omega)))); done)
  all_goals clear BB HO HS HR HT gO fO
  all_goals have gO := hO.cells
  all_goals have gS := hS.cells
  all_goals have gR := hR.1.all4
  all_goals have fR := hR.2.all4
  all_goals have gT := hT.1.all4
  all_goals have fT := hT.2.all4
  all_goals have BB : Hid (Below w.heap.size w W) := B
  all_goals clear B hO hS hR hT
  all_goals go_wp2
  all_goals (repeat (go_region; go_wp2))
  all_goals simp [bodyPost, results, Tryz.results131, go_sem, *]
  all_goals repeat (first | with_reducible exact BB.out | with_reducible refine Below.drew ?_ | with_reducible refine Below.setCell ?_ (by with_reducible assumption) _)
end Go.Proofs.YtncpjgpioajbeaaGreatDoor

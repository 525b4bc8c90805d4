import Derived.Test.YtncpjgpioajbeaaGreatDoorFBin
namespace Go.Proofs.YtncpjgpioajbeaaGreatDoor
open Go.RowKit Go.Sort

/-- The inverse by Fermat. -/
def invN (m x : Int) : Int := powN m x (m - 2)
theorem two_off {m c : Int} (hf : Fit m c) : difN m 2 = m - 2 ∧ Num (m - 2) := by
  obtain ⟨h1, h2, h3⟩ := hf
  exact ⟨by unfold difN; omega, by omega, by omega⟩

set_option maxHeartbeats 4000000 in
theorem finverse_any {m c x : Int} (hf : Fit m c) (hx : Num x) (w : World) :
    Calls Tryz.prog 91 #[.agg #[.int .u64 (l0 m), .int .u64 (l1 m), .int .u64 (l2 m), .int .u64 (l3 m), .int .u64 (l0 c), .int .u64 (l1 c), .int .u64 (l2 c), .int .u64 (l3 c)], .agg #[.int .u64 (l0 x), .int .u64 (l1 x), .int .u64 (l2 x), .int .u64 (l3 x)]] w fun e w' => e = .returned (.agg #[.int .u64 (l0 (invN m x)), .int .u64 (l1 (invN m x)), .int .u64 (l2 (invN m x)), .int .u64 (l3 (invN m x))]) ∧ Below w.heap.size w w' := by
  obtain ⟨q1, q2⟩ := two_off hf
  have F1 : Hid (∀ w, Calls Tryz.prog 84 #[.int .u64 2] w fun e w' => e = .returned (.agg #[.int .u64 (l0 2), .int .u64 (l1 2), .int .u64 (l2 2), .int .u64 (l3 2)]) ∧ Below w.heap.size w w') := from_any ⟨by decide, by decide⟩
  have S1 : Hid (∀ w, Calls Tryz.prog 37 #[.agg #[.int .u64 (l0 m), .int .u64 (l1 m), .int .u64 (l2 m), .int .u64 (l3 m)], .agg #[.int .u64 (l0 2), .int .u64 (l1 2), .int .u64 (l2 2), .int .u64 (l3 2)]] w fun e w' => e = .returned (.tuple #[.agg #[.int .u64 (l0 (m - 2)), .int .u64 (l1 (m - 2)), .int .u64 (l2 (m - 2)), .int .u64 (l3 (m - 2))], .int .u64 (borN m 2)]) ∧ Below w.heap.size w w') := fun w => by
    have := sub_any (m := 2) hf.num ⟨by decide, by decide⟩ w; rw [q1] at this; exact this
  have E1 : Hid (∀ w, Calls Tryz.prog 85 #[.agg #[.int .u64 (l0 m), .int .u64 (l1 m), .int .u64 (l2 m), .int .u64 (l3 m), .int .u64 (l0 c), .int .u64 (l1 c), .int .u64 (l2 c), .int .u64 (l3 c)], .agg #[.int .u64 (l0 x), .int .u64 (l1 x), .int .u64 (l2 x), .int .u64 (l3 x)], .agg #[.int .u64 (l0 (m - 2)), .int .u64 (l1 (m - 2)), .int .u64 (l2 (m - 2)), .int .u64 (l3 (m - 2))]] w fun e w' => e = .returned (.agg #[.int .u64 (l0 (invN m x)), .int .u64 (l1 (invN m x)), .int .u64 (l2 (invN m x)), .int .u64 (l3 (invN m x))]) ∧ Below w.heap.size w w') := fexp_any hf hx q2
  clear q1 q2 hf hx
  generalize invN m x = R at *
  generalize m - 2 = D at *
  generalize borN m 2 = z at *
  generalize ht : (2 : Int) = T at F1 S1
  go_enter Tryz.func91, Tryz.ntmps91
  go_wp2_with fail
  refine wp_world (fun W => Below w.heap.size w W ∧ HoldM W w.heap.size m c ∧ Hold W (w.heap.size + 1) x ∧ Blank W (w.heap.size + 1 + 1)) ⟨by repeat (first | with_reducible exact Below.refl _ _ | with_reducible refine Below.alloc ?_ (by first | omega | (simp; done) | (simp; omega)) _), ((HoldM.new w m c _).alloc _).alloc _, (Hold.fresh (by simp)).alloc _, Blank.new (by simp)⟩ ?_
  rintro W ⟨B, hF, hX, hR⟩
  have o3 : w.heap.size ≤ w.heap.size + 1 + 1 := by omega
  generalize w.heap.size + 1 + 1 = br at *
  generalize w.heap.size + 1 = bx at *
  generalize hbf : w.heap.size = bf at *
  subst ht
  have gF := hF.cells
  have lf : bf < W.heap.size := hF.lt
  have lx : bx < W.heap.size := World.block_lt_of_cell? W _ hX.1
  have lr : br < W.heap.size := hR.1.lt (by simp)
  have BB : Hid (Below bf w W) := B
  have HF : Hid (HoldM W bf m c) := hF
  have HX : Hid (Hold W bx x) := hX
  have HR : Hid (Blank W br) := hR
  have geB : bf ≤ W.heap.size := by omega
  clear B hF hX hR
  refine wp_out (fun a' W' => ∃ bs, Below bf w W' ∧ HoldM W' bf m c ∧ Hold W' bx x ∧ Blank W' br ∧ Hold W' bs D ∧ a' = { tmps := #[.agg #[.int .u64 (l0 m), .int .u64 (l1 m), .int .u64 (l2 m), .int .u64 (l3 m), .int .u64 (l0 c), .int .u64 (l1 c), .int .u64 (l2 c), .int .u64 (l3 c)], .agg #[.int .u64 (l0 x), .int .u64 (l1 x), .int .u64 (l2 x), .int .u64 (l3 x)], .pointer (some { block := bf, off := 0 }), .pointer (some { block := bx, off := 0 }), .pointer (some { block := br, off := 0 }), .pointer (some { block := bs, off := 0 }), .int .u64 z, .tuple #[.agg #[.int .u64 (l0 D), .int .u64 (l1 D), .int .u64 (l2 D), .int .u64 (l3 D)], .int .u64 z], .pointer (some { block := bf, off := 0 }), .agg #[.int .u64 (l0 m), .int .u64 (l1 m), .int .u64 (l2 m), .int .u64 (l3 m)], .agg #[.int .u64 (l0 2), .int .u64 (l1 2), .int .u64 (l2 2), .int .u64 (l3 2)], .tuple #[.agg #[.int .u64 (l0 D), .int .u64 (l1 D), .int .u64 (l2 D), .int .u64 (l3 D)], .int .u64 z], .agg #[.int .u64 (l0 D), .int .u64 (l1 D), .int .u64 (l2 D), .int .u64 (l3 D)], .int .u64 z, Go.undef, Go.undef, Go.undef, Go.undef], defers := [] }) ?_ ?_
  · have dz : W.drew.heap.size = W.heap.size := rfl
    clear E1
    have _ : bf < W.heap.size := by omega
    have _ : bf ≤ W.heap.size := by omega
    have _ : bf < W.heap.size + 1 := by omega
    have _ : bf < W.heap.size + 1 + 1 := by omega
    have _ : bf ≠ W.heap.size := by omega
    have _ : W.heap.size ≠ bf := by omega
    have _ : bf ≠ W.heap.size + 1 := by omega
    have _ : W.heap.size + 1 ≠ bf := by omega
    have _ : bx < W.heap.size := by omega
    have _ : bx ≤ W.heap.size := by omega
    have _ : bx < W.heap.size + 1 := by omega
    have _ : bx < W.heap.size + 1 + 1 := by omega
    have _ : bx ≠ W.heap.size := by omega
    have _ : W.heap.size ≠ bx := by omega
    have _ : bx ≠ W.heap.size + 1 := by omega
    have _ : W.heap.size + 1 ≠ bx := by omega
    have _ : br < W.heap.size := by omega
    have _ : br ≤ W.heap.size := by omega
    have _ : br < W.heap.size + 1 := by omega
    have _ : br < W.heap.size + 1 + 1 := by omega
    have _ : br ≠ W.heap.size := by omega
    have _ : W.heap.size ≠ br := by omega
    have _ : br ≠ W.heap.size + 1 := by omega
    have _ : W.heap.size + 1 ≠ br := by omega
    go_region_held3 (fun w' => w'.cell? ⟨bf, 0, none⟩ = some (.int .u64 (l0 m)) ∧ w'.cell? ⟨bf, 1, none⟩ = some (.int .u64 (l1 m)) ∧ w'.cell? ⟨bf, 2, none⟩ = some (.int .u64 (l2 m)) ∧ w'.cell? ⟨bf, 3, none⟩ = some (.int .u64 (l3 m))) (((try dsimp only); (repeat' (apply And.intro)); (all_goals repeat (first | with_reducible assumption | with_reducible apply cell_keep hb2 | with_reducible apply cell_keep hb1 | with_reducible apply cell_alloc | (with_reducible refine cell_set ?_ (by with_reducible assumption)) | (simp [go_sem, *]; done)))))
      (first
        | (go_at_call 84; with_reducible refine (F1.out _).mono ?_; rintro e w1 ⟨rfl, hb1⟩; have hc1 := oldCells hb1; have hz1 := hb1.size; (try simp at hz1); (try (have := fun j => oldCells hb1 (W.heap.size) j (by first | omega | (simp; done) | (simp; omega)))); (try (have := fun j => oldCells hb1 (W.heap.size + 1) j (by first | omega | (simp; done) | (simp; omega)))); have _ : bf < w1.heap.size := (by omega); have _ : bf ≤ w1.heap.size := (by omega); have _ : bf < w1.heap.size + 1 := (by omega); have _ : bf < w1.heap.size + 1 + 1 := (by omega); have _ : bf ≠ w1.heap.size := (by omega); have _ : w1.heap.size ≠ bf := (by omega); have _ : bf ≠ w1.heap.size + 1 := (by omega); have _ : w1.heap.size + 1 ≠ bf := (by omega); have _ : bx < w1.heap.size := (by omega); have _ : bx ≤ w1.heap.size := (by omega); have _ : bx < w1.heap.size + 1 := (by omega); have _ : bx < w1.heap.size + 1 + 1 := (by omega); have _ : bx ≠ w1.heap.size := (by omega); have _ : w1.heap.size ≠ bx := (by omega); have _ : bx ≠ w1.heap.size + 1 := (by omega); have _ : w1.heap.size + 1 ≠ bx := (by omega); have _ : br < w1.heap.size := (by omega); have _ : br ≤ w1.heap.size := (by omega); have _ : br < w1.heap.size + 1 := (by omega); have _ : br < w1.heap.size + 1 + 1 := (by omega); have _ : br ≠ w1.heap.size := (by omega); have _ : w1.heap.size ≠ br := (by omega); have _ : br ≠ w1.heap.size + 1 := (by omega); have _ : w1.heap.size + 1 ≠ br := (by omega); (try (have _ : W.heap.size < w1.heap.size := (by omega))); (try (have _ : W.heap.size ≤ w1.heap.size := (by omega))); (try (have _ : W.heap.size ≠ w1.heap.size := (by omega))); (try (have _ : w1.heap.size ≠ W.heap.size := (by omega))); (try (have _ : W.heap.size < w1.heap.size + 1 := (by omega))); (try (have _ : W.heap.size + 1 < w1.heap.size := (by omega))); (try (have _ : W.heap.size + 1 ≤ w1.heap.size := (by omega))); (try (have _ : W.heap.size + 1 ≠ w1.heap.size := (by omega))); (try (have _ : w1.heap.size ≠ W.heap.size + 1 := (by omega))); (try (have _ : W.heap.size + 1 < w1.heap.size + 1 := (by omega))))
        | (go_at_call 37; with_reducible refine (S1.out _).mono ?_; rintro e w2 ⟨rfl, hb2⟩; have hc2 := oldCells hb2; have hz2 := hb2.size; (try simp at hz2); (try (have := fun j => oldCells hb2 (W.heap.size) j (by first | omega | (simp; done) | (simp; omega)))); (try (have := fun j => oldCells hb2 (W.heap.size + 1) j (by first | omega | (simp; done) | (simp; omega)))); (try (have := fun j => oldCells hb2 (w1.heap.size) j (by first | omega | (simp; done) | (simp; omega)))); (try (have := fun j => oldCells hb2 (w1.heap.size + 1) j (by first | omega | (simp; done) | (simp; omega)))); have _ : bf < w2.heap.size := (by omega); have _ : bf ≤ w2.heap.size := (by omega); have _ : bf < w2.heap.size + 1 := (by omega); have _ : bf < w2.heap.size + 1 + 1 := (by omega); have _ : bf ≠ w2.heap.size := (by omega); have _ : w2.heap.size ≠ bf := (by omega); have _ : bf ≠ w2.heap.size + 1 := (by omega); have _ : w2.heap.size + 1 ≠ bf := (by omega); have _ : bx < w2.heap.size := (by omega); have _ : bx ≤ w2.heap.size := (by omega); have _ : bx < w2.heap.size + 1 := (by omega); have _ : bx < w2.heap.size + 1 + 1 := (by omega); have _ : bx ≠ w2.heap.size := (by omega); have _ : w2.heap.size ≠ bx := (by omega); have _ : bx ≠ w2.heap.size + 1 := (by omega); have _ : w2.heap.size + 1 ≠ bx := (by omega); have _ : br < w2.heap.size := (by omega); have _ : br ≤ w2.heap.size := (by omega); have _ : br < w2.heap.size + 1 := (by omega); have _ : br < w2.heap.size + 1 + 1 := (by omega); have _ : br ≠ w2.heap.size := (by omega); have _ : w2.heap.size ≠ br := (by omega); have _ : br ≠ w2.heap.size + 1 := (by omega); have _ : w2.heap.size + 1 ≠ br := (by omega); (try (have _ : W.heap.size < w2.heap.size := (by omega))); (try (have _ : W.heap.size ≤ w2.heap.size := (by omega))); (try (have _ : W.heap.size ≠ w2.heap.size := (by omega))); (try (have _ : w2.heap.size ≠ W.heap.size := (by omega))); (try (have _ : W.heap.size < w2.heap.size + 1 := (by omega))); (try (have _ : W.heap.size + 1 < w2.heap.size := (by omega))); (try (have _ : W.heap.size + 1 ≤ w2.heap.size := (by omega))); (try (have _ : W.heap.size + 1 ≠ w2.heap.size := (by omega))); (try (have _ : w2.heap.size ≠ W.heap.size + 1 := (by omega))); (try (have _ : W.heap.size + 1 < w2.heap.size + 1 := (by omega))); (try (have _ : w1.heap.size < w2.heap.size := (by omega))); (try (have _ : w1.heap.size ≤ w2.heap.size := (by omega))); (try (have _ : w1.heap.size ≠ w2.heap.size := (by omega))); (try (have _ : w2.heap.size ≠ w1.heap.size := (by omega))); (try (have _ : w1.heap.size < w2.heap.size + 1 := (by omega))); (try (have _ : w1.heap.size + 1 < w2.heap.size := (by omega))); (try (have _ : w1.heap.size + 1 ≤ w2.heap.size := (by omega))); (try (have _ : w1.heap.size + 1 ≠ w2.heap.size := (by omega))); (try (have _ : w2.heap.size ≠ w1.heap.size + 1 := (by omega))); (try (have _ : w1.heap.size + 1 < w2.heap.size + 1 := (by omega)))))
    all_goals (refine OutQ.intro ⟨_, ?_, ?_, ?_, ?_, ?_, rfl⟩)
    all_goals repeat (first | with_reducible exact BB.out | with_reducible exact HF.out | with_reducible exact HX.out | with_reducible exact HR.out | with_reducible refine Hold.fresh (by first | rfl | (simp; done) | fail) | with_reducible refine Hold.sets4 ?_ | with_reducible refine Hold.alloc ?_ _ | with_reducible refine Hold.drew ?_ | with_reducible refine Hold.set4 ?_ (by with_reducible assumption) _ _ _ _ | with_reducible refine HoldM.alloc ?_ _ | with_reducible refine HoldM.drew ?_ | with_reducible refine HoldM.set4 ?_ (by with_reducible assumption) _ _ _ _ | with_reducible refine Blank.alloc ?_ _ | with_reducible refine Blank.drew ?_ | with_reducible refine Blank.set4 ?_ (by with_reducible assumption) _ _ _ _ | with_reducible refine below_alloc hbf ?_ _ | with_reducible refine Below.drew ?_ | with_reducible refine Below.setCell ?_ (by with_reducible assumption) _ | with_reducible refine Has.fresh (by first | rfl | (simp; done) | fail) (by first | (simp; done) | fail) | with_reducible refine Has.alloc ?_ _ | with_reducible refine Has.drew ?_ | with_reducible refine Has.keep ?_ hb2 | with_reducible refine Hold.keep ?_ hb2 | with_reducible refine HoldM.keep ?_ hb2 | with_reducible refine Blank.keep ?_ hb2 | with_reducible refine below_then hbf ?_ hb2 | with_reducible refine Has.keep ?_ hb1 | with_reducible refine Hold.keep ?_ hb1 | with_reducible refine HoldM.keep ?_ hb1 | with_reducible refine Blank.keep ?_ hb1 | with_reducible refine below_then hbf ?_ hb1)
  rintro _ W1 ⟨bs, B, hF, hX, hR, hS, rfl⟩
  subst hbf
  clear BB HF HR HX gF lf lx lr geB F1 S1 W
  have gF := hF.cells; have gX := hX.cells; have gS := hS.cells
  go_wp2_with fail
  with_reducible refine (E1.out _).mono ?_
  rintro e w1 ⟨rfl, hb⟩
  replace B := B.trans (hb.mono B.size)
  replace hR := hR.keep hb
  clear hb gF gX gS hF hX hS
  have gR := hR.1.all4; have fR := hR.2.all4
  go_wp2
  simp [bodyPost, results, Tryz.results91, go_sem, gR]
  exact below_set4 B o3 _ _ _ _

set_option maxHeartbeats 2000000 in
theorem Inverse_good {k m c x : Int} (hk : Kind k m c) (hx : Num x) (hz : modN m x ≠ 0) (w : World) (hm : Mds w) :
    Calls Tryz.prog 51 #[.int .i64 k, .agg #[.int .u64 (l0 x), .int .u64 (l1 x), .int .u64 (l2 x), .int .u64 (l3 x)]] w fun e w' => e = .returned (.tuple #[.agg #[.int .u64 (l0 (invN m x)), .int .u64 (l1 (invN m x)), .int .u64 (l2 (invN m x)), .int .u64 (l3 (invN m x))], .int .i64 0]) ∧ Below w.heap.size w w' := by
  have O1 : Hid (∀ w, Calls Tryz.prog 87 #[.agg #[.int .u64 (l0 m), .int .u64 (l1 m), .int .u64 (l2 m), .int .u64 (l3 m), .int .u64 (l0 c), .int .u64 (l1 c), .int .u64 (l2 c), .int .u64 (l3 c)], .agg #[.int .u64 (l0 x), .int .u64 (l1 x), .int .u64 (l2 x), .int .u64 (l3 x)]] w fun e w' => e = .returned (.agg #[.int .u64 (l0 (modN m x)), .int .u64 (l1 (modN m x)), .int .u64 (l2 (modN m x)), .int .u64 (l3 (modN m x))]) ∧ Below w.heap.size w w') := once_any hk.fit hx
  have I1 : Hid (∀ w, Calls Tryz.prog 91 #[.agg #[.int .u64 (l0 m), .int .u64 (l1 m), .int .u64 (l2 m), .int .u64 (l3 m), .int .u64 (l0 c), .int .u64 (l1 c), .int .u64 (l2 c), .int .u64 (l3 c)], .agg #[.int .u64 (l0 x), .int .u64 (l1 x), .int .u64 (l2 x), .int .u64 (l3 x)]] w fun e w' => e = .returned (.agg #[.int .u64 (l0 (invN m x)), .int .u64 (l1 (invN m x)), .int .u64 (l2 (invN m x)), .int .u64 (l3 (invN m x))]) ∧ Below w.heap.size w w') := finverse_any hk.fit hx
  have hq := feq_zero (modN_Num hk.fit x)
  rw [show decide (modN m x = 0) = false by simp [hz]] at hq
  clear hz hx
  generalize modN m x = r at *
  generalize invN m x = R at *
  have bz := build_zero
  go_enter Tryz.func51, Tryz.ntmps51
  go_wp2_with fail
  refine calls_world (fun W => Below w.heap.size w W ∧ Mds W ∧ Hold W w.heap.size x ∧ Blank W (w.heap.size + 1)) ⟨by repeat (first | with_reducible exact Below.refl _ _ | with_reducible refine Below.alloc ?_ (by first | omega | (simp; done) | (simp; omega)) _), (hm.alloc _).alloc _, (Hold.fresh (by simp)).alloc _, Blank.new (by simp)⟩ ?_
  rintro W ⟨B, hD, hX, hR⟩
  have o3 : w.heap.size ≤ w.heap.size + 1 := by omega
  generalize w.heap.size + 1 = br at *
  with_reducible refine (of_good hk _ hD).mono ?_
  rintro e w1 ⟨rfl, hb⟩
  replace B := B.trans (hb.mono B.size)
  replace hX := hX.keep hb; replace hR := hR.keep hb
  clear hb hD W
  have gX := hX.allocs
  go_wp2_with fail
  refine calls_world (fun W => Below w.heap.size w W ∧ HoldM W w1.heap.size m c ∧ Hold W w.heap.size x ∧ Blank W br) ⟨B.alloc B.size _, HoldM.new _ _ _ _, hX.alloc _, hR.alloc _⟩ ?_
  clear B hX hR gX
  rintro W ⟨B, hF, hX, hR⟩
  generalize w1.heap.size = bf at *
  with_reducible refine (O1.out _).mono ?_
  rintro e w2 ⟨rfl, hb⟩
  replace B := B.trans (hb.mono B.size)
  replace hF := hF.keep hb; replace hX := hX.keep hb; replace hR := hR.keep hb
  clear hb W
  have gF := hF.cells; have gX := hX.cells
  go_wp2_with fail
  with_reducible refine (I1.out _).mono ?_
  rintro e w3 ⟨rfl, hb⟩
  replace B := B.trans (hb.mono B.size)
  replace hR := hR.keep hb
  clear hb gF gX hF hX hq bz
  have gR := hR.1.all4; have fR := hR.2.all4
  go_wp2
  simp [bodyPost, results, Tryz.results51, go_sem, gR]
  exact below_set4 B o3 _ _ _ _

end Go.Proofs.YtncpjgpioajbeaaGreatDoor

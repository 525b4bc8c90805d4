import Derived.Test.YtfpiopjlcjckeaaDoorFKind
import Derived.Deep.RegionHeld3
namespace Go.Proofs.YtfpiopjlcjckeaaDoor
open Go.RowKit Go.Sort

/-- Writing what stands there leaves the world as it is. -/
theorem setCell_same {w : World} {p : Addr} {v : Value} (h : w.cell? p = some v) : w.setCell p v = w := by
  have hh : (w.setCell p v).heap = w.heap := by
    unfold World.setCell
    apply Array.ext
    · simp
    · intro i h1 h2
      rw [Array.getElem_modify]
      by_cases hi : p.block = i
      · rw [if_pos hi]
        unfold World.cell? at h
        rw [hi, Array.getElem?_eq_getElem h2] at h
        cases ho : w.heap[i] with
        | cells c elem frozen =>
          rw [ho] at h
          simp only at h ⊢
          split at h
          · cases h
          · rename_i hs
            simp only [hs]
            congr 1
            obtain ⟨hlt, he⟩ := Array.getElem?_eq_some_iff.1 h
            rw [Array.setIfInBounds_def]
            simp [hlt, ← he]
        | _ => rfl
      · rw [if_neg hi]
  show { w with heap := (w.setCell p v).heap } = w
  rw [hh]

/-- The book of a row of sums: its kind, nothing bad so far. -/
def Smm (W : World) (b : Nat) (k : Int) : Prop := (W.cell? ⟨b, 0, none⟩ = some (.int .i64 k) ∧ W.cell? ⟨b, 1, none⟩ = some (.bool false)) ∧ W.frozen? ⟨b, 1, none⟩ = false
theorem Smm.lt {W : World} {b : Nat} {k : Int} (h : Smm W b k) : b < W.heap.size := World.block_lt_of_cell? W _ h.1.1
theorem Smm.keep {W w1 : World} {b : Nat} {k : Int} (h : Smm W b k) (hb : RowKit.Below W.heap.size W w1) : Smm w1 b k :=
  ⟨⟨cell_keep hb h.1.1, cell_keep hb h.1.2⟩, by rw [hb.frozen (p := ⟨b, 1, none⟩) h.lt]; exact h.2⟩
theorem Smm.alloc {W : World} {b : Nat} {k : Int} (h : Smm W b k) (o : Obj) : Smm (W.alloc o) b k := h.keep ((Below.refl _ _).alloc (Nat.le_refl _) o)
theorem Smm.drew {W : World} {b : Nat} {k : Int} (h : Smm W b k) : Smm W.drew b k := h
theorem Smm.new {W : World} {b : Nat} {k : Int} {t : TypeId} (e : b = W.heap.size) : Smm (W.alloc (.cells #[.int .i64 k, .bool false] t)) b k := by
  subst e
  refine ⟨⟨?_, ?_⟩, ?_⟩ <;> simp [go_sem]

theorem Smm.set {W : World} {b b' i : Nat} {k : Int} (h : Smm W b k) (ne : b' ≠ b) (v : Value) : Smm (W.setCell ⟨b', i, none⟩ v) b k := by
  refine ⟨⟨?_, ?_⟩, ?_⟩
  · rw [World.cell?_setCell_far _ _ _ _ ne]; exact h.1.1
  · rw [World.cell?_setCell_far _ _ _ _ ne]; exact h.1.2
  · rw [World.frozen?_setCell]; exact h.2
theorem Smm.set4 {W : World} {b b' : Nat} {k : Int} (h : Smm W b k) (ne : b' ≠ b) (v0 v1 v2 v3 : Value) : Smm ((((W.setCell ⟨b', 0, none⟩ v0).setCell ⟨b', 1, none⟩ v1).setCell ⟨b', 2, none⟩ v2).setCell ⟨b', 3, none⟩ v3) b k :=
  (((h.set ne v0).set ne v1).set ne v2).set ne v3

set_option maxHeartbeats 4000000 in
theorem sadd_any {k m c x y : Int} (hk : Kind k m c) (hx : Num x) (hy : Num y) {b : Nat} (w : World) (hm : Mds w) (hs : Smm w b k) :
    Calls Tryd.prog 23 #[.pointer (some ⟨b, 0, none⟩), .agg #[.int .u64 (l0 x), .int .u64 (l1 x), .int .u64 (l2 x), .int .u64 (l3 x)], .agg #[.int .u64 (l0 y), .int .u64 (l1 y), .int .u64 (l2 y), .int .u64 (l3 y)]] w fun e w' => e = .returned (.agg #[.int .u64 (l0 (modN m (x + y))), .int .u64 (l1 (modN m (x + y))), .int .u64 (l2 (modN m (x + y))), .int .u64 (l3 (modN m (x + y)))]) ∧ Below w.heap.size w w' := by
  have A1 : Hid (∀ w, Mds w → Calls Tryd.prog 16 #[.int .i64 k, .agg #[.int .u64 (l0 x), .int .u64 (l1 x), .int .u64 (l2 x), .int .u64 (l3 x)], .agg #[.int .u64 (l0 y), .int .u64 (l1 y), .int .u64 (l2 y), .int .u64 (l3 y)]] w fun e w' => e = .returned (.tuple #[.agg #[.int .u64 (l0 (modN m (x + y))), .int .u64 (l1 (modN m (x + y))), .int .u64 (l2 (modN m (x + y))), .int .u64 (l3 (modN m (x + y)))], .int .i64 0]) ∧ Below w.heap.size w w') := fun w h => Add_good hk hx hy w h
  generalize modN m (x + y) = R at *
  clear hk hx hy
  have lb := hs.lt
  go_enter Tryd.func23, Tryd.ntmps23
  go_wp2_with fail
  refine wp_world (fun W => Below w.heap.size w W ∧ Mds W ∧ Smm W b k ∧ Hold W w.heap.size x ∧ Hold W (w.heap.size + 1) y ∧ Blank W (w.heap.size + 1 + 1)) ⟨by repeat (first | with_reducible exact Below.refl _ _ | with_reducible refine Below.alloc ?_ (by first | omega | (simp; done) | (simp; omega)) _), ((hm.alloc _).alloc _).alloc _, ((hs.alloc _).alloc _).alloc _, ((Hold.fresh (by simp)).alloc _).alloc _, (Hold.fresh (by simp)).alloc _, Blank.new (by simp)⟩ ?_
  clear hm hs lb
  rintro W ⟨B, hD, hS, hX, hY, hR⟩
  have o3 : w.heap.size ≤ w.heap.size + 1 + 1 := by omega
  generalize w.heap.size + 1 + 1 = br at *
  generalize w.heap.size + 1 = bw at *
  generalize hbf : w.heap.size = bx at *
  have gS := hS.1; have gX := hX.cells; have gY := hY.cells
  have lx : bx < W.heap.size := World.block_lt_of_cell? W _ hX.1
  have ly : bw < W.heap.size := World.block_lt_of_cell? W _ hY.1
  have lr : br < W.heap.size := hR.1.lt (by simp)
  have lb : b < W.heap.size := hS.lt
  have BB : Hid (Below bx w W) := B
  have HD : Hid (Mds W) := hD
  have HS : Hid (Smm W b k) := hS
  have HR : Hid (Blank W br) := hR
  have geB : bx ≤ W.heap.size := by omega
  clear B hD hS hX hY hR
  refine wp_out (fun a' W' => ∃ bs, Below bx w W' ∧ Smm W' b k ∧ Blank W' br ∧ Hold W' bs R ∧ a' = { tmps := #[.pointer (some { block := b, off := 0 }), .agg #[.int .u64 (l0 x), .int .u64 (l1 x), .int .u64 (l2 x), .int .u64 (l3 x)], .agg #[.int .u64 (l0 y), .int .u64 (l1 y), .int .u64 (l2 y), .int .u64 (l3 y)], Go.undef, .pointer (some { block := bx, off := 0 }), .pointer (some { block := bw, off := 0 }), .pointer (some { block := br, off := 0 }), .pointer (some { block := bs, off := 0 }), .int .i64 0, .tuple #[.agg #[.int .u64 (l0 R), .int .u64 (l1 R), .int .u64 (l2 R), .int .u64 (l3 R)], .int .i64 0], .pointer (some { block := b, off := 0 }), .pointer (some { block := b, off := 0 }), .pointer (some { block := b, off := 0 }), .int .i64 k, .agg #[.int .u64 (l0 x), .int .u64 (l1 x), .int .u64 (l2 x), .int .u64 (l3 x)], .agg #[.int .u64 (l0 y), .int .u64 (l1 y), .int .u64 (l2 y), .int .u64 (l3 y)], .tuple #[.agg #[.int .u64 (l0 R), .int .u64 (l1 R), .int .u64 (l2 R), .int .u64 (l3 R)], .int .i64 0], .agg #[.int .u64 (l0 R), .int .u64 (l1 R), .int .u64 (l2 R), .int .u64 (l3 R)], .int .i64 0, Go.undef, Go.undef, Go.undef, Go.undef, Go.undef, Go.undef, Go.undef, Go.undef, Go.undef, Go.undef, Go.undef, Go.undef], defers := [] }) ?_ ?_
  · have dz : W.drew.heap.size = W.heap.size := rfl
    have _ : bx < W.heap.size := by omega
    have _ : bx ≤ W.heap.size := by omega
    have _ : bx < W.heap.size + 1 := by omega
    have _ : bx < W.heap.size + 1 + 1 := by omega
    have _ : bx ≠ W.heap.size := by omega
    have _ : W.heap.size ≠ bx := by omega
    have _ : bx ≠ W.heap.size + 1 := by omega
    have _ : W.heap.size + 1 ≠ bx := by omega
    have _ : bw < W.heap.size := by omega
    have _ : bw ≤ W.heap.size := by omega
    have _ : bw < W.heap.size + 1 := by omega
    have _ : bw < W.heap.size + 1 + 1 := by omega
    have _ : bw ≠ W.heap.size := by omega
    have _ : W.heap.size ≠ bw := by omega
    have _ : bw ≠ W.heap.size + 1 := by omega
    have _ : W.heap.size + 1 ≠ bw := by omega
    have _ : br < W.heap.size := by omega
    have _ : br ≤ W.heap.size := by omega
    have _ : br < W.heap.size + 1 := by omega
    have _ : br < W.heap.size + 1 + 1 := by omega
    have _ : br ≠ W.heap.size := by omega
    have _ : W.heap.size ≠ br := by omega
    have _ : br ≠ W.heap.size + 1 := by omega
    have _ : W.heap.size + 1 ≠ br := by omega
    have _ : b < W.heap.size := by omega
    have _ : b ≤ W.heap.size := by omega
    have _ : b < W.heap.size + 1 := by omega
    have _ : b < W.heap.size + 1 + 1 := by omega
    have _ : b ≠ W.heap.size := by omega
    have _ : W.heap.size ≠ b := by omega
    have _ : b ≠ W.heap.size + 1 := by omega
    have _ : W.heap.size + 1 ≠ b := by omega
    go_region_held3 (fun w' => w'.cell? ⟨bx, 0, none⟩ = some (.int .u64 (l0 x)) ∧ w'.cell? ⟨bx, 1, none⟩ = some (.int .u64 (l1 x)) ∧ w'.cell? ⟨bx, 2, none⟩ = some (.int .u64 (l2 x)) ∧ w'.cell? ⟨bx, 3, none⟩ = some (.int .u64 (l3 x)) ∧ w'.cell? ⟨bw, 0, none⟩ = some (.int .u64 (l0 y)) ∧ w'.cell? ⟨bw, 1, none⟩ = some (.int .u64 (l1 y)) ∧ w'.cell? ⟨bw, 2, none⟩ = some (.int .u64 (l2 y)) ∧ w'.cell? ⟨bw, 3, none⟩ = some (.int .u64 (l3 y)) ∧ w'.cell? ⟨b, 0, none⟩ = some (.int .i64 k)) (((try dsimp only); (repeat' (apply And.intro)); (all_goals repeat (first | with_reducible assumption | with_reducible apply cell_keep hb1 | with_reducible apply cell_alloc | (with_reducible refine cell_set ?_ (by with_reducible assumption)) | (simp [go_sem, *]; done)))))
      (first
        | (go_at_call 16; with_reducible refine (A1.out _ (by repeat (first | with_reducible exact HD.out | with_reducible refine Mds.alloc ?_ _ | with_reducible refine Mds.drew ?_))).mono ?_; rintro e w1 ⟨rfl, hb1⟩; have hc1 := oldCells hb1; have hz1 := hb1.size; (try simp at hz1); (try (have := fun j => oldCells hb1 (W.heap.size) j (by first | omega | (simp; done) | (simp; omega)))); (try (have := fun j => oldCells hb1 (W.heap.size + 1) j (by first | omega | (simp; done) | (simp; omega)))); have _ : bx < w1.heap.size := (by omega); have _ : bx ≤ w1.heap.size := (by omega); have _ : bx < w1.heap.size + 1 := (by omega); have _ : bx < w1.heap.size + 1 + 1 := (by omega); have _ : bx ≠ w1.heap.size := (by omega); have _ : w1.heap.size ≠ bx := (by omega); have _ : bx ≠ w1.heap.size + 1 := (by omega); have _ : w1.heap.size + 1 ≠ bx := (by omega); have _ : bw < w1.heap.size := (by omega); have _ : bw ≤ w1.heap.size := (by omega); have _ : bw < w1.heap.size + 1 := (by omega); have _ : bw < w1.heap.size + 1 + 1 := (by omega); have _ : bw ≠ w1.heap.size := (by omega); have _ : w1.heap.size ≠ bw := (by omega); have _ : bw ≠ w1.heap.size + 1 := (by omega); have _ : w1.heap.size + 1 ≠ bw := (by omega); have _ : br < w1.heap.size := (by omega); have _ : br ≤ w1.heap.size := (by omega); have _ : br < w1.heap.size + 1 := (by omega); have _ : br < w1.heap.size + 1 + 1 := (by omega); have _ : br ≠ w1.heap.size := (by omega); have _ : w1.heap.size ≠ br := (by omega); have _ : br ≠ w1.heap.size + 1 := (by omega); have _ : w1.heap.size + 1 ≠ br := (by omega); have _ : b < w1.heap.size := (by omega); have _ : b ≤ w1.heap.size := (by omega); have _ : b < w1.heap.size + 1 := (by omega); have _ : b < w1.heap.size + 1 + 1 := (by omega); have _ : b ≠ w1.heap.size := (by omega); have _ : w1.heap.size ≠ b := (by omega); have _ : b ≠ w1.heap.size + 1 := (by omega); have _ : w1.heap.size + 1 ≠ b := (by omega); (try (have _ : W.heap.size < w1.heap.size := (by omega))); (try (have _ : W.heap.size ≤ w1.heap.size := (by omega))); (try (have _ : W.heap.size ≠ w1.heap.size := (by omega))); (try (have _ : w1.heap.size ≠ W.heap.size := (by omega))); (try (have _ : W.heap.size < w1.heap.size + 1 := (by omega))); (try (have _ : W.heap.size + 1 < w1.heap.size := (by omega))); (try (have _ : W.heap.size + 1 ≤ w1.heap.size := (by omega))); (try (have _ : W.heap.size + 1 ≠ w1.heap.size := (by omega))); (try (have _ : w1.heap.size ≠ W.heap.size + 1 := (by omega))); (try (have _ : W.heap.size + 1 < w1.heap.size + 1 := (by omega)))))
    all_goals (refine OutQ.intro ⟨_, ?_, ?_, ?_, ?_, rfl⟩)
    all_goals repeat (first | with_reducible refine Smm.alloc ?_ _ | with_reducible refine Smm.drew ?_ | with_reducible refine Smm.set4 ?_ (by with_reducible assumption) _ _ _ _ | with_reducible refine Smm.keep ?_ hb1 | with_reducible exact BB.out | with_reducible exact HS.out | with_reducible exact HR.out | with_reducible refine Hold.fresh (by first | rfl | (simp; done) | fail) | with_reducible refine Hold.sets4 ?_ | with_reducible refine Hold.alloc ?_ _ | with_reducible refine Hold.drew ?_ | with_reducible refine Hold.set4 ?_ (by with_reducible assumption) _ _ _ _ | with_reducible refine HoldM.alloc ?_ _ | with_reducible refine HoldM.drew ?_ | with_reducible refine HoldM.set4 ?_ (by with_reducible assumption) _ _ _ _ | with_reducible refine Blank.alloc ?_ _ | with_reducible refine Blank.drew ?_ | with_reducible refine Blank.set4 ?_ (by with_reducible assumption) _ _ _ _ | with_reducible refine below_alloc hbf ?_ _ | with_reducible refine Below.drew ?_ | with_reducible refine Below.setCell ?_ (by with_reducible assumption) _ | with_reducible refine Has.fresh (by first | rfl | (simp; done) | fail) (by first | (simp; done) | fail) | with_reducible refine Has.alloc ?_ _ | with_reducible refine Has.drew ?_ | with_reducible refine Has.keep ?_ hb1 | with_reducible refine Hold.keep ?_ hb1 | with_reducible refine HoldM.keep ?_ hb1 | with_reducible refine Blank.keep ?_ hb1 | with_reducible refine below_then hbf ?_ hb1)
  rintro _ W1 ⟨bs, B, hS, hR, hZ, rfl⟩
  subst hbf
  clear BB HD HS HR gS gX gY lx ly lr lb geB A1 W
  have gS := hS.1; have qS := hS.2; have gZ := hZ.cells; have gR := hR.1.all4; have fR := hR.2.all4
  have es := setCell_same hS.1.2
  go_wp2
  repeat (go_region; go_wp2)
  simp [bodyPost, results, Tryd.results23, go_sem, *]
  repeat (first | with_reducible exact B | with_reducible refine Below.drew ?_ | with_reducible refine Below.setCell ?_ (by with_reducible assumption) _)

set_option maxHeartbeats 4000000 in
theorem smul_any {k m c x y : Int} (hk : Kind k m c) (hx : Num x) (hy : Num y) {b : Nat} (w : World) (hm : Mds w) (hs : Smm w b k) :
    Calls Tryd.prog 24 #[.pointer (some ⟨b, 0, none⟩), .agg #[.int .u64 (l0 x), .int .u64 (l1 x), .int .u64 (l2 x), .int .u64 (l3 x)], .agg #[.int .u64 (l0 y), .int .u64 (l1 y), .int .u64 (l2 y), .int .u64 (l3 y)]] w fun e w' => e = .returned (.agg #[.int .u64 (l0 (modN m (x * y))), .int .u64 (l1 (modN m (x * y))), .int .u64 (l2 (modN m (x * y))), .int .u64 (l3 (modN m (x * y)))]) ∧ Below w.heap.size w w' := by
  have A1 : Hid (∀ w, Mds w → Calls Tryd.prog 18 #[.int .i64 k, .agg #[.int .u64 (l0 x), .int .u64 (l1 x), .int .u64 (l2 x), .int .u64 (l3 x)], .agg #[.int .u64 (l0 y), .int .u64 (l1 y), .int .u64 (l2 y), .int .u64 (l3 y)]] w fun e w' => e = .returned (.tuple #[.agg #[.int .u64 (l0 (modN m (x * y))), .int .u64 (l1 (modN m (x * y))), .int .u64 (l2 (modN m (x * y))), .int .u64 (l3 (modN m (x * y)))], .int .i64 0]) ∧ Below w.heap.size w w') := fun w h => Mul_good hk hx hy w h
  generalize modN m (x * y) = R at *
  clear hk hx hy
  have lb := hs.lt
  go_enter Tryd.func24, Tryd.ntmps24
  go_wp2_with fail
  refine wp_world (fun W => Below w.heap.size w W ∧ Mds W ∧ Smm W b k ∧ Hold W w.heap.size x ∧ Hold W (w.heap.size + 1) y ∧ Blank W (w.heap.size + 1 + 1)) ⟨by repeat (first | with_reducible exact Below.refl _ _ | with_reducible refine Below.alloc ?_ (by first | omega | (simp; done) | (simp; omega)) _), ((hm.alloc _).alloc _).alloc _, ((hs.alloc _).alloc _).alloc _, ((Hold.fresh (by simp)).alloc _).alloc _, (Hold.fresh (by simp)).alloc _, Blank.new (by simp)⟩ ?_
  clear hm hs lb
  rintro W ⟨B, hD, hS, hX, hY, hR⟩
  have o3 : w.heap.size ≤ w.heap.size + 1 + 1 := by omega
  generalize w.heap.size + 1 + 1 = br at *
  generalize w.heap.size + 1 = bw at *
  generalize hbf : w.heap.size = bx at *
  have gS := hS.1; have gX := hX.cells; have gY := hY.cells
  have lx : bx < W.heap.size := World.block_lt_of_cell? W _ hX.1
  have ly : bw < W.heap.size := World.block_lt_of_cell? W _ hY.1
  have lr : br < W.heap.size := hR.1.lt (by simp)
  have lb : b < W.heap.size := hS.lt
  have BB : Hid (Below bx w W) := B
  have HD : Hid (Mds W) := hD
  have HS : Hid (Smm W b k) := hS
  have HR : Hid (Blank W br) := hR
  have geB : bx ≤ W.heap.size := by omega
  clear B hD hS hX hY hR
  refine wp_out (fun a' W' => ∃ bs, Below bx w W' ∧ Smm W' b k ∧ Blank W' br ∧ Hold W' bs R ∧ a' = { tmps := #[.pointer (some { block := b, off := 0 }), .agg #[.int .u64 (l0 x), .int .u64 (l1 x), .int .u64 (l2 x), .int .u64 (l3 x)], .agg #[.int .u64 (l0 y), .int .u64 (l1 y), .int .u64 (l2 y), .int .u64 (l3 y)], Go.undef, .pointer (some { block := bx, off := 0 }), .pointer (some { block := bw, off := 0 }), .pointer (some { block := br, off := 0 }), .pointer (some { block := bs, off := 0 }), .int .i64 0, .tuple #[.agg #[.int .u64 (l0 R), .int .u64 (l1 R), .int .u64 (l2 R), .int .u64 (l3 R)], .int .i64 0], .pointer (some { block := b, off := 0 }), .pointer (some { block := b, off := 0 }), .pointer (some { block := b, off := 0 }), .int .i64 k, .agg #[.int .u64 (l0 x), .int .u64 (l1 x), .int .u64 (l2 x), .int .u64 (l3 x)], .agg #[.int .u64 (l0 y), .int .u64 (l1 y), .int .u64 (l2 y), .int .u64 (l3 y)], .tuple #[.agg #[.int .u64 (l0 R), .int .u64 (l1 R), .int .u64 (l2 R), .int .u64 (l3 R)], .int .i64 0], .agg #[.int .u64 (l0 R), .int .u64 (l1 R), .int .u64 (l2 R), .int .u64 (l3 R)], .int .i64 0, Go.undef, Go.undef, Go.undef, Go.undef, Go.undef, Go.undef, Go.undef, Go.undef, Go.undef, Go.undef, Go.undef, Go.undef], defers := [] }) ?_ ?_
  · have dz : W.drew.heap.size = W.heap.size := rfl
    have _ : bx < W.heap.size := by omega
    have _ : bx ≤ W.heap.size := by omega
    have _ : bx < W.heap.size + 1 := by omega
    have _ : bx < W.heap.size + 1 + 1 := by omega
    have _ : bx ≠ W.heap.size := by omega
    have _ : W.heap.size ≠ bx := by omega
    have _ : bx ≠ W.heap.size + 1 := by omega
    have _ : W.heap.size + 1 ≠ bx := by omega
    have _ : bw < W.heap.size := by omega
    have _ : bw ≤ W.heap.size := by omega
    have _ : bw < W.heap.size + 1 := by omega
    have _ : bw < W.heap.size + 1 + 1 := by omega
    have _ : bw ≠ W.heap.size := by omega
    have _ : W.heap.size ≠ bw := by omega
    have _ : bw ≠ W.heap.size + 1 := by omega
    have _ : W.heap.size + 1 ≠ bw := by omega
    have _ : br < W.heap.size := by omega
    have _ : br ≤ W.heap.size := by omega
    have _ : br < W.heap.size + 1 := by omega
    have _ : br < W.heap.size + 1 + 1 := by omega
    have _ : br ≠ W.heap.size := by omega
    have _ : W.heap.size ≠ br := by omega
    have _ : br ≠ W.heap.size + 1 := by omega
    have _ : W.heap.size + 1 ≠ br := by omega
    have _ : b < W.heap.size := by omega
    have _ : b ≤ W.heap.size := by omega
    have _ : b < W.heap.size + 1 := by omega
    have _ : b < W.heap.size + 1 + 1 := by omega
    have _ : b ≠ W.heap.size := by omega
    have _ : W.heap.size ≠ b := by omega
    have _ : b ≠ W.heap.size + 1 := by omega
    have _ : W.heap.size + 1 ≠ b := by omega
    go_region_held3 (fun w' => w'.cell? ⟨bx, 0, none⟩ = some (.int .u64 (l0 x)) ∧ w'.cell? ⟨bx, 1, none⟩ = some (.int .u64 (l1 x)) ∧ w'.cell? ⟨bx, 2, none⟩ = some (.int .u64 (l2 x)) ∧ w'.cell? ⟨bx, 3, none⟩ = some (.int .u64 (l3 x)) ∧ w'.cell? ⟨bw, 0, none⟩ = some (.int .u64 (l0 y)) ∧ w'.cell? ⟨bw, 1, none⟩ = some (.int .u64 (l1 y)) ∧ w'.cell? ⟨bw, 2, none⟩ = some (.int .u64 (l2 y)) ∧ w'.cell? ⟨bw, 3, none⟩ = some (.int .u64 (l3 y)) ∧ w'.cell? ⟨b, 0, none⟩ = some (.int .i64 k)) (((try dsimp only); (repeat' (apply And.intro)); (all_goals repeat (first | with_reducible assumption | with_reducible apply cell_keep hb1 | with_reducible apply cell_alloc | (with_reducible refine cell_set ?_ (by with_reducible assumption)) | (simp [go_sem, *]; done)))))
      (first
        | (go_at_call 18; with_reducible refine (A1.out _ (by repeat (first | with_reducible exact HD.out | with_reducible refine Mds.alloc ?_ _ | with_reducible refine Mds.drew ?_))).mono ?_; rintro e w1 ⟨rfl, hb1⟩; have hc1 := oldCells hb1; have hz1 := hb1.size; (try simp at hz1); (try (have := fun j => oldCells hb1 (W.heap.size) j (by first | omega | (simp; done) | (simp; omega)))); (try (have := fun j => oldCells hb1 (W.heap.size + 1) j (by first | omega | (simp; done) | (simp; omega)))); have _ : bx < w1.heap.size := (by omega); have _ : bx ≤ w1.heap.size := (by omega); have _ : bx < w1.heap.size + 1 := (by omega); have _ : bx < w1.heap.size + 1 + 1 := (by omega); have _ : bx ≠ w1.heap.size := (by omega); have _ : w1.heap.size ≠ bx := (by omega); have _ : bx ≠ w1.heap.size + 1 := (by omega); have _ : w1.heap.size + 1 ≠ bx := (by omega); have _ : bw < w1.heap.size := (by omega); have _ : bw ≤ w1.heap.size := (by omega); have _ : bw < w1.heap.size + 1 := (by omega); have _ : bw < w1.heap.size + 1 + 1 := (by omega); have _ : bw ≠ w1.heap.size := (by omega); have _ : w1.heap.size ≠ bw := (by omega); have _ : bw ≠ w1.heap.size + 1 := (by omega); have _ : w1.heap.size + 1 ≠ bw := (by omega); have _ : br < w1.heap.size := (by omega); have _ : br ≤ w1.heap.size := (by omega); have _ : br < w1.heap.size + 1 := (by omega); have _ : br < w1.heap.size + 1 + 1 := (by omega); have _ : br ≠ w1.heap.size := (by omega); have _ : w1.heap.size ≠ br := (by omega); have _ : br ≠ w1.heap.size + 1 := (by omega); have _ : w1.heap.size + 1 ≠ br := (by omega); have _ : b < w1.heap.size := (by omega); have _ : b ≤ w1.heap.size := (by omega); have _ : b < w1.heap.size + 1 := (by omega); have _ : b < w1.heap.size + 1 + 1 := (by omega); have _ : b ≠ w1.heap.size := (by omega); have _ : w1.heap.size ≠ b := (by omega); have _ : b ≠ w1.heap.size + 1 := (by omega); have _ : w1.heap.size + 1 ≠ b := (by omega); (try (have _ : W.heap.size < w1.heap.size := (by omega))); (try (have _ : W.heap.size ≤ w1.heap.size := (by omega))); (try (have _ : W.heap.size ≠ w1.heap.size := (by omega))); (try (have _ : w1.heap.size ≠ W.heap.size := (by omega))); (try (have _ : W.heap.size < w1.heap.size + 1 := (by omega))); (try (have _ : W.heap.size + 1 < w1.heap.size := (by omega))); (try (have _ : W.heap.size + 1 ≤ w1.heap.size := (by omega))); (try (have _ : W.heap.size + 1 ≠ w1.heap.size := (by omega))); (try (have _ : w1.heap.size ≠ W.heap.size + 1 := (by omega))); (try (have _ : W.heap.size + 1 < w1.heap.size + 1 := (by omega)))))
    all_goals (refine OutQ.intro ⟨_, ?_, ?_, ?_, ?_, rfl⟩)
    all_goals repeat (first | with_reducible refine Smm.alloc ?_ _ | with_reducible refine Smm.drew ?_ | with_reducible refine Smm.set4 ?_ (by with_reducible assumption) _ _ _ _ | with_reducible refine Smm.keep ?_ hb1 | with_reducible exact BB.out | with_reducible exact HS.out | with_reducible exact HR.out | with_reducible refine Hold.fresh (by first | rfl | (simp; done) | fail) | with_reducible refine Hold.sets4 ?_ | with_reducible refine Hold.alloc ?_ _ | with_reducible refine Hold.drew ?_ | with_reducible refine Hold.set4 ?_ (by with_reducible assumption) _ _ _ _ | with_reducible refine HoldM.alloc ?_ _ | with_reducible refine HoldM.drew ?_ | with_reducible refine HoldM.set4 ?_ (by with_reducible assumption) _ _ _ _ | with_reducible refine Blank.alloc ?_ _ | with_reducible refine Blank.drew ?_ | with_reducible refine Blank.set4 ?_ (by with_reducible assumption) _ _ _ _ | with_reducible refine below_alloc hbf ?_ _ | with_reducible refine Below.drew ?_ | with_reducible refine Below.setCell ?_ (by with_reducible assumption) _ | with_reducible refine Has.fresh (by first | rfl | (simp; done) | fail) (by first | (simp; done) | fail) | with_reducible refine Has.alloc ?_ _ | with_reducible refine Has.drew ?_ | with_reducible refine Has.keep ?_ hb1 | with_reducible refine Hold.keep ?_ hb1 | with_reducible refine HoldM.keep ?_ hb1 | with_reducible refine Blank.keep ?_ hb1 | with_reducible refine below_then hbf ?_ hb1)
  rintro _ W1 ⟨bs, B, hS, hR, hZ, rfl⟩
  subst hbf
  clear BB HD HS HR gS gX gY lx ly lr lb geB A1 W
  have gS := hS.1; have qS := hS.2; have gZ := hZ.cells; have gR := hR.1.all4; have fR := hR.2.all4
  have es := setCell_same hS.1.2
  go_wp2
  repeat (go_region; go_wp2)
  simp [bodyPost, results, Tryd.results24, go_sem, *]
  repeat (first | with_reducible exact B | with_reducible refine Below.drew ?_ | with_reducible refine Below.setCell ?_ (by with_reducible assumption) _)
end Go.Proofs.YtfpiopjlcjckeaaDoor

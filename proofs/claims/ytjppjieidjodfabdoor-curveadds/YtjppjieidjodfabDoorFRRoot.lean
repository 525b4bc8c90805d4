import Derived.Test.YtjppjieidjodfabDoorFRefX
import Derived.Test.YtjppjieidjodfabDoorFRoot
namespace Go.Proofs.YtjppjieidjodfabDoor
open Go.RowKit Go.Sort

set_option maxRecDepth 100000 in
set_option maxHeartbeats 8000000 in
theorem rRoot_walk {x m q z g r s t u ra re : Int}
    (M0 : Hid (∀ w, Calls Tryd.prog 74 #[.int .i64 0] w fun e w' => e = .returned (.agg #[.int .u64 (l0 m), .int .u64 (l1 m), .int .u64 (l2 m), .int .u64 (l3 m)]) ∧ Below w.heap.size w w')) (F1 : Hid (∀ w, Calls Tryd.prog 75 #[.int .u64 1] w fun e w' => e = .returned (.agg #[.int .u64 (l0 1), .int .u64 (l1 1), .int .u64 (l2 1), .int .u64 (l3 1)]) ∧ Below w.heap.size w w')) (A1 : Hid (∀ w, Calls Tryd.prog 73 #[.agg #[.int .u64 (l0 m), .int .u64 (l1 m), .int .u64 (l2 m), .int .u64 (l3 m)], .agg #[.int .u64 (l0 1), .int .u64 (l1 1), .int .u64 (l2 1), .int .u64 (l3 1)]] w fun e w' => e = .returned (.tuple #[.agg #[.int .u64 (l0 q), .int .u64 (l1 q), .int .u64 (l2 q), .int .u64 (l3 q)], .int .u64 z]) ∧ Below w.heap.size w w')) (S1 : Hid (∀ w, Calls Tryd.prog 76 #[.agg #[.int .u64 (l0 q), .int .u64 (l1 q), .int .u64 (l2 q), .int .u64 (l3 q)], .int .i64 2] w fun e w' => e = .returned (.agg #[.int .u64 (l0 g), .int .u64 (l1 g), .int .u64 (l2 g), .int .u64 (l3 g)]) ∧ Below w.heap.size w w'))
    (E1 : Hid (∀ w, Calls Tryd.prog 77 #[.int .i64 0, .agg #[.int .u64 (l0 x), .int .u64 (l1 x), .int .u64 (l2 x), .int .u64 (l3 x)], .agg #[.int .u64 (l0 g), .int .u64 (l1 g), .int .u64 (l2 g), .int .u64 (l3 g)]] w fun e w' => e = .returned (.agg #[.int .u64 (l0 r), .int .u64 (l1 r), .int .u64 (l2 r), .int .u64 (l3 r)]) ∧ Below w.heap.size w w')) (M1 : Hid (∀ w, Calls Tryd.prog 78 #[.int .i64 0, .agg #[.int .u64 (l0 r), .int .u64 (l1 r), .int .u64 (l2 r), .int .u64 (l3 r)], .agg #[.int .u64 (l0 r), .int .u64 (l1 r), .int .u64 (l2 r), .int .u64 (l3 r)]] w fun e w' => e = .returned (.agg #[.int .u64 (l0 s), .int .u64 (l1 s), .int .u64 (l2 s), .int .u64 (l3 s)]) ∧ Below w.heap.size w w')) (O1 : Hid (∀ w, Calls Tryd.prog 79 #[.int .i64 0, .agg #[.int .u64 (l0 x), .int .u64 (l1 x), .int .u64 (l2 x), .int .u64 (l3 x)]] w fun e w' => e = .returned (.agg #[.int .u64 (l0 t), .int .u64 (l1 t), .int .u64 (l2 t), .int .u64 (l3 t)]) ∧ Below w.heap.size w w')) (ns : Num s) (nt : Num t)
    (S2 : Hid (∀ w, Calls Tryd.prog 80 #[.int .i64 0, .agg #[.int .u64 (l0 r), .int .u64 (l1 r), .int .u64 (l2 r), .int .u64 (l3 r)]] w fun e w' => e = .returned (.agg #[.int .u64 (l0 u), .int .u64 (l1 u), .int .u64 (l2 u), .int .u64 (l3 u)]) ∧ Below w.heap.size w w'))
    (cs : Hid ((s ≠ t ∧ ra = 0 ∧ re = 41) ∨ (s = t ∧ ((l0 r).tmod 2 == 1) = false ∧ ra = r ∧ re = 0) ∨ (s = t ∧ ((l0 r).tmod 2 == 1) = true ∧ ra = u ∧ re = 0))) (w : World) :
    Calls Tryd.prog 40 #[.agg #[.int .u64 (l0 x), .int .u64 (l1 x), .int .u64 (l2 x), .int .u64 (l3 x)]] w fun e w' => e = .returned (.tuple #[.agg #[.int .u64 (l0 ra), .int .u64 (l1 ra), .int .u64 (l2 ra), .int .u64 (l3 ra)], .int .i64 re]) ∧ Below w.heap.size w w' := by
  have bz := build_zero
  have wr := l0_word r
  generalize ht : (1 : Int) = T at F1 A1
  go_enter Tryd.func40, Tryd.ntmps40
  go_wp2_with fail
  refine calls_world (fun W => Below w.heap.size w W ∧ Hold W w.heap.size x ∧ Blank W (w.heap.size + 1)) ⟨by repeat (first | with_reducible exact Below.refl _ _ | with_reducible refine Below.alloc ?_ (by first | omega | (simp; done) | (simp; omega)) _), (Hold.fresh (by simp)).alloc _, Blank.new (by simp)⟩ ?_
  rintro W ⟨B, hX, hR⟩
  have o3 : w.heap.size ≤ w.heap.size + 1 := by omega
  generalize w.heap.size + 1 = br at *
  with_reducible refine (M0.out _).mono ?_
  rintro e w1 ⟨rfl, hb⟩
  replace B := B.trans (hb.mono B.size)
  replace hX := hX.keep hb; replace hR := hR.keep hb
  clear hb W
  go_wp2_with fail
  refine calls_world (fun W => Below w.heap.size w W ∧ Hold W w.heap.size x ∧ Blank W br) ⟨B, hX, hR⟩ ?_
  clear B hX hR 
  rintro W ⟨B, hX, hR⟩
  subst ht
  with_reducible refine (F1.out _).mono ?_
  rintro e w2 ⟨rfl, hb⟩
  replace B := B.trans (hb.mono B.size)
  replace hX := hX.keep hb; replace hR := hR.keep hb
  clear hb W
  go_wp2_with fail
  refine calls_world (fun W => Below w.heap.size w W ∧ Hold W w.heap.size x ∧ Blank W br) ⟨B, hX, hR⟩ ?_
  clear B hX hR 
  rintro W ⟨B, hX, hR⟩
  with_reducible refine (A1.out _).mono ?_
  rintro e w3 ⟨rfl, hb⟩
  replace B := B.trans (hb.mono B.size)
  replace hX := hX.keep hb; replace hR := hR.keep hb
  clear hb W
  go_wp2_with fail
  refine calls_world (fun W => Below w.heap.size w W ∧ Hold W w.heap.size x ∧ Blank W br ∧ Hold W w3.heap.size q) ⟨B.alloc B.size _, hX.alloc _, hR.alloc _, Hold.new _ _ _⟩ ?_
  clear B hX hR 
  rintro W ⟨B, hX, hR, hQ⟩
  generalize w3.heap.size = bq at *
  with_reducible refine (S1.out _).mono ?_
  rintro e w4 ⟨rfl, hb⟩
  replace B := B.trans (hb.mono B.size)
  replace hX := hX.keep hb; replace hR := hR.keep hb; replace hQ := hQ.keep hb
  clear hb W
  have ghX := hX.allocs
  go_wp2_with fail
  refine calls_world (fun W => Below w.heap.size w W ∧ Hold W w.heap.size x ∧ Blank W br ∧ Hold W bq q ∧ Hold W w4.heap.size g) ⟨B.alloc B.size _, hX.alloc _, hR.alloc _, hQ.alloc _, Hold.new _ _ _⟩ ?_
  clear B hX hR hQ ghX
  rintro W ⟨B, hX, hR, hQ, hE⟩
  generalize w4.heap.size = be at *
  clear hQ hE
  with_reducible refine (E1.out _).mono ?_
  rintro e w5 ⟨rfl, hb⟩
  replace B := B.trans (hb.mono B.size)
  replace hX := hX.keep hb; replace hR := hR.keep hb
  clear hb W
  go_wp2_with fail
  have nr1 : w5.heap.size ≠ br := by have := hR.1.lt (by simp); omega
  have nr2 := nr1.symm
  have og : w.heap.size ≤ w5.heap.size := B.size
  refine wp_world (fun W => Below w.heap.size w W ∧ Hold W w.heap.size x ∧ Blank W br ∧ Var W w5.heap.size r) ⟨B.alloc B.size _, hX.alloc _, hR.alloc _, Var.new rfl⟩ ?_
  clear B hX hR
  rintro W ⟨B, hX, hR, hV⟩
  generalize w5.heap.size = bv at *
  have gX := hX.grown; have gV := hV.1.grown
  have hq := eq_num ns nt
  refine wp_region_quiet_below (by kernel_rfl) (by kernel_rfl) ?_
  repeat
    first
      | go_big_quiet_skip
      | (go_big_quiet_want; go_big_quiet_op; go_big_quiet_on)
      | (go_big_quiet_want
         go_big_quiet_op
         apply Exists.intro
         refine ⟨fun p => ?_, ?_⟩
         · (first | (go_at_call 78; with_reducible exact Calls.regrown_of (M1.out _)) | (go_at_call 79; with_reducible exact Calls.regrown_of (O1.out _)))
         go_big_quiet_on)
  refine wpQuiet_nil ?_
  rintro w6 ⟨p, rfl⟩
  have hb := below_regrown W p.d p.os
  generalize grow (redrawn W p.d) p.os = w6 at *
  replace B := B.trans (hb.mono B.size)
  replace hR := hR.keep hb; replace hV := hV.keep hb
  clear hb hX gX gV W
  generalize hdb : (!decide (s = t)) = db
  rcases cs.out with ⟨c1, rfl, rfl⟩ | ⟨c1, c2, rfl, rfl⟩ | ⟨c1, c2, rfl, rfl⟩
  · obtain rfl : db = true := by rw [← hdb]; simp [c1]
    clear hdb
    have gR := hR.1.all4; have fR := hR.2.all4

    clear hV hq c1 wr
    go_wp2
    simp [bodyPost, results, Tryd.results40, go_sem, gR]
    exact ⟨⟨by decide, by decide, by decide, by decide⟩, below_set4 B o3 _ _ _ _⟩
  · obtain rfl : db = false := by rw [← hdb]; simp [c1]
    clear hdb
    subst c1
    have gV := hV.1.cells; have gR := hR.1.all4; have fR := hR.2.all4
    clear hq
    go_wp2
    simp [bodyPost, results, Tryd.results40, go_sem, gR]
    exact below_set4 B o3 _ _ _ _
  · obtain rfl : db = false := by rw [← hdb]; simp [c1]
    clear hdb
    subst c1
    have gV := hV.1.cells
    clear hq
    go_wp2_with fail
    with_reducible refine (S2.out _).mono ?_
    rintro e w7 ⟨rfl, hb⟩
    replace B := B.trans (hb.mono B.size)
    replace hR := hR.keep hb; replace hV := hV.keep hb
    clear hb gV w6
    have gV := hV.1.cells; have qV := hV.2.all4; have gR := hR.1.all4; have fR := hR.2.all4
    go_wp2
    simp [bodyPost, results, Tryd.results40, go_sem, *]
    repeat (first | with_reducible exact B | with_reducible refine Below.drew ?_ | with_reducible refine Below.setCell ?_ (by with_reducible assumption) _)

end Go.Proofs.YtjppjieidjodfabDoor

namespace Go.Proofs.YtjppjieidjodfabDoor
open Go.RowKit Go.Sort

theorem odd_limb {r : Int} (h : Num r) : (l0 r).tmod 2 = r % 2 := by
  obtain ⟨a, b⟩ := h
  rw [Int.tmod_eq_emod_of_nonneg (by unfold l0; omega)]
  unfold l0; omega

theorem rRoot_any {x : Int} (hx : Num x) (w : World) :
    Calls Tryd.prog 40 #[.agg #[.int .u64 (l0 x), .int .u64 (l1 x), .int .u64 (l2 x), .int .u64 (l3 x)]] w fun e w' => e = .returned (.tuple #[.agg #[.int .u64 (l0 (rootN x)), .int .u64 (l1 (rootN x)), .int .u64 (l2 (rootN x)), .int .u64 (l3 (rootN x))], .int .i64 (rootE x)]) ∧ Below w.heap.size w w' := by
  have nr : Num (powN pN x qN) := powN_Num fit_p x qN
  have n1 : Num 1 := ⟨by decide, by decide⟩
  have np : Num (pN + 1) := ⟨by decide, by decide⟩
  refine rRoot_walk (m := pN) (q := pN + 1) (z := carN pN 1) (g := qN) (r := powN pN x qN) (s := modN pN (powN pN x qN * powN pN x qN)) (t := modN pN x) (u := modN pN (0 - powN pN x qN)) (rmodulus_any 0) (rfrom_any ⟨by decide, by decide⟩) ?_ ?_ (rpower_any (k := 0) hx ⟨by decide, by decide⟩) (rtimes_any (k := 0) nr nr) (rbelow_any (k := 0) hx) (modN_Num fit_p _) (modN_Num fit_p _) (rless_any (k := 0) nr) ?_ w
  · intro w; have := radd_any fit_p.num n1 w; rw [add_p] at this; exact this
  · intro w; have := rshr_any (k := 2) np w; rw [shr_q2] at this; exact this
  · unfold rootN rootE evenN
    rw [odd_limb nr]
    by_cases h : modN pN (powN pN x qN * powN pN x qN) = modN pN x
    · rw [if_pos h, if_pos h]
      rcases Int.emod_two_eq (powN pN x qN) with h2 | h2
      · exact .inr (.inl ⟨h, by rw [h2]; rfl, by rw [if_neg (by omega)], rfl⟩)
      · exact .inr (.inr ⟨h, by rw [h2]; rfl, by rw [if_pos h2], rfl⟩)
    · rw [if_neg h, if_neg h]
      exact .inl ⟨h, rfl, rfl⟩

end Go.Proofs.YtjppjieidjodfabDoor

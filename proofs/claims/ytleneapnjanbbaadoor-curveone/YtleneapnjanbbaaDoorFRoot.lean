import Derived.Test.YtleneapnjanbbaaDoorFAdd
import Derived.Test.YtleneapnjanbbaaDoorFExp
import Derived.Deep.RegionHeld3
import Derived.Test.YtleneapnjanbbaaDoorFFermat
import Derived.Test.YtleneapnjanbbaaDoorFBin
namespace Go.Proofs.YtleneapnjanbbaaDoor
open Go.RowKit Go.Sort

set_option maxRecDepth 100000 in
set_option maxHeartbeats 8000000 in
theorem Root_walk {m c x a q z r s t b u ra re : Int} (em : m = pN) (ec : c = pC)
    (S1 : Hid (∀ w, Calls Tryd.prog 48 #[.agg #[.int .u64 (l0 m), .int .u64 (l1 m), .int .u64 (l2 m), .int .u64 (l3 m)], .int .i64 2] w fun e w' => e = .returned (.agg #[.int .u64 (l0 a), .int .u64 (l1 a), .int .u64 (l2 a), .int .u64 (l3 a)]) ∧ Below w.heap.size w w')) (F1 : Hid (∀ w, Calls Tryd.prog 32 #[.int .u64 1] w fun e w' => e = .returned (.agg #[.int .u64 (l0 1), .int .u64 (l1 1), .int .u64 (l2 1), .int .u64 (l3 1)]) ∧ Below w.heap.size w w')) (A1 : Hid (∀ w, Calls Tryd.prog 47 #[.agg #[.int .u64 (l0 a), .int .u64 (l1 a), .int .u64 (l2 a), .int .u64 (l3 a)], .agg #[.int .u64 (l0 1), .int .u64 (l1 1), .int .u64 (l2 1), .int .u64 (l3 1)]] w fun e w' => e = .returned (.tuple #[.agg #[.int .u64 (l0 q), .int .u64 (l1 q), .int .u64 (l2 q), .int .u64 (l3 q)], .int .u64 z]) ∧ Below w.heap.size w w'))
    (E1 : Hid (∀ w, Calls Tryd.prog 49 #[.agg #[.int .u64 (l0 m), .int .u64 (l1 m), .int .u64 (l2 m), .int .u64 (l3 m), .int .u64 (l0 c), .int .u64 (l1 c), .int .u64 (l2 c), .int .u64 (l3 c)], .agg #[.int .u64 (l0 x), .int .u64 (l1 x), .int .u64 (l2 x), .int .u64 (l3 x)], .agg #[.int .u64 (l0 q), .int .u64 (l1 q), .int .u64 (l2 q), .int .u64 (l3 q)]] w fun e w' => e = .returned (.agg #[.int .u64 (l0 r), .int .u64 (l1 r), .int .u64 (l2 r), .int .u64 (l3 r)]) ∧ Below w.heap.size w w')) (M1 : Hid (∀ w, Calls Tryd.prog 50 #[.agg #[.int .u64 (l0 m), .int .u64 (l1 m), .int .u64 (l2 m), .int .u64 (l3 m), .int .u64 (l0 c), .int .u64 (l1 c), .int .u64 (l2 c), .int .u64 (l3 c)], .agg #[.int .u64 (l0 r), .int .u64 (l1 r), .int .u64 (l2 r), .int .u64 (l3 r)], .agg #[.int .u64 (l0 r), .int .u64 (l1 r), .int .u64 (l2 r), .int .u64 (l3 r)]] w fun e w' => e = .returned (.agg #[.int .u64 (l0 s), .int .u64 (l1 s), .int .u64 (l2 s), .int .u64 (l3 s)]) ∧ Below w.heap.size w w')) (O1 : Hid (∀ w, Calls Tryd.prog 45 #[.agg #[.int .u64 (l0 m), .int .u64 (l1 m), .int .u64 (l2 m), .int .u64 (l3 m), .int .u64 (l0 c), .int .u64 (l1 c), .int .u64 (l2 c), .int .u64 (l3 c)], .agg #[.int .u64 (l0 x), .int .u64 (l1 x), .int .u64 (l2 x), .int .u64 (l3 x)]] w fun e w' => e = .returned (.agg #[.int .u64 (l0 t), .int .u64 (l1 t), .int .u64 (l2 t), .int .u64 (l3 t)]) ∧ Below w.heap.size w w')) (ns : Num s) (nt : Num t)
    (B1 : Hid (∀ w, Calls Tryd.prog 19 #[.agg #[.int .u64 (l0 r), .int .u64 (l1 r), .int .u64 (l2 r), .int .u64 (l3 r)], .int .i64 0] w fun e w' => e = .returned (.int .i64 b) ∧ Below w.heap.size w w')) (S2 : Hid (∀ w, Calls Tryd.prog 51 #[.agg #[.int .u64 (l0 m), .int .u64 (l1 m), .int .u64 (l2 m), .int .u64 (l3 m), .int .u64 (l0 c), .int .u64 (l1 c), .int .u64 (l2 c), .int .u64 (l3 c)], .agg #[.int .u64 0, .int .u64 0, .int .u64 0, .int .u64 0], .agg #[.int .u64 (l0 r), .int .u64 (l1 r), .int .u64 (l2 r), .int .u64 (l3 r)]] w fun e w' => e = .returned (.agg #[.int .u64 (l0 u), .int .u64 (l1 u), .int .u64 (l2 u), .int .u64 (l3 u)]) ∧ Below w.heap.size w w'))
    (cs : Hid ((s ≠ t ∧ ra = 0 ∧ re = 41) ∨ (s = t ∧ b = 0 ∧ ra = r ∧ re = 0) ∨ (s = t ∧ b = 1 ∧ ra = u ∧ re = 0))) (w : World) (hm : Mds w) :
    Calls Tryd.prog 38 #[.agg #[.int .u64 (l0 x), .int .u64 (l1 x), .int .u64 (l2 x), .int .u64 (l3 x)]] w fun e w' => e = .returned (.tuple #[.agg #[.int .u64 (l0 ra), .int .u64 (l1 ra), .int .u64 (l2 ra), .int .u64 (l3 ra)], .int .i64 re]) ∧ Below w.heap.size w w' := by
  have bz := build_zero
  generalize ht : (1 : Int) = T at F1 A1
  have gD := fun o o2 => ((hm.alloc o).alloc o2).p.cells
  rw [← em, ← ec] at gD
  clear em ec
  go_enter Tryd.func38, Tryd.ntmps38
  go_wp2_with fail
  refine calls_world (fun W => Below w.heap.size w W ∧ Hold W w.heap.size x ∧ Blank W (w.heap.size + 1) ∧ HoldM W (w.heap.size + 1 + 1) m c) ⟨by repeat (first | with_reducible exact Below.refl _ _ | with_reducible refine Below.alloc ?_ (by first | omega | (simp; done) | (simp; omega)) _), ((Hold.fresh (by simp)).alloc _).alloc _, (Blank.new (by simp)).alloc _, ?_⟩ ?_
  · have := HoldM.new ((w.alloc (.cells #[.int .u64 (l0 x), .int .u64 (l1 x), .int .u64 (l2 x), .int .u64 (l3 x)] 26)).alloc (.cells #[.int .u64 0, .int .u64 0, .int .u64 0, .int .u64 0] 26)) m c 62
    simp at this
    exact this
  clear gD hm
  rintro W ⟨B, hX, hR, hF⟩
  have o3 : w.heap.size ≤ w.heap.size + 1 := by omega
  generalize w.heap.size + 1 + 1 = bf at *
  generalize w.heap.size + 1 = br at *
  with_reducible refine (S1.out _).mono ?_
  rintro e w1 ⟨rfl, hb⟩
  replace B := B.trans (hb.mono B.size)
  replace hX := hX.keep hb; replace hR := hR.keep hb; replace hF := hF.keep hb
  clear hb W
  go_wp2_with fail
  refine calls_world (fun W => Below w.heap.size w W ∧ Hold W w.heap.size x ∧ Blank W br ∧ HoldM W bf m c) ⟨B, hX, hR, hF⟩ ?_
  clear B hX hR hF 
  rintro W ⟨B, hX, hR, hF⟩
  subst ht
  with_reducible refine (F1.out _).mono ?_
  rintro e w2 ⟨rfl, hb⟩
  replace B := B.trans (hb.mono B.size)
  replace hX := hX.keep hb; replace hR := hR.keep hb; replace hF := hF.keep hb
  clear hb W
  go_wp2_with fail
  refine calls_world (fun W => Below w.heap.size w W ∧ Hold W w.heap.size x ∧ Blank W br ∧ HoldM W bf m c) ⟨B, hX, hR, hF⟩ ?_
  clear B hX hR hF 
  rintro W ⟨B, hX, hR, hF⟩
  with_reducible refine (A1.out _).mono ?_
  rintro e w3 ⟨rfl, hb⟩
  replace B := B.trans (hb.mono B.size)
  replace hX := hX.keep hb; replace hR := hR.keep hb; replace hF := hF.keep hb
  clear hb W
  have ghX := hX.allocs
  have ghF := fun o => (hF.alloc o).cells
  go_wp2_with fail
  refine calls_world (fun W => Below w.heap.size w W ∧ Hold W w.heap.size x ∧ Blank W br ∧ HoldM W bf m c ∧ Hold W w3.heap.size q) ⟨B.alloc B.size _, hX.alloc _, hR.alloc _, hF.alloc _, Hold.new _ _ _⟩ ?_
  clear B hX hR hF ghX ghF
  rintro W ⟨B, hX, hR, hF, hQ⟩
  generalize w3.heap.size = bq at *
  clear hQ
  with_reducible refine (E1.out _).mono ?_
  rintro e w4 ⟨rfl, hb⟩
  replace B := B.trans (hb.mono B.size)
  replace hF := hF.keep hb; replace hX := hX.keep hb; replace hR := hR.keep hb
  clear hb W
  go_wp2_with fail
  have nr1 : w4.heap.size ≠ br := by have := hR.1.lt (by simp); omega
  have nr2 := nr1.symm
  have nf1 : w4.heap.size ≠ bf := by have := hF.lt; omega
  have og : w.heap.size ≤ w4.heap.size := B.size
  refine wp_world (fun W => Below w.heap.size w W ∧ HoldM W bf m c ∧ Hold W w.heap.size x ∧ Blank W br ∧ Var W w4.heap.size r) ⟨B.alloc B.size _, hF.alloc _, hX.alloc _, hR.alloc _, Var.new rfl⟩ ?_
  clear B hF hX hR
  rintro W ⟨B, hF, hX, hR, hV⟩
  generalize w4.heap.size = bv at *
  have gF := hF.grown; have gX := hX.grown; have gV := hV.1.grown
  have hq := eq_num ns nt
  refine wp_region_quiet_below (by kernel_rfl) (by kernel_rfl) ?_
  repeat
    first
      | go_big_quiet_skip
      | (go_big_quiet_want; go_big_quiet_op; go_big_quiet_on)
      | (go_big_quiet_want
         go_big_quiet_op
         apply Exists.intro
         refine ⟨fun p => ?_, ?_⟩
         · (first | (go_at_call 50; with_reducible exact Calls.regrown_of (M1.out _)) | (go_at_call 45; with_reducible exact Calls.regrown_of (O1.out _)))
         go_big_quiet_on)
  refine wpQuiet_nil ?_
  rintro w5 ⟨p, rfl⟩
  have hb := below_regrown W p.d p.os
  generalize grow (redrawn W p.d) p.os = w5 at *
  replace B := B.trans (hb.mono B.size)
  replace hF := hF.keep hb; replace hR := hR.keep hb; replace hV := hV.keep hb
  clear hb hX gF gX gV W
  generalize hdb : (!decide (s = t)) = db
  rcases cs.out with ⟨c1, rfl, rfl⟩ | ⟨c1, rfl, rfl, rfl⟩ | ⟨c1, rfl, rfl, rfl⟩
  · obtain rfl : db = true := by rw [← hdb]; simp [c1]
    clear hdb
    have gR := hR.1.all4; have fR := hR.2.all4

    clear hF hV hq c1
    go_wp2
    simp [bodyPost, results, Tryd.results38, go_sem, gR]
    exact ⟨⟨by decide, by decide, by decide, by decide⟩, below_set4 B o3 _ _ _ _⟩
  · obtain rfl : db = false := by rw [← hdb]; simp [c1]
    clear hdb
    subst c1
    have gV := hV.1.cells
    clear hq
    go_wp2_with fail
    with_reducible refine (B1.out _).mono ?_
    rintro e w6 ⟨rfl, hb⟩
    replace B := B.trans (hb.mono B.size)
    replace hR := hR.keep hb; replace hV := hV.keep hb
    clear hb gV hF w5
    have gV := hV.1.cells; have gR := hR.1.all4; have fR := hR.2.all4
    go_wp2
    simp [bodyPost, results, Tryd.results38, go_sem, gR]
    exact below_set4 B o3 _ _ _ _
  · obtain rfl : db = false := by rw [← hdb]; simp [c1]
    clear hdb
    subst c1
    have gV := hV.1.cells
    clear hq
    go_wp2_with fail
    with_reducible refine (B1.out _).mono ?_
    rintro e w6 ⟨rfl, hb⟩
    replace B := B.trans (hb.mono B.size)
    replace hR := hR.keep hb; replace hV := hV.keep hb; replace hF := hF.keep hb
    clear hb gV w5
    have gV := hV.1.cells; have gF := hF.cells
    go_wp2_with fail
    with_reducible refine (S2.out _).mono ?_
    rintro e w7 ⟨rfl, hb⟩
    replace B := B.trans (hb.mono B.size)
    replace hR := hR.keep hb; replace hV := hV.keep hb
    clear hb gV gF hF w6
    have gV := hV.1.cells; have qV := hV.2.all4; have gR := hR.1.all4; have fR := hR.2.all4
    go_wp2
    simp [bodyPost, results, Tryd.results38, go_sem, *]
    repeat (first | with_reducible exact B | with_reducible refine Below.drew ?_ | with_reducible refine Below.setCell ?_ (by with_reducible assumption) _)
end Go.Proofs.YtleneapnjanbbaaDoor

namespace Go.Proofs.YtleneapnjanbbaaDoor
open Go.RowKit Go.Sort

/-- The even one of a root and its opposite. -/
def evenN (r : Int) : Int := if r % 2 = 1 then modN pN (0 - r) else r
/-- What Root answers: number and error. -/
def rootN (x : Int) : Int := if modN pN (powN pN x qN * powN pN x qN) = modN pN x then evenN (powN pN x qN) else 0
def rootE (x : Int) : Int := if modN pN (powN pN x qN * powN pN x qN) = modN pN x then 0 else 41
theorem bit0 (r : Int) : bitN r 0 = r % 2 := by
  unfold bitN
  rw [if_neg (by decide), show (0 : Int).toNat = 0 from rfl]
  simp

theorem Root_any {x : Int} (hx : Num x) (w : World) (hm : Mds w) :
    Calls Tryd.prog 38 #[.agg #[.int .u64 (l0 x), .int .u64 (l1 x), .int .u64 (l2 x), .int .u64 (l3 x)]] w fun e w' => e = .returned (.tuple #[.agg #[.int .u64 (l0 (rootN x)), .int .u64 (l1 (rootN x)), .int .u64 (l2 (rootN x)), .int .u64 (l3 (rootN x))], .int .i64 (rootE x)]) ∧ Below w.heap.size w w' := by
  have nr : Num (powN pN x qN) := powN_Num fit_p x qN
  have na : Num 28948022309329048855892746252171976963317496166410141009864396001977208667915 := ⟨by decide, by decide⟩
  have n1 : Num 1 := ⟨by decide, by decide⟩
  refine Root_walk (a := 28948022309329048855892746252171976963317496166410141009864396001977208667915) (q := qN) (z := carN 28948022309329048855892746252171976963317496166410141009864396001977208667915 1) (r := powN pN x qN) (s := modN pN (powN pN x qN * powN pN x qN)) (t := modN pN x) (b := powN pN x qN % 2) (u := modN pN (0 - powN pN x qN)) rfl rfl ?_ (from_any ⟨by decide, by decide⟩) ?_ (fexp_any fit_p hx ⟨by decide, by decide⟩) (fmul_any fit_p nr nr) (once_any fit_p hx) (modN_Num fit_p _) (modN_Num fit_p _) ?_ ?_ ?_ w hm
  · intro w; have := shr_any (k := 2) fit_p.num w; rw [shr_p2] at this; exact this
  · intro w; have := add_any na n1 w; rw [add_q] at this; exact this
  · intro w; have := bit_any (k := 0) nr w; rw [bit0] at this; exact this
  · intro w
    have := fsub_any (x := 0) fit_p ⟨by decide, by decide⟩ nr w
    obtain ⟨z0, z1, z2, z3⟩ := zero_limbs
    rw [z0, z1, z2, z3] at this
    exact this
  · unfold rootN rootE evenN
    by_cases h : modN pN (powN pN x qN * powN pN x qN) = modN pN x
    · rw [if_pos h, if_pos h]
      rcases Int.emod_two_eq (powN pN x qN) with h2 | h2
      · exact .inr (.inl ⟨h, h2, by rw [if_neg (by omega)], rfl⟩)
      · exact .inr (.inr ⟨h, h2, by rw [if_pos h2], rfl⟩)
    · rw [if_neg h, if_neg h]
      exact .inl ⟨h, rfl, rfl⟩

end Go.Proofs.YtleneapnjanbbaaDoor

namespace Go.Proofs.YtleneapnjanbbaaDoor
open Go.RowKit

theorem even_one {r : Int} (h0 : 0 ≤ r) (h1 : r < pN) : evenN r % 2 = 0 ∧ 0 ≤ evenN r ∧ evenN r < pN ∧ (evenN r = r ∨ evenN r = modN pN (0 - r)) := by
  have po := p_odd
  unfold evenN
  by_cases h : r % 2 = 1
  · rw [if_pos h]
    have e : modN pN (0 - r) = pN - r := by
      unfold modN
      rw [show 0 - r = pN - r + pN * (-1) by omega, Int.add_mul_emod_self_left]
      exact Int.emod_eq_of_lt (by omega) (by omega)
    rw [e]
    exact ⟨by omega, by omega, by omega, .inr rfl⟩
  · rw [if_neg h]
    exact ⟨by omega, h0, h1, .inl rfl⟩
theorem neg_neg' {x : Int} : modN pN (0 - modN pN (0 - x)) = modN pN x := by
  have e := modN_add_r (m := pN) x 0
  unfold modN at *
  rw [Int.sub_emod, Int.emod_emod_of_dvd _ (Int.dvd_refl pN), ← Int.sub_emod]
  congr 1; omega
/-- Two roots of one number. -/
theorem roots_of {r x : Int} (h : modN pN (r * r) = modN pN (x * x)) : modN pN r = modN pN x ∨ modN pN r = modN pN (0 - x) := by
  have e : (r - x) * (r + x) % pN = 0 := by
    have e1 : (r - x) * (r + x) = r * r - x * x := by rw [Int.sub_mul, Int.mul_add, Int.mul_add, Int.mul_comm x r]; omega
    unfold modN at h
    rw [e1, Int.sub_emod, h, Int.sub_self]; rfl
  rcases prm_p.zero e with h1 | h1
  · exact .inl (Int.emod_eq_emod_iff_emod_sub_eq_zero.2 h1)
  · refine .inr (Int.emod_eq_emod_iff_emod_sub_eq_zero.2 ?_)
    rw [← h1]; congr 1; omega
theorem square_root {x : Int} (x0 : 0 ≤ x) : modN pN (powN pN (modN pN (x * x)) qN * powN pN (modN pN (x * x)) qN) = modN pN (modN pN (x * x)) := by
  have v0 := (modN_lt fit_p (x * x)).1
  rw [root_is v0]
  by_cases hz : modN pN x = 0
  · left
    rw [modN_mod, ← modN_mul_l, hz, Int.zero_mul]; rfl
  · right
    unfold eulN
    rw [powN_mod, powN_times, powN_mul pN x (by decide) (by decide), show hN + hN = pN - 1 by decide, powN_fermat prm_p x0 hz]
/-- The root of a square is the number or its opposite. -/
theorem square_is {x : Int} (x0 : 0 ≤ x) : rootE (modN pN (x * x)) = 0 ∧ (rootN (modN pN (x * x)) = modN pN x ∨ modN pN (0 - rootN (modN pN (x * x))) = modN pN x) ∧ rootN (modN pN (x * x)) % 2 = 0 ∧ 0 ≤ rootN (modN pN (x * x)) ∧ rootN (modN pN (x * x)) < pN := by
  have h := square_root x0
  unfold rootE rootN
  rw [if_pos h, if_pos h]
  rw [modN_mod] at h
  obtain ⟨r0, r1⟩ := powN_lt fit_p (modN pN (x * x)) qN
  obtain ⟨e0, e1, e2, e3⟩ := even_one r0 r1
  refine ⟨rfl, ?_, e0, e1, e2⟩
  have k := roots_of h
  rw [modN_of_lt r0 r1] at k
  generalize powN pN (modN pN (x * x)) qN = R at *
  rcases k with k | k <;> rcases e3 with e3 | e3
  · left; rw [e3, k]
  · right; rw [e3, k, neg_neg', modN_mod]
  · right; rw [e3, k, neg_neg']
  · left; rw [e3, k, neg_neg']
theorem root_back {x : Int} (h : modN pN (powN pN x qN * powN pN x qN) = modN pN x) : modN pN (rootN x * rootN x) = modN pN x := by
  unfold rootN
  rw [if_pos h]
  obtain ⟨r0, r1⟩ := powN_lt fit_p x qN
  obtain ⟨_, _, _, e3⟩ := even_one r0 r1
  rcases e3 with e3 | e3
  · rw [e3]; exact h
  · rw [e3, modN_mul_l, modN_mul_r, show (0 - powN pN x qN) * (0 - powN pN x qN) = powN pN x qN * powN pN x qN by rw [Int.zero_sub, Int.neg_mul_neg]]
    exact h
end Go.Proofs.YtleneapnjanbbaaDoor

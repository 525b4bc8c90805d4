import Derived.Test.YtfpiopjlcjckeabDoorFRootAny
import Derived.Test.YtfpiopjlcjckeabDoorFRRoot
namespace Go.Proofs.YtfpiopjlcjckeabDoor
open Go.RowKit Go.Sort

theorem odd_limb {r : Int} (h : Num r) : (l0 r).tmod 2 = r % 2 := by
  obtain ⟨a, b⟩ := h
  rw [Int.tmod_eq_emod_of_nonneg (by unfold l0; omega)]
  unfold l0; omega

theorem rRoot_any {x : Int} (hx : Num x) (w : World) :
    Calls Tryd.prog 24 #[.agg #[.int .u64 (l0 x), .int .u64 (l1 x), .int .u64 (l2 x), .int .u64 (l3 x)]] w fun e w' => e = .returned (.tuple #[.agg #[.int .u64 (l0 (rootN x)), .int .u64 (l1 (rootN x)), .int .u64 (l2 (rootN x)), .int .u64 (l3 (rootN x))], .int .i64 (rootE x)]) ∧ Below w.heap.size w w' := by
  have nr : Num (powN pN x qN) := powN_Num fit_p x qN
  have n1 : Num 1 := ⟨by decide, by decide⟩
  have np : Num (pN + 1) := ⟨by decide, by decide⟩
  refine rRoot_walk (m := pN) (q := pN + 1) (z := carN pN 1) (g := qN) (r := powN pN x qN) (s := modN pN (powN pN x qN * powN pN x qN)) (t := modN pN x) (u := modN pN (0 - powN pN x qN)) (rmodulus_any 0) (rfrom_any ⟨by decide, by decide⟩) ?_ ?_ (rpower_any (k := 0) hx ⟨by decide, by decide⟩) (rtimes_any (k := 0) nr nr) (rbelow_any (k := 0) hx) (modN_Num fit_p _) (modN_Num fit_p _) (rless_any (k := 0) nr) ?_ w
  · intro w; have := radd_any fit_p.num n1 w; rw [add_p] at this; exact this
  · intro w; have := rshr_any (k := 2) np w; rw [shr_q2] at this; exact this
  · unfold rootN rootE evenN
    rw [odd_limb nr]
    by_cases h : modN pN (powN pN x qN * powN pN x qN) = modN pN x
    · rw [if_pos h, if_pos h]
      rcases Int.emod_two_eq (powN pN x qN) with h2 | h2
      · exact .inr (.inl ⟨h, by rw [h2]; rfl, by rw [if_neg (by omega)], rfl⟩)
      · exact .inr (.inr ⟨h, by rw [h2]; rfl, by rw [if_pos h2], rfl⟩)
    · rw [if_neg h, if_neg h]
      exact .inl ⟨h, rfl, rfl⟩

theorem rResidue_any {x : Int} (hx : Num x) (w : World) :
    Calls Tryd.prog 26 #[.agg #[.int .u64 (l0 x), .int .u64 (l1 x), .int .u64 (l2 x), .int .u64 (l3 x)]] w fun e w' => e = .returned (.int .i64 (resN x)) ∧ Below w.heap.size w w' := by
  refine rResidue_walk (t := modN pN x) (ra := rootN x) (re := rootE x) (rbelow_any (k := 0) hx) (modN_Num fit_p _) (rRoot_any hx) ?_ w
  have ri := root_is hx.1
  unfold resN rootE
  by_cases hz : modN pN x = 0
  · rw [eul_none hz]; exact .inl ⟨hz, rfl⟩
  · rcases eul_some hx.1 hz with h | h
    · rw [if_pos (ri.2 (.inr h)), h]
      exact .inr (.inr ⟨hz, rfl, rfl⟩)
    · have hn : ¬ modN pN (powN pN x qN * powN pN x qN) = modN pN x := by
        rw [ri, h]
        rintro (h2 | h2)
        · exact hz h2
        · exact absurd h2 (by decide)
      rw [if_neg hn, h]
      exact .inr (.inl ⟨hz, rfl, by decide⟩)

theorem fnum_any (v : Int) (w : World) : Calls Tryd.prog 9 #[.int .i64 v] w fun e w' => e = .returned (.int .i64 v) ∧ Below w.heap.size w w' := by
  go_enter Tryd.func9, Tryd.ntmps9
  go_wp2
  simp [bodyPost, results, Tryd.results9, go_sem]
  repeat (first | with_reducible exact Below.refl _ _ | with_reducible refine Below.drew ?_ | with_reducible refine Below.alloc ?_ (by first | omega | (simp; done) | (simp; omega)) _)

set_option maxRecDepth 100000 in
set_option maxHeartbeats 8000000 in
theorem froots_walk {x r e0 s : Int} (O0 : Hid (∀ w, Mds w → Calls Tryd.prog 23 #[.agg #[.int .u64 (l0 x), .int .u64 (l1 x), .int .u64 (l2 x), .int .u64 (l3 x)]] w fun e w' => e = .returned (.tuple #[.agg #[.int .u64 (l0 r), .int .u64 (l1 r), .int .u64 (l2 r), .int .u64 (l3 r)], .int .i64 e0]) ∧ Below w.heap.size w w')) (R0 : Hid (∀ w, Calls Tryd.prog 24 #[.agg #[.int .u64 (l0 x), .int .u64 (l1 x), .int .u64 (l2 x), .int .u64 (l3 x)]] w fun e w' => e = .returned (.tuple #[.agg #[.int .u64 (l0 r), .int .u64 (l1 r), .int .u64 (l2 r), .int .u64 (l3 r)], .int .i64 e0]) ∧ Below w.heap.size w w'))
    (O1 : Hid (∀ w, Mds w → Calls Tryd.prog 25 #[.agg #[.int .u64 (l0 x), .int .u64 (l1 x), .int .u64 (l2 x), .int .u64 (l3 x)]] w fun e w' => e = .returned (.int .i64 s) ∧ Below w.heap.size w w')) (R1 : Hid (∀ w, Calls Tryd.prog 26 #[.agg #[.int .u64 (l0 x), .int .u64 (l1 x), .int .u64 (l2 x), .int .u64 (l3 x)]] w fun e w' => e = .returned (.int .i64 s) ∧ Below w.heap.size w w')) (w : World) (hm : Mds w) :
    Calls Tryd.prog 6 #[.agg #[.int .u64 (l0 x), .int .u64 (l1 x), .int .u64 (l2 x), .int .u64 (l3 x)]] w fun e w' => e = .returned (.bool true) ∧ Below w.heap.size w w' := by
  have ey : ∀ n w, (Op.equalIn 10000 24 (.agg #[.int .u64 (l0 n), .int .u64 (l1 n), .int .u64 (l2 n), .int .u64 (l3 n)]) (.agg #[.int .u64 (l0 n), .int .u64 (l1 n), .int .u64 (l2 n), .int .u64 (l3 n)])).run Tryd.prog w = .ok true w := fun n w => eq_yes w
  have nm : Hid (∀ v w, Calls Tryd.prog 9 #[.int .i64 v] w fun e w' => e = .returned (.int .i64 v) ∧ Below w.heap.size w w') := fnum_any
  go_enter Tryd.func6, Tryd.ntmps6
  go_wp2_with fail
  refine calls_world (fun W => Below w.heap.size w W ∧ Mds W ∧ Hold W w.heap.size x) ⟨by repeat (first | with_reducible exact Below.refl _ _ | with_reducible refine Below.alloc ?_ (by first | omega | (simp; done) | (simp; omega)) _), hm.alloc _, Hold.fresh (by simp)⟩ ?_
  rintro W ⟨B, hD, hX⟩
  with_reducible refine (O0.out _ hD).mono ?_
  rintro e w1 ⟨rfl, hb⟩
  replace B := B.trans (hb.mono B.size)
  replace hD := hD.keep hb; replace hX := hX.keep hb
  clear hb W
  have ghX := hX.allocs
  go_wp2_with fail
  refine calls_world (fun W => Below w.heap.size w W ∧ Mds W ∧ Hold W w.heap.size x ∧ Hold W w1.heap.size r) ⟨B.alloc B.size _, hD.alloc _, hX.alloc _, Hold.new _ _ _⟩ ?_
  clear B hD hX ghX
  rintro W ⟨B, hD, hX, hA⟩
  generalize w1.heap.size = ba at *
  with_reducible refine (R0.out _).mono ?_
  rintro e w2 ⟨rfl, hb⟩
  replace B := B.trans (hb.mono B.size)
  replace hD := hD.keep hb; replace hX := hX.keep hb; replace hA := hA.keep hb
  clear hb W
  go_wp2_with fail
  refine wp_world (fun W => Below w.heap.size w W ∧ Mds W ∧ Hold W w.heap.size x ∧ Hold W ba r ∧ Hold W w2.heap.size r) ⟨B.alloc B.size _, hD.alloc _, hX.alloc _, hA.alloc _, Hold.new _ _ _⟩ ?_
  clear B hD hX hA 
  rintro W ⟨B, hD, hX, hA, hB⟩
  generalize w2.heap.size = bb at *
  have gX := hX.grown; have gA := hA.grown; have gB := hB.grown
  have hDg : ∀ d os, Mds (grow (redrawn W d) os) := fun d os => hD.keep (below_regrown W d os)
  refine wp_region_quiet_below (by kernel_rfl) (by kernel_rfl) ?_
  repeat
    first
      | go_big_quiet_skip
      | (go_big_quiet_want; go_big_quiet_op; go_big_quiet_on)
      | (go_big_quiet_want
         go_big_quiet_op
         apply Exists.intro
         refine ⟨fun p => ?_, ?_⟩
         · (first | (go_at_call 9; with_reducible exact Calls.regrown_of (nm.out _ _)) | (go_at_call 25; with_reducible exact Calls.regrown_of (O1.out _ (hDg p.d p.os))) | (go_at_call 26; with_reducible exact Calls.regrown_of (R1.out _)))
         go_big_quiet_on)
  refine wpQuiet_nil ?_
  rintro w9 ⟨p, rfl⟩
  have hb := below_regrown W p.d p.os
  generalize grow (redrawn W p.d) p.os = w9 at *
  replace B := B.trans (hb.mono B.size)
  clear hb hD hX hA hB gX gA gB hDg W
  go_wp2
  simp [bodyPost, results, Tryd.results6, go_sem]
  exact B

theorem froots_any {x : Int} (hx : Num x) (w : World) (hm : Mds w) :
    Calls Tryd.prog 6 #[.agg #[.int .u64 (l0 x), .int .u64 (l1 x), .int .u64 (l2 x), .int .u64 (l3 x)]] w fun e w' => e = .returned (.bool true) ∧ Below w.heap.size w w' :=
  froots_walk (fun w h => Root_any hx w h) (rRoot_any hx) (fun w h => Residue_any hx w h) (rResidue_any hx) w hm
end Go.Proofs.YtfpiopjlcjckeabDoor

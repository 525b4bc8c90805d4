import Derived.Test.YtbcjikoajjhfaaaDoorFRefX
import Derived.Test.YtbcjikoajjhfaaaDoorFExp
import Derived.Test.YtbcjikoajjhfaaaDoorRefShl
namespace Go.Proofs.YtbcjikoajjhfaaaDoor
open Go.RowKit Go.Sort

theorem carN_wordF {n m : Int} (hn : Num n) (hm : Num m) : Word (carN n m) := by
  obtain ⟨_, _⟩ := hn; obtain ⟨_, _⟩ := hm
  unfold carN Word
  omega
theorem wide_sum (x y : Int) : wideN (carN x y) (sumN x y) = x + y := by unfold wideN carN sumN; omega

theorem less_num {m c x : Int} (hf : Fit m c) : difN m (modN m x) = m - modN m x ∧ Num (m - modN m x) ∧ modN m (m - modN m x) = modN m (0 - x) := by
  obtain ⟨a0, a1⟩ := modN_lt hf x
  obtain ⟨h1, h2, h3⟩ := hf
  refine ⟨by unfold difN; omega, ⟨by omega, by omega⟩, ?_⟩
  unfold modN at *
  rw [Int.sub_emod, Int.emod_self, Int.emod_emod_of_dvd _ (Int.dvd_refl m), Int.sub_emod 0 x, Int.zero_emod]
set_option maxHeartbeats 2000000 in
theorem rModulus_good {k : Int} (hk : k = 0 ∨ k = 1) (w : World) :
    Calls Tryd.prog 97 #[.int .i64 k] w fun e w' => e = .returned (.tuple #[.agg #[.int .u64 (l0 (rM k)), .int .u64 (l1 (rM k)), .int .u64 (l2 (rM k)), .int .u64 (l3 (rM k))], .int .i64 0]) ∧ Below w.heap.size w w' := by
  have G : Hid (∀ w, Calls Tryd.prog 108 #[.int .i64 k] w fun e w' => e = .returned (.bool true) ∧ Below w.heap.size w w') := rgood_yes hk
  have C : Hid (∀ w, Calls Tryd.prog 109 #[.int .i64 k] w fun e w' => e = .returned (.agg #[.int .u64 (l0 (rM k)), .int .u64 (l1 (rM k)), .int .u64 (l2 (rM k)), .int .u64 (l3 (rM k))]) ∧ Below w.heap.size w w') := rmodulus_any k
  generalize rM k = r at *
  clear hk
  go_enter Tryd.func97, Tryd.ntmps97
  go_wp2_with fail
  refine calls_world (fun W => Below w.heap.size w W ∧ Blank W w.heap.size) ⟨by repeat (first | with_reducible exact Below.refl _ _ | with_reducible refine Below.alloc ?_ (by first | omega | (simp; done) | (simp; omega)) _), Blank.new (by simp)⟩ ?_
  rintro W ⟨B, hR⟩
  have o3 : w.heap.size ≤ w.heap.size := by omega
  with_reducible refine (G.out _).mono ?_
  rintro e w1 ⟨rfl, hb⟩
  replace B := B.trans (hb.mono B.size)
  replace hR := hR.keep hb
  clear hb W
  go_wp2_with fail
  with_reducible refine (C.out _).mono ?_
  rintro e w2 ⟨rfl, hb⟩
  replace B := B.trans (hb.mono B.size)
  replace hR := hR.keep hb
  clear hb w1
  have gR := hR.1.all4; have fR := hR.2.all4
  go_wp2
  simp [bodyPost, results, Tryd.results97, go_sem, gR]
  exact below_set4 B o3 _ _ _ _

set_option maxHeartbeats 2000000 in
theorem rModulus_bad {k : Int} (h0 : k ≠ 0) (h1 : k ≠ 1) (w : World) :
    Calls Tryd.prog 97 #[.int .i64 k] w fun e w' => e = .returned (.tuple #[.agg #[.int .u64 (l0 0), .int .u64 (l1 0), .int .u64 (l2 0), .int .u64 (l3 0)], .int .i64 1]) ∧ Below w.heap.size w w' := by
  have G : Hid (∀ w, Calls Tryd.prog 108 #[.int .i64 k] w fun e w' => e = .returned (.bool false) ∧ Below w.heap.size w w') := rgood_no h0 h1
  obtain ⟨z0, z1, z2, z3⟩ := zero_limbs
  rw [z0, z1, z2, z3]
  clear h0 h1 z0 z1 z2 z3
  go_enter Tryd.func97, Tryd.ntmps97
  go_wp2_with fail
  refine calls_world (fun W => Below w.heap.size w W ∧ Blank W (w.heap.size)) ⟨by repeat (first | with_reducible exact Below.refl _ _ | with_reducible refine Below.alloc ?_ (by first | omega | (simp; done) | (simp; omega)) _), Blank.new (by simp)⟩ ?_
  rintro W ⟨B, hR⟩
  have o3 : w.heap.size ≤ w.heap.size := by omega
  with_reducible refine (G.out _).mono ?_
  rintro e w1 ⟨rfl, hb⟩
  replace B := B.trans (hb.mono B.size)
  replace hR := hR.keep hb
  clear hb W
  have gR := hR.1.all4; have fR := hR.2.all4
  go_wp2
  simp [bodyPost, results, Tryd.results97, go_sem, gR]
  exact below_set4 B o3 _ _ _ _

theorem sub_num' {m c : Int} (_hf : Fit m c) (x y : Int) : modN m (x + modN m (0 - y)) = modN m (x - y) := by
  unfold modN
  rw [Int.add_emod, Int.emod_emod_of_dvd _ (Int.dvd_refl m), ← Int.add_emod]
  congr 1; omega
end Go.Proofs.YtbcjikoajjhfaaaDoor

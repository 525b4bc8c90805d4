import Derived.Test.YtfhakamheidcnaaDoorFBin
import Derived.Test.YtfhakamheidcnaaDoorFRef
import Derived.Test.YtfhakamheidcnaaDoorFExp
import Derived.Test.YtfhakamheidcnaaDoorDivAny
namespace Go.Proofs.YtfhakamheidcnaaDoor
open Go.RowKit Go.Sort

/-- The inverse by Fermat. -/
def invN (m x : Int) : Int := powN m x (m - 2)
end Go.Proofs.YtfhakamheidcnaaDoor

namespace Go.Proofs.YtfhakamheidcnaaDoor
open Go.RowKit Go.Sort

set_option maxHeartbeats 1000000 in
theorem rgood_yes {k : Int} (hk : k = 0 ∨ k = 1) (w : World) : Calls Tryd.prog 34 #[.int .i64 k] w fun e w' => e = .returned (.bool true) ∧ Below w.heap.size w w' := by
  rcases hk with rfl | rfl
  · skip
    go_enter Tryd.func34, Tryd.ntmps34
    go_wp2
    simp [bodyPost, results, Tryd.results34, go_sem]
    repeat (first | with_reducible exact Below.refl _ _ | with_reducible refine Below.drew ?_ | with_reducible refine Below.alloc ?_ (by first | omega | (simp; done) | (simp; omega)) _ | with_reducible refine Below.setCell ?_ (by first | omega | (simp; done)) _)
  · skip
    go_enter Tryd.func34, Tryd.ntmps34
    go_wp2
    simp [bodyPost, results, Tryd.results34, go_sem]
    repeat (first | with_reducible exact Below.refl _ _ | with_reducible refine Below.drew ?_ | with_reducible refine Below.alloc ?_ (by first | omega | (simp; done) | (simp; omega)) _ | with_reducible refine Below.setCell ?_ (by first | omega | (simp; done)) _)

set_option maxHeartbeats 2000000 in
theorem rtimes_any {k x y : Int} (hx : Num x) (hy : Num y) (w : World) :
    Calls Tryd.prog 36 #[.int .i64 k, .agg #[.int .u64 (l0 x), .int .u64 (l1 x), .int .u64 (l2 x), .int .u64 (l3 x)], .agg #[.int .u64 (l0 y), .int .u64 (l1 y), .int .u64 (l2 y), .int .u64 (l3 y)]] w fun e w' => e = .returned (.agg #[.int .u64 (l0 (modN (rM k) (x * y))), .int .u64 (l1 (modN (rM k) (x * y))), .int .u64 (l2 (modN (rM k) (x * y))), .int .u64 (l3 (modN (rM k) (x * y)))]) ∧ Below w.heap.size w w' := by
  have M1 : Hid (∀ w, Calls Tryd.prog 42 #[.agg #[.int .u64 (l0 x), .int .u64 (l1 x), .int .u64 (l2 x), .int .u64 (l3 x)], .agg #[.int .u64 (l0 y), .int .u64 (l1 y), .int .u64 (l2 y), .int .u64 (l3 y)]] w fun e w' => e = .returned (.tuple #[.agg #[.int .u64 (l0 (hiN x y)), .int .u64 (l1 (hiN x y)), .int .u64 (l2 (hiN x y)), .int .u64 (l3 (hiN x y))], .agg #[.int .u64 (l0 (loN x y)), .int .u64 (l1 (loN x y)), .int .u64 (l2 (loN x y)), .int .u64 (l3 (loN x y))]]) ∧ Below w.heap.size w w') := rmul_any hx hy
  have R1 : Hid (∀ w, Calls Tryd.prog 43 #[.int .i64 k, .agg #[.int .u64 (l0 (hiN x y)), .int .u64 (l1 (hiN x y)), .int .u64 (l2 (hiN x y)), .int .u64 (l3 (hiN x y))], .agg #[.int .u64 (l0 (loN x y)), .int .u64 (l1 (loN x y)), .int .u64 (l2 (loN x y)), .int .u64 (l3 (loN x y))]] w fun e w' => e = .returned (.agg #[.int .u64 (l0 (modN (rM k) (x * y))), .int .u64 (l1 (modN (rM k) (x * y))), .int .u64 (l2 (modN (rM k) (x * y))), .int .u64 (l3 (modN (rM k) (x * y)))]) ∧ Below w.heap.size w w') := fun w => by
    have := rfold_any (k := k) (hiN_Num hx hy) (loN_Num x y) w; rw [wide_mul] at this; exact this
  generalize modN (rM k) (x * y) = R at *
  generalize hiN x y = H at *
  generalize loN x y = L at *
  go_enter Tryd.func36, Tryd.ntmps36
  go_wp2_with fail
  refine calls_world (fun W => Below w.heap.size w W ∧ Blank W (w.heap.size + 1 + 1)) ⟨by repeat (first | with_reducible exact Below.refl _ _ | with_reducible refine Below.alloc ?_ (by first | omega | (simp; done) | (simp; omega)) _), Blank.new (by simp)⟩ ?_
  rintro W ⟨B, hR⟩
  have o3 : w.heap.size ≤ w.heap.size + 1 + 1 := by omega
  generalize w.heap.size + 1 + 1 = br at *
  with_reducible refine (M1.out _).mono ?_
  rintro e w1 ⟨rfl, hb⟩
  replace B := B.trans (hb.mono B.size)
  replace hR := hR.keep hb
  clear hb W
  go_wp2_with fail
  refine calls_world (fun W => Below w.heap.size w W ∧ Blank W br) ⟨(B.alloc B.size _).alloc (by have := B.size; simp; omega) _, (hR.alloc _).alloc _⟩ ?_
  clear B hR
  rintro W ⟨B, hR⟩
  with_reducible refine (R1.out _).mono ?_
  rintro e w2 ⟨rfl, hb⟩
  replace B := B.trans (hb.mono B.size)
  replace hR := hR.keep hb
  clear hb W
  have gR := hR.1.all4; have fR := hR.2.all4
  go_wp2
  simp [bodyPost, results, Tryd.results36, go_sem, gR]
  exact below_set4 B o3 _ _ _ _

set_option maxHeartbeats 2000000 in
theorem rMul_good {k x y : Int} (hk : k = 0 ∨ k = 1) (hx : Num x) (hy : Num y) (w : World) :
    Calls Tryd.prog 26 #[.int .i64 k, .agg #[.int .u64 (l0 x), .int .u64 (l1 x), .int .u64 (l2 x), .int .u64 (l3 x)], .agg #[.int .u64 (l0 y), .int .u64 (l1 y), .int .u64 (l2 y), .int .u64 (l3 y)]] w fun e w' => e = .returned (.tuple #[.agg #[.int .u64 (l0 (modN (rM k) (x * y))), .int .u64 (l1 (modN (rM k) (x * y))), .int .u64 (l2 (modN (rM k) (x * y))), .int .u64 (l3 (modN (rM k) (x * y)))], .int .i64 0]) ∧ Below w.heap.size w w' := by
  have G : Hid (∀ w, Calls Tryd.prog 34 #[.int .i64 k] w fun e w' => e = .returned (.bool true) ∧ Below w.heap.size w w') := rgood_yes hk
  have C : Hid (∀ w, Calls Tryd.prog 36 #[.int .i64 k, .agg #[.int .u64 (l0 x), .int .u64 (l1 x), .int .u64 (l2 x), .int .u64 (l3 x)], .agg #[.int .u64 (l0 y), .int .u64 (l1 y), .int .u64 (l2 y), .int .u64 (l3 y)]] w fun e w' => e = .returned (.agg #[.int .u64 (l0 (modN (rM k) (x * y))), .int .u64 (l1 (modN (rM k) (x * y))), .int .u64 (l2 (modN (rM k) (x * y))), .int .u64 (l3 (modN (rM k) (x * y)))]) ∧ Below w.heap.size w w') := rtimes_any hx hy
  generalize (modN (rM k) (x * y)) = r at *
  clear hk
  go_enter Tryd.func26, Tryd.ntmps26
  go_wp2_with fail
  refine calls_world (fun W => Below w.heap.size w W ∧ Hold W (w.heap.size) x ∧ Hold W (w.heap.size + 1) y ∧ Blank W (w.heap.size + 1 + 1)) ⟨by repeat (first | with_reducible exact Below.refl _ _ | with_reducible refine Below.alloc ?_ (by first | omega | (simp; done) | (simp; omega)) _), ((Hold.fresh (by simp)).alloc _).alloc _, (Hold.fresh (by simp)).alloc _, Blank.new (by simp)⟩ ?_
  rintro W ⟨B, hX, hY, hR⟩
  have o3 : w.heap.size ≤ w.heap.size + 1 + 1 := by omega
  generalize w.heap.size + 1 + 1 = br at *
  generalize w.heap.size + 1 = bw at *
  with_reducible refine (G.out _).mono ?_
  rintro e w1 ⟨rfl, hb⟩
  replace B := B.trans (hb.mono B.size)
  replace hX := hX.keep hb; replace hY := hY.keep hb; replace hR := hR.keep hb
  clear hb W
  have gX := hX.cells
  have gY := hY.cells
  go_wp2_with fail
  with_reducible refine (C.out _).mono ?_
  rintro e w2 ⟨rfl, hb⟩
  replace B := B.trans (hb.mono B.size)
  replace hR := hR.keep hb
  clear hb hX hY gX gY w1
  have gR := hR.1.all4; have fR := hR.2.all4
  go_wp2
  simp [bodyPost, results, Tryd.results26, go_sem, gR]
  exact below_set4 B o3 _ _ _ _

end Go.Proofs.YtfhakamheidcnaaDoor

namespace Go.Proofs.YtfhakamheidcnaaDoor
open Go.RowKit Go.Sort

theorem carN_wordF {n m : Int} (hn : Num n) (hm : Num m) : Word (carN n m) := by
  obtain ⟨_, _⟩ := hn; obtain ⟨_, _⟩ := hm
  unfold carN Word
  omega
theorem wide_sum (x y : Int) : wideN (carN x y) (sumN x y) = x + y := by unfold wideN carN sumN; omega

set_option maxHeartbeats 2000000 in
theorem rplus_any {k x y : Int} (hx : Num x) (hy : Num y) (w : World) :
    Calls Tryd.prog 44 #[.int .i64 k, .agg #[.int .u64 (l0 x), .int .u64 (l1 x), .int .u64 (l2 x), .int .u64 (l3 x)], .agg #[.int .u64 (l0 y), .int .u64 (l1 y), .int .u64 (l2 y), .int .u64 (l3 y)]] w fun e w' => e = .returned (.agg #[.int .u64 (l0 (modN (rM k) (x + y))), .int .u64 (l1 (modN (rM k) (x + y))), .int .u64 (l2 (modN (rM k) (x + y))), .int .u64 (l3 (modN (rM k) (x + y)))]) ∧ Below w.heap.size w w' := by
  have wc := carN_wordF hx hy
  have nc : Num (carN x y) := by obtain ⟨a, b⟩ := wc; exact ⟨a, by omega⟩
  have A1 : Hid (∀ w, Calls Tryd.prog 51 #[.agg #[.int .u64 (l0 x), .int .u64 (l1 x), .int .u64 (l2 x), .int .u64 (l3 x)], .agg #[.int .u64 (l0 y), .int .u64 (l1 y), .int .u64 (l2 y), .int .u64 (l3 y)]] w fun e w' => e = .returned (.tuple #[.agg #[.int .u64 (l0 (sumN x y)), .int .u64 (l1 (sumN x y)), .int .u64 (l2 (sumN x y)), .int .u64 (l3 (sumN x y))], .int .u64 (carN x y)]) ∧ Below w.heap.size w w') := radd_any hx hy
  have F1 : Hid (∀ w, Calls Tryd.prog 28 #[.int .u64 (carN x y)] w fun e w' => e = .returned (.agg #[.int .u64 (l0 (carN x y)), .int .u64 (l1 (carN x y)), .int .u64 (l2 (carN x y)), .int .u64 (l3 (carN x y))]) ∧ Below w.heap.size w w') := rfrom_any wc
  have R1 : Hid (∀ w, Calls Tryd.prog 43 #[.int .i64 k, .agg #[.int .u64 (l0 (carN x y)), .int .u64 (l1 (carN x y)), .int .u64 (l2 (carN x y)), .int .u64 (l3 (carN x y))], .agg #[.int .u64 (l0 (sumN x y)), .int .u64 (l1 (sumN x y)), .int .u64 (l2 (sumN x y)), .int .u64 (l3 (sumN x y))]] w fun e w' => e = .returned (.agg #[.int .u64 (l0 (modN (rM k) (x + y))), .int .u64 (l1 (modN (rM k) (x + y))), .int .u64 (l2 (modN (rM k) (x + y))), .int .u64 (l3 (modN (rM k) (x + y)))]) ∧ Below w.heap.size w w') := fun w => by
    have := rfold_any (k := k) nc (sumN_Num x y) w; rw [wide_sum] at this; exact this
  clear wc nc
  generalize modN (rM k) (x + y) = R at *
  generalize carN x y = C at *
  generalize sumN x y = S at *
  go_enter Tryd.func44, Tryd.ntmps44
  go_wp2_with fail
  refine calls_world (fun W => Below w.heap.size w W ∧ Blank W (w.heap.size + 1 + 1)) ⟨by repeat (first | with_reducible exact Below.refl _ _ | with_reducible refine Below.alloc ?_ (by first | omega | (simp; done) | (simp; omega)) _), Blank.new (by simp)⟩ ?_
  rintro W ⟨B, hR⟩
  have o3 : w.heap.size ≤ w.heap.size + 1 + 1 := by omega
  generalize w.heap.size + 1 + 1 = br at *
  with_reducible refine (A1.out _).mono ?_
  rintro e w1 ⟨rfl, hb⟩
  replace B := B.trans (hb.mono B.size)
  replace hR := hR.keep hb
  clear hb W
  go_wp2_with fail
  refine wp_world (fun W => Below w.heap.size w W ∧ Blank W br ∧ Hold W w1.heap.size S) ⟨B.alloc B.size _, hR.alloc _, Hold.new _ _ _⟩ ?_
  clear B hR
  rintro W ⟨B, hR, hS⟩
  generalize w1.heap.size = bs at *
  have gS := hS.grown
  refine below_tail 5 (by kernel_rfl) (by kernel_rfl) ?_
  simp only [List.take_succ_cons, List.take_zero, List.drop_succ_cons, List.drop_zero]
  repeat
    first
      | go_big_quiet_skip
      | (go_big_quiet_want; go_big_quiet_op; go_big_quiet_on)
      | (go_big_quiet_want
         go_big_quiet_op
         apply Exists.intro
         refine ⟨fun p => ?_, ?_⟩
         · (first | (go_at_call 28; with_reducible exact Calls.regrown_of (F1.out _)) | (go_at_call 43; with_reducible exact Calls.regrown_of (R1.out _)))
         go_big_quiet_on)
  refine wpQuiet_nil ?_
  rintro w2 ⟨p, rfl⟩
  have hb := below_regrown W p.d p.os
  generalize grow (redrawn W p.d) p.os = w2 at *
  replace B := B.trans (hb.mono B.size)
  replace hR := hR.keep hb
  clear hb hS gS W
  have gR := hR.1.all4; have fR := hR.2.all4
  go_wp2
  simp [bodyPost, results, Tryd.results44, go_sem, gR]
  exact below_set4 B o3 _ _ _ _

set_option maxHeartbeats 2000000 in
theorem rAdd_good {k x y : Int} (hk : k = 0 ∨ k = 1) (hx : Num x) (hy : Num y) (w : World) :
    Calls Tryd.prog 37 #[.int .i64 k, .agg #[.int .u64 (l0 x), .int .u64 (l1 x), .int .u64 (l2 x), .int .u64 (l3 x)], .agg #[.int .u64 (l0 y), .int .u64 (l1 y), .int .u64 (l2 y), .int .u64 (l3 y)]] w fun e w' => e = .returned (.tuple #[.agg #[.int .u64 (l0 (modN (rM k) (x + y))), .int .u64 (l1 (modN (rM k) (x + y))), .int .u64 (l2 (modN (rM k) (x + y))), .int .u64 (l3 (modN (rM k) (x + y)))], .int .i64 0]) ∧ Below w.heap.size w w' := by
  have G : Hid (∀ w, Calls Tryd.prog 34 #[.int .i64 k] w fun e w' => e = .returned (.bool true) ∧ Below w.heap.size w w') := rgood_yes hk
  have C : Hid (∀ w, Calls Tryd.prog 44 #[.int .i64 k, .agg #[.int .u64 (l0 x), .int .u64 (l1 x), .int .u64 (l2 x), .int .u64 (l3 x)], .agg #[.int .u64 (l0 y), .int .u64 (l1 y), .int .u64 (l2 y), .int .u64 (l3 y)]] w fun e w' => e = .returned (.agg #[.int .u64 (l0 (modN (rM k) (x + y))), .int .u64 (l1 (modN (rM k) (x + y))), .int .u64 (l2 (modN (rM k) (x + y))), .int .u64 (l3 (modN (rM k) (x + y)))]) ∧ Below w.heap.size w w') := rplus_any hx hy
  generalize (modN (rM k) (x + y)) = r at *
  clear hk
  go_enter Tryd.func37, Tryd.ntmps37
  go_wp2_with fail
  refine calls_world (fun W => Below w.heap.size w W ∧ Hold W (w.heap.size) x ∧ Hold W (w.heap.size + 1) y ∧ Blank W (w.heap.size + 1 + 1)) ⟨by repeat (first | with_reducible exact Below.refl _ _ | with_reducible refine Below.alloc ?_ (by first | omega | (simp; done) | (simp; omega)) _), ((Hold.fresh (by simp)).alloc _).alloc _, (Hold.fresh (by simp)).alloc _, Blank.new (by simp)⟩ ?_
  rintro W ⟨B, hX, hY, hR⟩
  have o3 : w.heap.size ≤ w.heap.size + 1 + 1 := by omega
  generalize w.heap.size + 1 + 1 = br at *
  generalize w.heap.size + 1 = bw at *
  with_reducible refine (G.out _).mono ?_
  rintro e w1 ⟨rfl, hb⟩
  replace B := B.trans (hb.mono B.size)
  replace hX := hX.keep hb; replace hY := hY.keep hb; replace hR := hR.keep hb
  clear hb W
  have gX := hX.cells
  have gY := hY.cells
  go_wp2_with fail
  with_reducible refine (C.out _).mono ?_
  rintro e w2 ⟨rfl, hb⟩
  replace B := B.trans (hb.mono B.size)
  replace hR := hR.keep hb
  clear hb hX hY gX gY w1
  have gR := hR.1.all4; have fR := hR.2.all4
  go_wp2
  simp [bodyPost, results, Tryd.results37, go_sem, gR]
  exact below_set4 B o3 _ _ _ _

set_option maxHeartbeats 2000000 in
theorem rModulus_good {k : Int} (hk : k = 0 ∨ k = 1) (w : World) :
    Calls Tryd.prog 24 #[.int .i64 k] w fun e w' => e = .returned (.tuple #[.agg #[.int .u64 (l0 (rM k)), .int .u64 (l1 (rM k)), .int .u64 (l2 (rM k)), .int .u64 (l3 (rM k))], .int .i64 0]) ∧ Below w.heap.size w w' := by
  have G : Hid (∀ w, Calls Tryd.prog 34 #[.int .i64 k] w fun e w' => e = .returned (.bool true) ∧ Below w.heap.size w w') := rgood_yes hk
  have C : Hid (∀ w, Calls Tryd.prog 35 #[.int .i64 k] w fun e w' => e = .returned (.agg #[.int .u64 (l0 (rM k)), .int .u64 (l1 (rM k)), .int .u64 (l2 (rM k)), .int .u64 (l3 (rM k))]) ∧ Below w.heap.size w w') := rmodulus_any k
  generalize rM k = r at *
  clear hk
  go_enter Tryd.func24, Tryd.ntmps24
  go_wp2_with fail
  refine calls_world (fun W => Below w.heap.size w W ∧ Blank W w.heap.size) ⟨by repeat (first | with_reducible exact Below.refl _ _ | with_reducible refine Below.alloc ?_ (by first | omega | (simp; done) | (simp; omega)) _), Blank.new (by simp)⟩ ?_
  rintro W ⟨B, hR⟩
  have o3 : w.heap.size ≤ w.heap.size := by omega
  with_reducible refine (G.out _).mono ?_
  rintro e w1 ⟨rfl, hb⟩
  replace B := B.trans (hb.mono B.size)
  replace hR := hR.keep hb
  clear hb W
  go_wp2_with fail
  with_reducible refine (C.out _).mono ?_
  rintro e w2 ⟨rfl, hb⟩
  replace B := B.trans (hb.mono B.size)
  replace hR := hR.keep hb
  clear hb w1
  have gR := hR.1.all4; have fR := hR.2.all4
  go_wp2
  simp [bodyPost, results, Tryd.results24, go_sem, gR]
  exact below_set4 B o3 _ _ _ _

end Go.Proofs.YtfhakamheidcnaaDoor

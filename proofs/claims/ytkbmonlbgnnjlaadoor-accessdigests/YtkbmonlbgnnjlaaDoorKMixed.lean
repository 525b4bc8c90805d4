import Derived.Test.YtkbmonlbgnnjlaaDoorKSpec
import Derived.Test.YtkbmonlbgnnjlaaDoorKPerm
import Derived.Test.YtkbmonlbgnnjlaaDoorTail
namespace Go.Proofs.YtkbmonlbgnnjlaaDoor.K
open Go.RowKit Go.Sort

/-- 'at', its answer under a name. -/
theorem at_is (x y n : Nat) (hx : x < 100) (hy : y < 100) (e : x % 5 + 5 * (y % 5) = n) (w : World) :
    Calls Tryd.prog 64 #[.int .i64 x, .int .i64 y] w fun e w' => e = .returned (.int .i64 (n : Int)) ∧ w' = w := by
  subst e; exact at_any x y hx hy w

set_option maxRecDepth 100000 in
set_option maxHeartbeats 4000000 in
theorem mixed_any {A : List (BitVec 64)} (hl : A.length = 25) (w : World) :
    Calls Tryd.prog 61 #[.agg (lanes A).toArray] w fun e w' => e = .returned (.agg (lanes (mapL (mixF A))).toArray) ∧ Below w.heap.size w w' := by
  go_enter Tryd.func61, Tryd.ntmps61
  go_wp2_with fail
  refine wp_world (fun W => Below w.heap.size w W ∧ Arr W w.heap.size A ∧ Arr W (w.heap.size + 1) (List.replicate 25 0) ∧ Arr W (w.heap.size + 1 + 1) (List.replicate 25 0)) ⟨?_, ((Arr.new hl _ rfl).alloc _).alloc _, (Arr.zeros _ (by simp)).alloc _, Arr.zeros _ (by simp)⟩ ?_
  · repeat (first | with_reducible exact Below.refl _ _ | with_reducible refine Below.alloc ?_ (by first | omega | (simp; done) | (simp; omega)) _)
  rintro W ⟨B, hA, hR, hO⟩
  have c1 : w.heap.size + 1 + 1 ≠ w.heap.size := by omega
  have c2 : w.heap.size + 1 + 1 ≠ w.heap.size + 1 := by omega
  have o2 : w.heap.size ≤ w.heap.size + 1 + 1 := by omega
  have o1 : w.heap.size ≤ w.heap.size + 1 := by omega
  have NN : Hid (w.heap.size + 1 + 1 ≠ w.heap.size ∧ w.heap.size + 1 + 1 ≠ w.heap.size + 1 ∧ w.heap.size ≤ w.heap.size + 1 + 1 ∧ w.heap.size ≤ w.heap.size + 1) := ⟨c1, c2, o2, o1⟩
  clear c1 c2 o1 o2 hl
  generalize w.heap.size + 1 + 1 = bo at *
  generalize w.heap.size + 1 = br at *
  go_loopg [4] 5 (fun k iv wr => ∃ (x : Nat) (L : List (BitVec 64)), k = 5 - x ∧ x ≤ 5 ∧ iv = .int .i64 x ∧ Upto ordA (mixF A) (5 * x) L ∧ Below w.heap.size w wr ∧ Arr wr w.heap.size A ∧ Arr wr br (List.replicate 25 0) ∧ Arr wr bo L)
  case atStart => exact ⟨0, _, rfl, by decide, rfl, Upto.zero _ _ _, B, hA, hR, hO⟩
  case round =>
    clear B hA hR hO
    obtain ⟨x, L, hk, hx, rfl, up, B, hA, hR, hO⟩ := hrel
    have HK : Hid (gk = 5 - x) := hk
    have HF : Hid (Below w.heap.size w wr ∧ Arr wr w.heap.size A ∧ Arr wr br (List.replicate 25 0) ∧ Arr wr bo L) := ⟨B, hA, hR, hO⟩
    have UP : Hid (Upto ordA (mixF A) (5 * x) L) := up
    clear hk B hA hR hO up
    by_cases h8 : x = 5
    · subst h8
      have eL : L = mapL (mixF A) := UP.out.all HF.out.2.2.2.1 ordA_lt
      have EL : Hid (L = mapL (mixF A)) := eL
      have rb := HF.out.2.2.2.2.1.range
      have sz : ((lanes L).toArray).size = 25 := by simp [lanes_len, HF.out.2.2.2.1]
      have tr : wr.there br 0 ((lanes L).toArray).size := by rw [sz]; exact HF.out.2.2.1.there
      have oc := one_lanes L
      clear eL
      generalize hM : lanes L = M at *
      have HM : Hid (M.length = 25) := by rw [← hM, lanes_len]; exact HF.out.2.2.2.1
      go_wp2_with (first | refine wpList_load_mid rfl 70 _ rfl bo 0 rfl M _ rb Tryd.underlying70 rfl (by rw [HM.out]; kernel_rfl) ?_ | refine wpList_store_mid rfl 70 _ _ rfl br 0 _ rfl rfl tr (by rw [sz]; kernel_rfl) oc ?_)
      have ld := run_loadVar_mid (P := Tryd.prog) (wr.setCells br 0 M) br 0 70 M _ (World.rangeAt_setCells_same _ _ _ _ (by simpa using tr)) Tryd.underlying70 rfl (by rw [HM.out]; kernel_rfl)
      refine bodyPost_ret (v := .agg M.toArray) ?_ rfl ⟨by rw [← hM, EL.out], below_setCells NN.out.2.2.2 M 0 wr HF.out.1⟩
      simp [results, Tryd.results61, Act.put, asAddr, ld]
    · have hx' : (x : Int) < 5 := by omega
      go_wp2_with fail
      go_loopg [5] 5 (fun k iv wr => ∃ (y : Nat) (L : List (BitVec 64)), k = 5 - y ∧ y ≤ 5 ∧ iv = .int .i64 y ∧ Upto ordA (mixF A) (5 * x + y) L ∧ Below w.heap.size w wr ∧ Arr wr w.heap.size A ∧ Arr wr br (List.replicate 25 0) ∧ Arr wr bo L)
      case atStart => exact ⟨0, _, rfl, by decide, rfl, UP.out, HF.out.1, HF.out.2.1, HF.out.2.2.1, HF.out.2.2.2⟩
      case round =>
        clear HF UP
        obtain ⟨y, L, hk, hy, rfl, up, B, hA, hR, hO⟩ := hrel
        have HK2 : Hid (gk = 5 - y) := hk
        have HF : Hid (Below w.heap.size w wr ∧ Arr wr w.heap.size A ∧ Arr wr br (List.replicate 25 0) ∧ Arr wr bo L) := ⟨B, hA, hR, hO⟩
        have UP : Hid (Upto ordA (mixF A) (5 * x + y) L) := up
        clear hk B hA hR hO up
        by_cases h9 : y = 5
        · subst h9
          go_wp2
          go_roundg (5 - (x + 1))
          case measure => have := HK.out; omega
          case rel => exact ⟨x + 1, L, rfl, by omega, by go_num, UP.out, HF.out.1, HF.out.2.1, HF.out.2.2.1, HF.out.2.2.2⟩
        · have hy' : (y : Int) < 5 := by omega
          obtain ⟨n0, e0⟩ : ∃ n : Nat, n = x + 5 * y := ⟨_, rfl⟩
          obtain ⟨n1, e1⟩ : ∃ n : Nat, n = (x + 1) % 5 + 5 * y := ⟨_, rfl⟩
          obtain ⟨n2, e2⟩ : ∃ n : Nat, n = (x + 2) % 5 + 5 * y := ⟨_, rfl⟩
          have q0 : (n0 : Int) < 25 := by omega
          have q1 : (n1 : Int) < 25 := by omega
          have q2 : (n2 : Int) < 25 := by omega
          have P0 : Hid (∀ W, Calls Tryd.prog 64 #[.int .i64 x, .int .i64 y] W fun e w' => e = .returned (.int .i64 (n0 : Int)) ∧ w' = W) := at_is x y n0 (by omega) (by omega) (by omega)
          have P1 : Hid (∀ W, Calls Tryd.prog 64 #[.int .i64 ((x : Int) + 1), .int .i64 y] W fun e w' => e = .returned (.int .i64 (n1 : Int)) ∧ w' = W) := at_is (x + 1) y n1 (by omega) (by omega) (by omega)
          have P2 : Hid (∀ W, Calls Tryd.prog 64 #[.int .i64 ((x : Int) + 2), .int .i64 y] W fun e w' => e = .returned (.int .i64 (n2 : Int)) ∧ w' = W) := at_is (x + 2) y n2 (by omega) (by omega) (by omega)
          have g0 := HF.out.2.1.2.1 n0 (by rw [HF.out.2.1.1]; omega)
          have g1 := HF.out.2.1.2.1 n1 (by rw [HF.out.2.1.1]; omega)
          have g2 := HF.out.2.1.2.1 n2 (by rw [HF.out.2.1.1]; omega)
          have gs := HF.out.2.2.2.2.1 n0 (by rw [HF.out.2.2.2.1]; omega)
          have fs := HF.out.2.2.2.2.2 n0 (by omega)
          have EF : Hid (A.getD n0 0 ^^^ (~~~ A.getD n1 0 &&& A.getD n2 0) = mixF A n0) := by
            unfold mixF mixX
            dsimp only
            rw [show (n0 % 5 + 1) % 5 + 5 * (n0 / 5) = n1 by omega, show (n0 % 5 + 2) % 5 + 5 * (n0 / 5) = n2 by omega]
            exact rfl
          have EE : Hid (n0 = x + 5 * y) := e0
          clear e0 e1 e2
          generalize A.getD n0 0 = a0 at *
          generalize A.getD n1 0 = a1 at *
          generalize A.getD n2 0 = a2 at *
          have v1 := V_not' a1; have v2 := V_not a1; have v3 := V_and (~~~a1) a2; have v4 := V_xor a0 (~~~a1 &&& a2)
          go_wp2_with fail
          refine region_tail 24 (by kernel_rfl) (by kernel_rfl) ?_
          simp only [List.take_succ_cons, List.take_zero, List.drop_succ_cons, List.drop_zero]
          repeat (first | go_big_quiet_skip | (go_big_quiet_want; go_big_quiet_op; first | go_big_quiet_on | (with_reducible refine ⟨_, P0.out _, ?_⟩; go_big_quiet_on) | (with_reducible refine ⟨_, P1.out _, ?_⟩; go_big_quiet_on) | (with_reducible refine ⟨_, P2.out _, ?_⟩; go_big_quiet_on)))
          refine wpQuiet_nil ?_
          go_wp2
          go_roundg (5 - (y + 1))
          case measure => have := HK2.out; omega
          case rel =>
            refine ⟨y + 1, L.set n0 (a0 ^^^ (~~~ a1 &&& a2)), rfl, by omega, by go_num, ?_, HF.out.1.drew.setCell NN.out.2.2.1 _, HF.out.2.1.drew.other NN.out.1 _, HF.out.2.2.1.drew.other NN.out.2.1 _, HF.out.2.2.2.drew.set n0 (by omega) _⟩
            exact UP.out.step HF.out.2.2.2.1 (by omega) (fun p hp h => by rw [EE.out]; exact ordA_one (by omega) hp h) EF.out

end Go.Proofs.YtkbmonlbgnnjlaaDoor.K

namespace Go.Proofs.YtkbmonlbgnnjlaaDoor.K
open Go.RowKit Go.Sort

theorem turns_lt : ∀ p, p < 25 → turnsN.getD p 0 < 64 := by decide

set_option maxRecDepth 100000 in
set_option maxHeartbeats 4000000 in
theorem moved_any {A : List (BitVec 64)} (hl : A.length = 25) (w : World) (ht : Tab w 2 turnsN) :
    Calls Tryd.prog 60 #[.agg (lanes A).toArray] w fun e w' => e = .returned (.agg (lanes (mapL (movF A))).toArray) ∧ Below w.heap.size w w' := by
  have HT : Hid (Tab w 2 turnsN) := ht
  clear ht
  go_enter Tryd.func60, Tryd.ntmps60
  go_wp2_with fail
  refine wp_world (fun W => Below w.heap.size w W ∧ Arr W w.heap.size A ∧ Arr W (w.heap.size + 1) (List.replicate 25 0) ∧ Arr W (w.heap.size + 1 + 1) (List.replicate 25 0)) ⟨?_, ((Arr.new hl _ rfl).alloc _).alloc _, (Arr.zeros _ (by simp)).alloc _, Arr.zeros _ (by simp)⟩ ?_
  · repeat (first | with_reducible exact Below.refl _ _ | with_reducible refine Below.alloc ?_ (by first | omega | (simp; done) | (simp; omega)) _)
  rintro W ⟨B, hA, hR, hO⟩
  have c1 : w.heap.size + 1 + 1 ≠ w.heap.size := by omega
  have c2 : w.heap.size + 1 + 1 ≠ w.heap.size + 1 := by omega
  have o2 : w.heap.size ≤ w.heap.size + 1 + 1 := by omega
  have o1 : w.heap.size ≤ w.heap.size + 1 := by omega
  have NN : Hid (w.heap.size + 1 + 1 ≠ w.heap.size ∧ w.heap.size + 1 + 1 ≠ w.heap.size + 1 ∧ w.heap.size ≤ w.heap.size + 1 + 1 ∧ w.heap.size ≤ w.heap.size + 1) := ⟨c1, c2, o2, o1⟩
  clear c1 c2 o1 o2 hl
  generalize w.heap.size + 1 + 1 = bo at *
  generalize w.heap.size + 1 = br at *
  go_loopg [4] 5 (fun k iv wr => ∃ (x : Nat) (L : List (BitVec 64)), k = 5 - x ∧ x ≤ 5 ∧ iv = .int .i64 x ∧ Upto ordB (movF A) (5 * x) L ∧ Below w.heap.size w wr ∧ Arr wr w.heap.size A ∧ Arr wr br (List.replicate 25 0) ∧ Arr wr bo L)
  case atStart => exact ⟨0, _, rfl, by decide, rfl, Upto.zero _ _ _, B, hA, hR, hO⟩
  case round =>
    clear B hA hR hO
    obtain ⟨x, L, hk, hx, rfl, up, B, hA, hR, hO⟩ := hrel
    have HK : Hid (gk = 5 - x) := hk
    have HF : Hid (Below w.heap.size w wr ∧ Arr wr w.heap.size A ∧ Arr wr br (List.replicate 25 0) ∧ Arr wr bo L) := ⟨B, hA, hR, hO⟩
    have UP : Hid (Upto ordB (movF A) (5 * x) L) := up
    clear hk B hA hR hO up
    by_cases h8 : x = 5
    · subst h8
      have eL : L = mapL (movF A) := UP.out.all HF.out.2.2.2.1 ordB_lt
      have EL : Hid (L = mapL (movF A)) := eL
      have rb := HF.out.2.2.2.2.1.range
      have sz : ((lanes L).toArray).size = 25 := by simp [lanes_len, HF.out.2.2.2.1]
      have tr : wr.there br 0 ((lanes L).toArray).size := by rw [sz]; exact HF.out.2.2.1.there
      have oc := one_lanes L
      clear eL
      generalize hM : lanes L = M at *
      have HM : Hid (M.length = 25) := by rw [← hM, lanes_len]; exact HF.out.2.2.2.1
      go_wp2_with (first | refine wpList_load_mid rfl 70 _ rfl bo 0 rfl M _ rb Tryd.underlying70 rfl (by rw [HM.out]; kernel_rfl) ?_ | refine wpList_store_mid rfl 70 _ _ rfl br 0 _ rfl rfl tr (by rw [sz]; kernel_rfl) oc ?_)
      have ld := run_loadVar_mid (P := Tryd.prog) (wr.setCells br 0 M) br 0 70 M _ (World.rangeAt_setCells_same _ _ _ _ (by simpa using tr)) Tryd.underlying70 rfl (by rw [HM.out]; kernel_rfl)
      refine bodyPost_ret (v := .agg M.toArray) ?_ rfl ⟨by rw [← hM, EL.out], below_setCells NN.out.2.2.2 M 0 wr HF.out.1⟩
      simp [results, Tryd.results60, Act.put, asAddr, ld]
    · have hx' : (x : Int) < 5 := by omega
      go_wp2_with fail
      go_loopg [5] 5 (fun k iv wr => ∃ (y : Nat) (L : List (BitVec 64)), k = 5 - y ∧ y ≤ 5 ∧ iv = .int .i64 y ∧ Upto ordB (movF A) (5 * x + y) L ∧ Below w.heap.size w wr ∧ Arr wr w.heap.size A ∧ Arr wr br (List.replicate 25 0) ∧ Arr wr bo L)
      case atStart => exact ⟨0, _, rfl, by decide, rfl, UP.out, HF.out.1, HF.out.2.1, HF.out.2.2.1, HF.out.2.2.2⟩
      case round =>
        clear HF UP
        obtain ⟨y, L, hk, hy, rfl, up, B, hA, hR, hO⟩ := hrel
        have HK2 : Hid (gk = 5 - y) := hk
        have HF : Hid (Below w.heap.size w wr ∧ Arr wr w.heap.size A ∧ Arr wr br (List.replicate 25 0) ∧ Arr wr bo L) := ⟨B, hA, hR, hO⟩
        have UP : Hid (Upto ordB (movF A) (5 * x + y) L) := up
        clear hk B hA hR hO up
        by_cases h9 : y = 5
        · subst h9
          go_wp2
          go_roundg (5 - (x + 1))
          case measure => have := HK.out; omega
          case rel => exact ⟨x + 1, L, rfl, by omega, by go_num, UP.out, HF.out.1, HF.out.2.1, HF.out.2.2.1, HF.out.2.2.2⟩
        · have hy' : (y : Int) < 5 := by omega
          obtain ⟨n0, e0⟩ : ∃ n : Nat, n = x + 5 * y := ⟨_, rfl⟩
          have q0 : (n0 : Int) < 25 := by omega
          have P0 : Hid (∀ W, Calls Tryd.prog 64 #[.int .i64 x, .int .i64 y] W fun e w' => e = .returned (.int .i64 (n0 : Int)) ∧ w' = W) := at_is x y n0 (by omega) (by omega) (by omega)
          obtain ⟨q, e1⟩ : ∃ n : Nat, n = y + 5 * ((2 * x + 3 * y) % 5) := ⟨_, rfl⟩
          have q1 : (q : Int) < 25 := by omega
          have P1 : Hid (∀ W, Calls Tryd.prog 64 #[.int .i64 y, .int .i64 (2 * (x : Int) + 3 * (y : Int))] W fun e w' => e = .returned (.int .i64 (q : Int)) ∧ w' = W) := fun W => by
            have h := at_is y (2 * x + 3 * y) q (by omega) (by omega) (by omega) W
            rw [show ((2 * x + 3 * y : Nat) : Int) = 2 * (x : Int) + 3 * (y : Int) by omega] at h
            exact h
          have g0 := HF.out.2.1.2.1 n0 (by rw [HF.out.2.1.1]; omega)
          have g1 := HT.out.keep HF.out.1 n0 (by simp [turnsN]; omega)
          have gs := HF.out.2.2.2.2.1 q (by rw [HF.out.2.2.2.1]; omega)
          have fs := HF.out.2.2.2.2.2 q (by omega)
          have sq : srcN.getD q 0 = n0 := by rw [e1, e0]; exact src_at x (by omega) y (by omega)
          have EF : Hid ((A.getD n0 0).rotateLeft (turnsN.getD n0 0) = movF A q) := by
            unfold movF
            rw [sq]
            exact rfl
          have tl : turnsN.getD n0 0 < 64 := turns_lt n0 (by omega)
          have EE : Hid (q = y + 5 * ((2 * x + 3 * y) % 5)) := e1
          clear e0 e1 sq
          generalize A.getD n0 0 = a0 at *
          generalize turnsN.getD n0 0 = t0 at *
          have tl' : (t0 : Int) < 64 := by omega
          have P2 : Hid (∀ W, Calls Tryd.prog 65 #[.int .u64 (V a0), .int .i64 (t0 : Int)] W fun e w' => e = .returned (.int .u64 (V (a0.rotateLeft t0))) ∧ w' = W) := rot_any a0 tl
          clear tl
          go_wp2_with fail
          refine region_tail 19 (by kernel_rfl) (by kernel_rfl) ?_
          simp only [List.take_succ_cons, List.take_zero, List.drop_succ_cons, List.drop_zero]
          repeat (first | go_big_quiet_skip | (go_big_quiet_want; go_big_quiet_op; first | go_big_quiet_on | (with_reducible refine ⟨_, P0.out _, ?_⟩; go_big_quiet_on) | (with_reducible refine ⟨_, P1.out _, ?_⟩; go_big_quiet_on) | (with_reducible refine ⟨_, P2.out _, ?_⟩; go_big_quiet_on)))
          refine wpQuiet_nil ?_
          go_wp2
          go_roundg (5 - (y + 1))
          case measure => have := HK2.out; omega
          case rel =>
            refine ⟨y + 1, L.set q (a0.rotateLeft t0), rfl, by omega, by go_num, ?_, HF.out.1.drew.setCell NN.out.2.2.1 _, HF.out.2.1.drew.other NN.out.1 _, HF.out.2.2.1.drew.other NN.out.2.1 _, HF.out.2.2.2.drew.set q (by omega) _⟩
            exact UP.out.step HF.out.2.2.2.1 (by omega) (fun p hp h => by rw [EE.out]; exact ordB_one (by omega) hp h) EF.out

end Go.Proofs.YtkbmonlbgnnjlaaDoor.K

namespace Go.Proofs.YtkbmonlbgnnjlaaDoor.K
open Go.RowKit Go.Sort

/-- Block b holds the five columns' sums and may be written. -/
def Cols (W : World) (b : Nat) (C : List (BitVec 64)) : Prop := C.length = 5 ∧ Lns W b C ∧ Loose W b 5
theorem Cols.lt {W : World} {b : Nat} {C : List (BitVec 64)} (h : Cols W b C) : b < W.heap.size := h.2.1.lt (by rw [h.1]; decide)
theorem Cols.keep {W w1 : World} {b : Nat} {C : List (BitVec 64)} (h : Cols W b C) (hb : Below W.heap.size W w1) : Cols w1 b C := ⟨h.1, h.2.1.keep hb, h.2.2.keep hb h.lt⟩
theorem Cols.alloc {W : World} {b : Nat} {C : List (BitVec 64)} (h : Cols W b C) (o : Obj) : Cols (W.alloc o) b C := h.keep ((Below.refl _ _).alloc (Nat.le_refl _) o)
theorem Cols.drew {W : World} {b : Nat} {C : List (BitVec 64)} (h : Cols W b C) : Cols W.drew b C := h
theorem Cols.other {W : World} {b b' i : Nat} {C : List (BitVec 64)} (h : Cols W b C) (ne : b' ≠ b) (v : Value) : Cols (W.setCell ⟨b', i, none⟩ v) b C := ⟨h.1, h.2.1.other ne v, h.2.2.set _ _⟩
theorem Cols.otherCells {W : World} {b b' o : Nat} {C : List (BitVec 64)} (h : Cols W b C) (ne : b' ≠ b) (cs : List Value) : Cols (W.setCells b' o cs) b C := ⟨h.1, h.2.1.otherCells ne cs, h.2.2.setCells _ _ _⟩
theorem Cols.set {W : World} {b : Nat} {C : List (BitVec 64)} (h : Cols W b C) (i : Nat) (hi : i < 5) (v : BitVec 64) : Cols (W.setCell ⟨b, i, none⟩ (.int .u64 (V v))) b (C.set i v) :=
  ⟨by rw [List.length_set]; exact h.1, h.2.1.set i (by rw [h.1]; exact hi) v, h.2.2.set _ _⟩
theorem Cols.zeros {W : World} {b : Nat} (t : TypeId) (e : b = W.heap.size) : Cols (W.alloc (.cells #[.int .u64 0, .int .u64 0, .int .u64 0, .int .u64 0, .int .u64 0] t)) b (List.replicate 5 0) := by
  have h : V 0#64 = 0 := V_zero
  have z : (lanes (List.replicate 5 0)).toArray = #[.int .u64 0, .int .u64 0, .int .u64 0, .int .u64 0, .int .u64 0] := by simp [lanes, List.replicate, h]
  rw [← z]
  exact ⟨by simp, Lns.new _ _ e, Loose.new _ _ _ e⟩

set_option maxRecDepth 100000 in
set_option maxHeartbeats 4000000 in
theorem columns_any {A : List (BitVec 64)} (hl : A.length = 25) (w : World) :
    Calls Tryd.prog 59 #[.agg (lanes A).toArray] w fun e w' => e = .returned (.agg (lanes (mapL (colF A))).toArray) ∧ Below w.heap.size w w' := by
  go_enter Tryd.func59, Tryd.ntmps59
  go_wp2_with fail
  refine wp_world (fun W => Below w.heap.size w W ∧ Arr W w.heap.size A ∧ Arr W (w.heap.size + 1) (List.replicate 25 0) ∧ Cols W (w.heap.size + 1 + 1) (List.replicate 5 0)) ⟨?_, ((Arr.new hl _ rfl).alloc _).alloc _, (Arr.zeros _ (by simp)).alloc _, Cols.zeros _ (by simp)⟩ ?_
  · repeat (first | with_reducible exact Below.refl _ _ | with_reducible refine Below.alloc ?_ (by first | omega | (simp; done) | (simp; omega)) _)
  rintro W ⟨B, hA, hR, hC⟩
  have c1 : w.heap.size + 1 + 1 ≠ w.heap.size := by omega
  have c2 : w.heap.size + 1 + 1 ≠ w.heap.size + 1 := by omega
  have o2 : w.heap.size ≤ w.heap.size + 1 + 1 := by omega
  have o1 : w.heap.size ≤ w.heap.size + 1 := by omega
  have NN : Hid (w.heap.size + 1 + 1 ≠ w.heap.size ∧ w.heap.size + 1 + 1 ≠ w.heap.size + 1 ∧ w.heap.size ≤ w.heap.size + 1 + 1 ∧ w.heap.size ≤ w.heap.size + 1) := ⟨c1, c2, o2, o1⟩
  clear c1 c2 o1 o2 hl
  generalize w.heap.size + 1 + 1 = bc at *
  generalize w.heap.size + 1 = br at *
  go_loopg [4] 5 (fun k iv wr => ∃ (x : Nat) (C : List (BitVec 64)), k = 5 - x ∧ x ≤ 5 ∧ iv = .int .i64 x ∧ (∀ t, t < x → C.getD t 0 = colX A t) ∧ Below w.heap.size w wr ∧ Arr wr w.heap.size A ∧ Arr wr br (List.replicate 25 0) ∧ Cols wr bc C)
  case atStart => exact ⟨0, _, rfl, by decide, rfl, fun t h => absurd h (Nat.not_lt_zero _), B, hA, hR, hC⟩
  case round =>
    clear B hA hR hC
    obtain ⟨x, C, hk, hx, rfl, up, B, hA, hR, hC⟩ := hrel
    have HK : Hid (gk = 5 - x) := hk
    have HF : Hid (Below w.heap.size w wr ∧ Arr wr w.heap.size A ∧ Arr wr br (List.replicate 25 0) ∧ Cols wr bc C) := ⟨B, hA, hR, hC⟩
    have UP : Hid (∀ t, t < x → C.getD t 0 = colX A t) := up
    clear hk B hA hR hC up
    by_cases h8 : x = 5
    · subst h8
      have rb := HF.out.2.1.2.1.range
      have sz : ((lanes A).toArray).size = 25 := by simp [lanes_len, HF.out.2.1.1]
      have oc := one_lanes A
      obtain ⟨Z, kz⟩ : ∃ Z, Z = wr.alloc (.cells (lanes (List.replicate 25 0)).toArray 70) := ⟨_, rfl⟩
      have hD : Arr Z wr.heap.size (List.replicate 25 0) := by rw [kz]; exact Arr.new (by simp) _ rfl
      have tr : Z.there wr.heap.size 0 ((lanes A).toArray).size := by rw [sz]; exact hD.there
      have ZZ : Hid (Below w.heap.size w Z ∧ Arr Z w.heap.size A ∧ Arr Z br (List.replicate 25 0) ∧ Cols Z bc C ∧ Arr Z wr.heap.size (List.replicate 25 0)) := by
        refine ⟨?_, ?_, ?_, ?_, hD⟩ <;> rw [kz]
        · exact HF.out.1.alloc HF.out.1.size _
        · exact HF.out.2.1.alloc _
        · exact HF.out.2.2.1.alloc _
        · exact HF.out.2.2.2.alloc _
      have N2 : Hid (wr.heap.size ≠ w.heap.size ∧ wr.heap.size ≠ br ∧ wr.heap.size ≠ bc ∧ w.heap.size ≤ wr.heap.size) := ⟨by have := HF.out.2.1.lt; omega, by have := HF.out.2.2.1.lt; omega, by have := HF.out.2.2.2.lt; omega, HF.out.1.size⟩
      rw [zeros25] at kz
      clear hD
      generalize hM : lanes A = M at *
      have HM : Hid (M.length = 25) := by rw [← hM, lanes_len]; exact HF.out.2.1.1
      have KZ : Hid (Z = wr.alloc (.cells #[.int .u64 0, .int .u64 0, .int .u64 0, .int .u64 0, .int .u64 0, .int .u64 0, .int .u64 0, .int .u64 0, .int .u64 0, .int .u64 0, .int .u64 0, .int .u64 0, .int .u64 0, .int .u64 0, .int .u64 0, .int .u64 0, .int .u64 0, .int .u64 0, .int .u64 0, .int .u64 0, .int .u64 0, .int .u64 0, .int .u64 0, .int .u64 0, .int .u64 0] 70)) := kz
      clear kz
      go_wp2_with (first | refine wpList_load_mid rfl 70 _ rfl w.heap.size 0 rfl M _ rb Tryd.underlying70 rfl (by rw [HM.out]; kernel_rfl) ?_ | refine wpList_store_mid rfl 70 _ _ rfl wr.heap.size 0 _ rfl rfl (by rw [← KZ.out]; exact tr) (by rw [sz]; kernel_rfl) oc ?_)
      rw [← KZ.out]
      have CC : Hid (∀ t, t < 5 → C.getD t 0 = colX A t) := UP.out
      clear UP HK
      refine wp_world (fun W => Below w.heap.size w W ∧ Arr W w.heap.size A ∧ Arr W br (List.replicate 25 0) ∧ Cols W bc C ∧ Arr W wr.heap.size A) ⟨below_setCells N2.out.2.2.2 M 0 Z ZZ.out.1, ZZ.out.2.1.otherCells N2.out.1 _, ZZ.out.2.2.1.otherCells N2.out.2.1 _, ZZ.out.2.2.2.1.otherCells N2.out.2.2.1 _, by rw [← hM]; exact ZZ.out.2.2.2.2.stored HF.out.2.1.1⟩ ?_
      clear HF ZZ KZ rb sz oc tr HM hx
      rintro W2 ⟨B, hA, hR, hC, hD⟩
      generalize wr.heap.size = bd at *
      go_loopg [6] 5 (fun k iv wr => ∃ (x : Nat) (L : List (BitVec 64)), k = 5 - x ∧ x ≤ 5 ∧ iv = .int .i64 x ∧ Upto ordA (colF A) (5 * x) L ∧ Below w.heap.size w wr ∧ Arr wr w.heap.size A ∧ Arr wr br (List.replicate 25 0) ∧ Cols wr bc C ∧ Arr wr bd L)
      case atStart => exact ⟨0, _, rfl, by decide, rfl, Upto.zero _ _ _, B, hA, hR, hC, hD⟩
      case round =>
        clear B hA hR hC hD
        obtain ⟨x, L, hk, hx, rfl, up, hf⟩ := hrel
        have HK : Hid (gk = 5 - x) := hk
        have HF : Hid (Below w.heap.size w wr ∧ Arr wr w.heap.size A ∧ Arr wr br (List.replicate 25 0) ∧ Cols wr bc C ∧ Arr wr bd L) := hf
        have UP : Hid (Upto ordA (colF A) (5 * x) L) := up
        clear hk hf up
        by_cases h8 : x = 5
        · subst h8
          have eL : L = mapL (colF A) := UP.out.all HF.out.2.2.2.2.1 ordA_lt
          have EL : Hid (L = mapL (colF A)) := eL
          have rb := HF.out.2.2.2.2.2.1.range
          have sz : ((lanes L).toArray).size = 25 := by simp [lanes_len, HF.out.2.2.2.2.1]
          have tr : wr.there br 0 ((lanes L).toArray).size := by rw [sz]; exact HF.out.2.2.1.there
          have oc := one_lanes L
          clear eL
          generalize hM : lanes L = M at *
          have HM : Hid (M.length = 25) := by rw [← hM, lanes_len]; exact HF.out.2.2.2.2.1
          go_wp2_with (first | refine wpList_load_mid rfl 70 _ rfl bd 0 rfl M _ rb Tryd.underlying70 rfl (by rw [HM.out]; kernel_rfl) ?_ | refine wpList_store_mid rfl 70 _ _ rfl br 0 _ rfl rfl tr (by rw [sz]; kernel_rfl) oc ?_)
          have ld := run_loadVar_mid (P := Tryd.prog) (wr.setCells br 0 M) br 0 70 M _ (World.rangeAt_setCells_same _ _ _ _ (by simpa using tr)) Tryd.underlying70 rfl (by rw [HM.out]; kernel_rfl)
          refine bodyPost_ret (v := .agg M.toArray) ?_ rfl ⟨by rw [← hM, EL.out], below_setCells NN.out.2.2.2 M 0 wr HF.out.1⟩
          simp [results, Tryd.results59, Act.put, asAddr, ld]
        · have hx' : (x : Int) < 5 := by omega
          go_wp2_with fail
          go_loopg [7] 5 (fun k iv wr => ∃ (y : Nat) (L : List (BitVec 64)), k = 5 - y ∧ y ≤ 5 ∧ iv = .int .i64 y ∧ Upto ordA (colF A) (5 * x + y) L ∧ Below w.heap.size w wr ∧ Arr wr w.heap.size A ∧ Arr wr br (List.replicate 25 0) ∧ Cols wr bc C ∧ Arr wr bd L)
          case atStart => exact ⟨0, _, rfl, by decide, rfl, UP.out, HF.out⟩
          case round =>
            clear HF UP
            obtain ⟨y, L, hk, hy, rfl, up, hf⟩ := hrel
            have HK2 : Hid (gk = 5 - y) := hk
            have HF : Hid (Below w.heap.size w wr ∧ Arr wr w.heap.size A ∧ Arr wr br (List.replicate 25 0) ∧ Cols wr bc C ∧ Arr wr bd L) := hf
            have UP : Hid (Upto ordA (colF A) (5 * x + y) L) := up
            clear hk hf up
            by_cases h9 : y = 5
            · subst h9
              go_wp2
              go_roundg (5 - (x + 1))
              case measure => have := HK.out; omega
              case rel => exact ⟨x + 1, L, rfl, by omega, by go_num, UP.out, HF.out⟩
            · have hy' : (y : Int) < 5 := by omega
              obtain ⟨n0, e0⟩ : ∃ n : Nat, n = x + 5 * y := ⟨_, rfl⟩
              have q0 : (n0 : Int) < 25 := by omega
              have P0 : Hid (∀ W, Calls Tryd.prog 64 #[.int .i64 x, .int .i64 y] W fun e w' => e = .returned (.int .i64 (n0 : Int)) ∧ w' = W) := at_is x y n0 (by omega) (by omega) (by omega)
              have g0 := HF.out.2.1.2.1 n0 (by rw [HF.out.2.1.1]; omega)
              have g1 := HF.out.2.2.2.1.2.1 ((x + 4) % 5) (by rw [HF.out.2.2.2.1.1]; omega)
              have g2 := HF.out.2.2.2.1.2.1 ((x + 1) % 5) (by rw [HF.out.2.2.2.1.1]; omega)
              have gs := HF.out.2.2.2.2.2.1 n0 (by rw [HF.out.2.2.2.2.1]; omega)
              have fs := HF.out.2.2.2.2.2.2 n0 (by omega)
              rw [CC.out _ (by omega)] at g1 g2
              have x0 : n0 % 5 = x := by omega
              have EF : Hid (A.getD n0 0 ^^^ colX A ((x + 4) % 5) ^^^ (colX A ((x + 1) % 5)).rotateLeft 1 = colF A n0) := by
                unfold colF addX
                rw [x0, BitVec.xor_assoc]
                exact rfl
              have e4 : (((x : Int) + 4) % 5).toNat = (x + 4) % 5 := by omega
              have e5 : (((x : Int) + 1) % 5).toNat = (x + 1) % 5 := by omega
              have EE : Hid (n0 = x + 5 * y) := e0
              clear e0 x0
              generalize A.getD n0 0 = a0 at *
              generalize colX A ((x + 4) % 5) = a1 at *
              generalize colX A ((x + 1) % 5) = a2 at *
              have v1 := V_xor a0 a1; have v2 := V_xor (a0 ^^^ a1) (a2.rotateLeft 1)
              have P1 : Hid (∀ W, Calls Tryd.prog 65 #[.int .u64 (V a2), .int .i64 1] W fun e w' => e = .returned (.int .u64 (V (a2.rotateLeft 1))) ∧ w' = W) := rot_any a2 (k := 1) (by decide)
              go_wp2_with fail
              refine region_tail 22 (by kernel_rfl) (by kernel_rfl) ?_
              simp only [List.take_succ_cons, List.take_zero, List.drop_succ_cons, List.drop_zero]
              repeat (first | go_big_quiet_skip | (go_big_quiet_want; go_big_quiet_op; first | go_big_quiet_on | (with_reducible refine ⟨_, P0.out _, ?_⟩; go_big_quiet_on) | (with_reducible refine ⟨_, P1.out _, ?_⟩; go_big_quiet_on)))
              refine wpQuiet_nil ?_
              go_wp2
              go_roundg (5 - (y + 1))
              case measure => have := HK2.out; omega
              case rel =>
                refine ⟨y + 1, L.set n0 (a0 ^^^ a1 ^^^ a2.rotateLeft 1), rfl, by omega, by go_num, ?_, HF.out.1.drew.setCell N2.out.2.2.2 _, HF.out.2.1.drew.other N2.out.1 _, HF.out.2.2.1.drew.other N2.out.2.1 _, HF.out.2.2.2.1.drew.other N2.out.2.2.1 _, HF.out.2.2.2.2.drew.set n0 (by omega) _⟩
                exact UP.out.step HF.out.2.2.2.2.1 (by omega) (fun p hp h => by rw [EE.out]; exact ordA_one (by omega) hp h) EF.out
    · have hx' : (x : Int) < 5 := by omega
      obtain ⟨n0, e0⟩ : ∃ n : Nat, n = x + 0 := ⟨_, rfl⟩
      have q0 : (n0 : Int) < 25 := by omega
      have P0 : Hid (∀ W, Calls Tryd.prog 64 #[.int .i64 x, .int .i64 0] W fun e w' => e = .returned (.int .i64 (n0 : Int)) ∧ w' = W) := at_is x 0 n0 (by omega) (by decide) (by omega)
      have g0 := HF.out.2.1.2.1 n0 (by rw [HF.out.2.1.1]; omega)
      obtain ⟨n1, e1⟩ : ∃ n : Nat, n = x + 5 := ⟨_, rfl⟩
      have q1 : (n1 : Int) < 25 := by omega
      have P1 : Hid (∀ W, Calls Tryd.prog 64 #[.int .i64 x, .int .i64 1] W fun e w' => e = .returned (.int .i64 (n1 : Int)) ∧ w' = W) := at_is x 1 n1 (by omega) (by decide) (by omega)
      have g1 := HF.out.2.1.2.1 n1 (by rw [HF.out.2.1.1]; omega)
      obtain ⟨n2, e2⟩ : ∃ n : Nat, n = x + 10 := ⟨_, rfl⟩
      have q2 : (n2 : Int) < 25 := by omega
      have P2 : Hid (∀ W, Calls Tryd.prog 64 #[.int .i64 x, .int .i64 2] W fun e w' => e = .returned (.int .i64 (n2 : Int)) ∧ w' = W) := at_is x 2 n2 (by omega) (by decide) (by omega)
      have g2 := HF.out.2.1.2.1 n2 (by rw [HF.out.2.1.1]; omega)
      obtain ⟨n3, e3⟩ : ∃ n : Nat, n = x + 15 := ⟨_, rfl⟩
      have q3 : (n3 : Int) < 25 := by omega
      have P3 : Hid (∀ W, Calls Tryd.prog 64 #[.int .i64 x, .int .i64 3] W fun e w' => e = .returned (.int .i64 (n3 : Int)) ∧ w' = W) := at_is x 3 n3 (by omega) (by decide) (by omega)
      have g3 := HF.out.2.1.2.1 n3 (by rw [HF.out.2.1.1]; omega)
      obtain ⟨n4, e4⟩ : ∃ n : Nat, n = x + 20 := ⟨_, rfl⟩
      have q4 : (n4 : Int) < 25 := by omega
      have P4 : Hid (∀ W, Calls Tryd.prog 64 #[.int .i64 x, .int .i64 4] W fun e w' => e = .returned (.int .i64 (n4 : Int)) ∧ w' = W) := at_is x 4 n4 (by omega) (by decide) (by omega)
      have g4 := HF.out.2.1.2.1 n4 (by rw [HF.out.2.1.1]; omega)
      have gs := HF.out.2.2.2.2.1 x (by rw [HF.out.2.2.2.1]; omega)
      have fs := HF.out.2.2.2.2.2 x (by omega)
      have EF : Hid (A.getD n0 0 ^^^ A.getD n1 0 ^^^ A.getD n2 0 ^^^ A.getD n3 0 ^^^ A.getD n4 0 = colX A x) := by rw [e0, e1, e2, e3, e4]; exact rfl
      clear e0 e1 e2 e3 e4
      generalize A.getD n0 0 = a0 at *
      generalize A.getD n1 0 = a1 at *
      generalize A.getD n2 0 = a2 at *
      generalize A.getD n3 0 = a3 at *
      generalize A.getD n4 0 = a4 at *
      have v1 := V_xor a0 a1; have v2 := V_xor (a0 ^^^ a1) a2; have v3 := V_xor (a0 ^^^ a1 ^^^ a2) a3; have v4 := V_xor (a0 ^^^ a1 ^^^ a2 ^^^ a3) a4
      go_wp2_with fail
      refine region_tail 26 (by kernel_rfl) (by kernel_rfl) ?_
      simp only [List.take_succ_cons, List.take_zero, List.drop_succ_cons, List.drop_zero]
      repeat (first | go_big_quiet_skip | (go_big_quiet_want; go_big_quiet_op; first | go_big_quiet_on | (with_reducible refine ⟨_, P0.out _, ?_⟩; go_big_quiet_on) | (with_reducible refine ⟨_, P1.out _, ?_⟩; go_big_quiet_on) | (with_reducible refine ⟨_, P2.out _, ?_⟩; go_big_quiet_on) | (with_reducible refine ⟨_, P3.out _, ?_⟩; go_big_quiet_on) | (with_reducible refine ⟨_, P4.out _, ?_⟩; go_big_quiet_on)))
      refine wpQuiet_nil ?_
      go_wp2
      go_roundg (5 - (x + 1))
      case measure => have := HK.out; omega
      case rel =>
        refine ⟨x + 1, C.set x (a0 ^^^ a1 ^^^ a2 ^^^ a3 ^^^ a4), rfl, by omega, by go_num, fun t ht => ?_, HF.out.1.drew.setCell NN.out.2.2.1 _, HF.out.2.1.drew.other NN.out.1 _, HF.out.2.2.1.drew.other NN.out.2.1 _, HF.out.2.2.2.drew.set x (by omega) _⟩
        by_cases e : t = x
        · subst e; rw [← EF.out]; simp [List.getD, HF.out.2.2.2.1, show t < 5 by omega]
        · rw [← UP.out t (by omega)]; simp [List.getD, List.getElem?_set_ne (Ne.symm e)]

end Go.Proofs.YtkbmonlbgnnjlaaDoor.K

namespace Go.Proofs.YtkbmonlbgnnjlaaDoor.K
open Go.RowKit Go.Sort

theorem lanes_size {L : List (BitVec 64)} (h : L.length = 25) : ((lanes L).toArray).size = 25 := by simp [lanes_len, h]

set_option maxRecDepth 100000 in
set_option maxHeartbeats 4000000 in
theorem rperm_any {L : List (BitVec 64)} (hl : L.length = 25) (w : World) (ht : Tab w 2 turnsN) (hm : Lns w 0 marksN) :
    Calls Tryd.prog 45 #[.agg (lanes L).toArray] w fun e w' => e = .returned (.agg (lanes (perm L)).toArray) ∧ Below w.heap.size w w' := by
  have HH : Hid (Tab w 2 turnsN ∧ Lns w 0 marksN) := ⟨ht, hm⟩
  clear ht hm
  go_enter Tryd.func45, Tryd.ntmps45
  obtain ⟨X, kx⟩ : ∃ X, X = (w.alloc (.cells (lanes L).toArray 70)).alloc (.cells (lanes (List.replicate 25 0)).toArray 70) := ⟨_, rfl⟩
  obtain ⟨Z, kz⟩ : ∃ Z, Z = X.alloc (.cells (lanes (List.replicate 25 0)).toArray 70) := ⟨_, rfl⟩
  have xs : X.heap.size = w.heap.size + 1 + 1 := by rw [kx]; simp
  have XX : Hid (Below w.heap.size w X ∧ Arr X w.heap.size L ∧ Arr X (w.heap.size + 1) (List.replicate 25 0)) := by
    refine ⟨?_, ?_, ?_⟩ <;> rw [kx]
    · exact ((Below.refl _ _).alloc (Nat.le_refl _) _).alloc (by simp) _
    · exact (Arr.new hl _ rfl).alloc _
    · exact Arr.new (by simp) _ (by simp)
  have ZZ : Hid (Below w.heap.size w Z ∧ Arr Z (w.heap.size + 1) (List.replicate 25 0) ∧ Arr Z (w.heap.size + 1 + 1) (List.replicate 25 0)) := by
    refine ⟨?_, ?_, ?_⟩ <;> rw [kz]
    · exact XX.out.1.alloc XX.out.1.size _
    · exact XX.out.2.2.alloc _
    · exact Arr.new (by simp) _ (by rw [xs])
  rw [zeros25] at kx kz
  have KX : Hid (X = (w.alloc (.cells (lanes L).toArray 70)).alloc (.cells #[.int .u64 0, .int .u64 0, .int .u64 0, .int .u64 0, .int .u64 0, .int .u64 0, .int .u64 0, .int .u64 0, .int .u64 0, .int .u64 0, .int .u64 0, .int .u64 0, .int .u64 0, .int .u64 0, .int .u64 0, .int .u64 0, .int .u64 0, .int .u64 0, .int .u64 0, .int .u64 0, .int .u64 0, .int .u64 0, .int .u64 0, .int .u64 0, .int .u64 0] 70)) := kx
  have KZ : Hid (Z = ((w.alloc (.cells (lanes L).toArray 70)).alloc (.cells #[.int .u64 0, .int .u64 0, .int .u64 0, .int .u64 0, .int .u64 0, .int .u64 0, .int .u64 0, .int .u64 0, .int .u64 0, .int .u64 0, .int .u64 0, .int .u64 0, .int .u64 0, .int .u64 0, .int .u64 0, .int .u64 0, .int .u64 0, .int .u64 0, .int .u64 0, .int .u64 0, .int .u64 0, .int .u64 0, .int .u64 0, .int .u64 0, .int .u64 0] 70)).alloc (.cells #[.int .u64 0, .int .u64 0, .int .u64 0, .int .u64 0, .int .u64 0, .int .u64 0, .int .u64 0, .int .u64 0, .int .u64 0, .int .u64 0, .int .u64 0, .int .u64 0, .int .u64 0, .int .u64 0, .int .u64 0, .int .u64 0, .int .u64 0, .int .u64 0, .int .u64 0, .int .u64 0, .int .u64 0, .int .u64 0, .int .u64 0, .int .u64 0, .int .u64 0] 70)) := by rw [kz, kx]; exact rfl
  clear kx kz xs
  have HM : Hid ((lanes L).length = 25) := by rw [lanes_len]; exact hl
  have SZ := lanes_size hl
  have OC := one_lanes L
  go_wp2_with (first | refine wpList_load_mid rfl 70 _ rfl w.heap.size 0 rfl (lanes L) _ (by rw [← KX.out]; exact XX.out.2.1.2.1.range) Tryd.underlying70 rfl (by rw [HM.out]; kernel_rfl) ?_ | refine wpList_store_mid rfl 70 _ _ rfl (w.heap.size + 1 + 1) 0 _ rfl rfl (by rw [← KZ.out, SZ]; exact ZZ.out.2.2.there) (by rw [SZ]; kernel_rfl) OC ?_)
  rw [← KZ.out]
  refine wp_world (fun W => Below w.heap.size w W ∧ Arr W (w.heap.size + 1) (List.replicate 25 0) ∧ Arr W (w.heap.size + 1 + 1) L) ⟨below_setCells (by omega) _ 0 Z ZZ.out.1, ZZ.out.2.1.otherCells (by omega) _, ZZ.out.2.2.stored hl⟩ ?_
  rintro W ⟨B, hR, hA⟩
  have NN : Hid (w.heap.size + 1 + 1 ≠ w.heap.size + 1 ∧ w.heap.size ≤ w.heap.size + 1 + 1 ∧ w.heap.size ≤ w.heap.size + 1) := ⟨by omega, by omega, by omega⟩
  clear XX ZZ KX KZ HM SZ OC hl
  clear X Z
  generalize w.heap.size + 1 + 1 = ba at *
  generalize w.heap.size + 1 = br at *
  go_loopg [4] 24 (fun k iv wr => ∃ i : Nat, k = 24 - i ∧ i ≤ 24 ∧ iv = .int .i64 i ∧ Below w.heap.size w wr ∧ Arr wr br (List.replicate 25 0) ∧ Arr wr ba (rnds L i))
  case atStart => exact ⟨0, rfl, by decide, rfl, B, hR, hA⟩
  case round =>
    clear B hR hA
    obtain ⟨i, hk, hi, rfl, hf⟩ := hrel
    have HK : Hid (gk = 24 - i) := hk
    have HF : Hid (Below w.heap.size w wr ∧ Arr wr br (List.replicate 25 0) ∧ Arr wr ba (rnds L i)) := hf
    clear hk hf
    by_cases h8 : i = 24
    · subst h8
      have EL : Hid (rnds L 24 = perm L) := rfl
      have rb := HF.out.2.2.2.1.range
      have sz := lanes_size HF.out.2.2.1
      have tr : wr.there br 0 ((lanes (rnds L 24)).toArray).size := by rw [sz]; exact HF.out.2.1.there
      have oc := one_lanes (rnds L 24)
      generalize hM : lanes (rnds L 24) = M at *
      have HM : Hid (M.length = 25) := by rw [← hM, lanes_len]; exact HF.out.2.2.1
      go_wp2_with (first | refine wpList_load_mid rfl 70 _ rfl ba 0 rfl M _ rb Tryd.underlying70 rfl (by rw [HM.out]; kernel_rfl) ?_ | refine wpList_store_mid rfl 70 _ _ rfl br 0 _ rfl rfl tr (by rw [sz]; kernel_rfl) oc ?_)
      have ld := run_loadVar_mid (P := Tryd.prog) (wr.setCells br 0 M) br 0 70 M _ (World.rangeAt_setCells_same _ _ _ _ (by simpa using tr)) Tryd.underlying70 rfl (by rw [HM.out]; kernel_rfl)
      refine bodyPost_ret (v := .agg M.toArray) ?_ rfl ⟨by rw [← hM, EL.out], below_setCells NN.out.2.2 M 0 wr HF.out.1⟩
      simp [results, Tryd.results45, Act.put, asAddr, ld]
    · have hi' : (i : Int) < 24 := by omega
      obtain ⟨A, ka⟩ : ∃ A, A = rnds L i := ⟨_, rfl⟩
      obtain ⟨m, km⟩ : ∃ m, m = marksN.getD i 0 := ⟨_, rfl⟩
      have KM : Hid (rnds L (i + 1) = rnd A m ∧ m = marksN.getD i 0) := ⟨by rw [ka, km]; exact rfl, km⟩
      rw [← ka] at HF
      clear ka km
      have lA : Hid (A.length = 25) := HF.out.2.2.1
      have rb := HF.out.2.2.2.1.range
      have HM : Hid ((lanes A).length = 25) := by rw [lanes_len]; exact lA.out
      go_wp2_with (refine wpList_load_mid rfl 70 _ rfl ba 0 rfl (lanes A) _ rb Tryd.underlying70 rfl (by rw [HM.out]; kernel_rfl) ?_)
      clear rb HM
      refine (columns_any lA.out _).mono ?_
      rintro e w0 ⟨rfl, hb⟩
      replace HF : Hid (Below w.heap.size w w0 ∧ Arr w0 br (List.replicate 25 0) ∧ Arr w0 ba A) := ⟨HF.out.1.trans (hb.mono HF.out.1.size), HF.out.2.1.keep hb, HF.out.2.2.keep hb⟩
      clear hb
      obtain ⟨A1, k0⟩ : ∃ A', A' = mapL (colF A) := ⟨_, rfl⟩
      rw [← k0]
      have K0 : Hid (A1 = mapL (colF A)) := k0
      have l0 : Hid (A1.length = 25) := by rw [k0]; exact mapL_len _
      clear k0
      have sz := lanes_size l0.out
      have tr : w0.there ba 0 ((lanes A1).toArray).size := by rw [sz]; exact HF.out.2.2.there
      have oc := one_lanes A1
      have rb : (w0.setCells ba 0 (lanes A1)).rangeAt ba 0 (lanes A1) := (HF.out.2.2.stored l0.out).2.1.range
      have HM : Hid ((lanes A1).length = 25) := by rw [lanes_len]; exact l0.out
      go_wp2_with (first | refine wpList_store_mid rfl 70 _ _ rfl ba 0 _ rfl rfl tr (by rw [sz]; kernel_rfl) oc ?_ | refine wpList_load_mid rfl 70 _ rfl ba 0 rfl (lanes A1) _ rb Tryd.underlying70 rfl (by rw [HM.out]; kernel_rfl) ?_)
      refine calls_world (fun W => Below w.heap.size w W ∧ Arr W br (List.replicate 25 0) ∧ Arr W ba A1) ⟨below_setCells NN.out.2.1 _ 0 w0 HF.out.1, HF.out.2.1.otherCells NN.out.1 _, HF.out.2.2.stored l0.out⟩ ?_
      clear HF sz tr oc lA rb HM
      rintro W0 HF'
      have HF : Hid (Below w.heap.size w W0 ∧ Arr W0 br (List.replicate 25 0) ∧ Arr W0 ba A1) := HF'
      have lA : Hid (A1.length = 25) := l0.out
      clear HF' l0
      refine (moved_any lA.out _ (HH.out.1.keep HF.out.1)).mono ?_
      rintro e w1 ⟨rfl, hb⟩
      replace HF : Hid (Below w.heap.size w w1 ∧ Arr w1 br (List.replicate 25 0) ∧ Arr w1 ba A1) := ⟨HF.out.1.trans (hb.mono HF.out.1.size), HF.out.2.1.keep hb, HF.out.2.2.keep hb⟩
      clear hb
      obtain ⟨A2, k1⟩ : ∃ A', A' = mapL (movF A1) := ⟨_, rfl⟩
      rw [← k1]
      have K1 : Hid (A2 = mapL (movF A1)) := k1
      have l1 : Hid (A2.length = 25) := by rw [k1]; exact mapL_len _
      clear k1
      have sz := lanes_size l1.out
      have tr : w1.there ba 0 ((lanes A2).toArray).size := by rw [sz]; exact HF.out.2.2.there
      have oc := one_lanes A2
      have rb : (w1.setCells ba 0 (lanes A2)).rangeAt ba 0 (lanes A2) := (HF.out.2.2.stored l1.out).2.1.range
      have HM : Hid ((lanes A2).length = 25) := by rw [lanes_len]; exact l1.out
      go_wp2_with (first | refine wpList_store_mid rfl 70 _ _ rfl ba 0 _ rfl rfl tr (by rw [sz]; kernel_rfl) oc ?_ | refine wpList_load_mid rfl 70 _ rfl ba 0 rfl (lanes A2) _ rb Tryd.underlying70 rfl (by rw [HM.out]; kernel_rfl) ?_)
      refine calls_world (fun W => Below w.heap.size w W ∧ Arr W br (List.replicate 25 0) ∧ Arr W ba A2) ⟨below_setCells NN.out.2.1 _ 0 w1 HF.out.1, HF.out.2.1.otherCells NN.out.1 _, HF.out.2.2.stored l1.out⟩ ?_
      clear HF sz tr oc lA rb HM
      rintro W1 HF'
      have HF : Hid (Below w.heap.size w W1 ∧ Arr W1 br (List.replicate 25 0) ∧ Arr W1 ba A2) := HF'
      have lA : Hid (A2.length = 25) := l1.out
      clear HF' l1
      refine (mixed_any lA.out _).mono ?_
      rintro e w2 ⟨rfl, hb⟩
      replace HF : Hid (Below w.heap.size w w2 ∧ Arr w2 br (List.replicate 25 0) ∧ Arr w2 ba A2) := ⟨HF.out.1.trans (hb.mono HF.out.1.size), HF.out.2.1.keep hb, HF.out.2.2.keep hb⟩
      clear hb
      obtain ⟨A3, k2⟩ : ∃ A', A' = mapL (mixF A2) := ⟨_, rfl⟩
      rw [← k2]
      have K2 : Hid (A3 = mapL (mixF A2)) := k2
      have l2 : Hid (A3.length = 25) := by rw [k2]; exact mapL_len _
      clear k2
      have sz := lanes_size l2.out
      have tr : w2.there ba 0 ((lanes A3).toArray).size := by rw [sz]; exact HF.out.2.2.there
      have oc := one_lanes A3
      have rb : (w2.setCells ba 0 (lanes A3)).rangeAt ba 0 (lanes A3) := (HF.out.2.2.stored l2.out).2.1.range
      have HM : Hid ((lanes A3).length = 25) := by rw [lanes_len]; exact l2.out
      go_wp2_with (refine wpList_store_mid rfl 70 _ _ rfl ba 0 _ rfl rfl tr (by rw [sz]; kernel_rfl) oc ?_)
      refine wp_world (fun W => Below w.heap.size w W ∧ Arr W br (List.replicate 25 0) ∧ Arr W ba A3) ⟨below_setCells NN.out.2.1 _ 0 w2 HF.out.1, HF.out.2.1.otherCells NN.out.1 _, HF.out.2.2.stored l2.out⟩ ?_
      clear HF sz tr oc lA rb HM
      rintro W2 HF'
      have HF : Hid (Below w.heap.size w W2 ∧ Arr W2 br (List.replicate 25 0) ∧ Arr W2 ba A3) := HF'
      have lA : Hid (A3.length = 25) := l2.out
      clear HF' l2
      have g0 := HF.out.2.2.2.1 0 (by rw [lA.out]; decide)
      have f0 := HF.out.2.2.2.2 0 (by decide)
      have gm : W2.cell? ⟨0, i, none⟩ = some (.int .u64 (V m)) := by rw [KM.out.2]; exact HH.out.2.keep HF.out.1 i (by simp [marksN]; omega)
      have EF : Hid (A3.set 0 (A3.getD 0 0 ^^^ m) = rnds L (i + 1)) := by rw [KM.out.1, K2.out, K1.out, K0.out]; exact rnd_ref A m
      obtain ⟨z, kz⟩ : ∃ z, z = A3.getD 0 0 := ⟨_, rfl⟩
      rw [← kz] at g0 EF
      clear kz
      have vz := V_xor z m
      simp only [Act.put]
      refine region_tail 7 (by kernel_rfl) (by kernel_rfl) ?_
      simp only [List.take_succ_cons, List.take_zero, List.drop_succ_cons, List.drop_zero]
      repeat (first | go_big_quiet_skip | (go_big_quiet_want; go_big_quiet_op; go_big_quiet_on))
      refine wpQuiet_nil ?_
      go_wp2
      go_roundg (24 - (i + 1))
      case measure => have := HK.out; omega
      case rel =>
        refine ⟨i + 1, rfl, by omega, by go_num, HF.out.1.drew.setCell NN.out.2.1 _, HF.out.2.1.drew.other NN.out.1 _, ?_⟩
        rw [← EF.out]
        exact HF.out.2.2.drew.set 0 (by decide) _

end Go.Proofs.YtkbmonlbgnnjlaaDoor.K

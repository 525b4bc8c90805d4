import Derived.Test.YtmhcgjkemlcgoaaDoorKMixed
namespace Go.Proofs.YtmhcgjkemlcgoaaDoor.K
open Go.RowKit Go.Sort

theorem turns_lt : ∀ p, p < 25 → turnsN.getD p 0 < 64 := by decide

set_option maxRecDepth 100000 in
set_option maxHeartbeats 4000000 in
theorem moved_any {A : List (BitVec 64)} (hl : A.length = 25) (w : World) (ht : Tab w 3 turnsN) :
    Calls Tryd.prog 41 #[.agg (lanes A).toArray] w fun e w' => e = .returned (.agg (lanes (mapL (movF A))).toArray) ∧ Below w.heap.size w w' := by
  have HT : Hid (Tab w 3 turnsN) := ht
  clear ht
  go_enter Tryd.func41, Tryd.ntmps41
  go_wp2_with fail
  refine wp_world (fun W => Below w.heap.size w W ∧ Arr W w.heap.size A ∧ Arr W (w.heap.size + 1) (List.replicate 25 0) ∧ Arr W (w.heap.size + 1 + 1) (List.replicate 25 0)) ⟨?_, ((Arr.new hl _ rfl).alloc _).alloc _, (Arr.zeros _ (by simp)).alloc _, Arr.zeros _ (by simp)⟩ ?_
  · repeat (first | with_reducible exact Below.refl _ _ | with_reducible refine Below.alloc ?_ (by first | omega | (simp; done) | (simp; omega)) _)
  rintro W ⟨B, hA, hR, hO⟩
  have c1 : w.heap.size + 1 + 1 ≠ w.heap.size := by omega
  have c2 : w.heap.size + 1 + 1 ≠ w.heap.size + 1 := by omega
  have o2 : w.heap.size ≤ w.heap.size + 1 + 1 := by omega
  have o1 : w.heap.size ≤ w.heap.size + 1 := by omega
  have NN : Hid (w.heap.size + 1 + 1 ≠ w.heap.size ∧ w.heap.size + 1 + 1 ≠ w.heap.size + 1 ∧ w.heap.size ≤ w.heap.size + 1 + 1 ∧ w.heap.size ≤ w.heap.size + 1) := ⟨c1, c2, o2, o1⟩
  clear c1 c2 o1 o2 hl
  generalize w.heap.size + 1 + 1 = bo at *
  generalize w.heap.size + 1 = br at *
  go_loopg [4] 5 (fun k iv wr => ∃ (x : Nat) (L : List (BitVec 64)), k = 5 - x ∧ x ≤ 5 ∧ iv = .int .i64 x ∧ Upto ordB (movF A) (5 * x) L ∧ Below w.heap.size w wr ∧ Arr wr w.heap.size A ∧ Arr wr br (List.replicate 25 0) ∧ Arr wr bo L)
  case atStart => exact ⟨0, _, rfl, by decide, rfl, Upto.zero _ _ _, B, hA, hR, hO⟩
  case round =>
    clear B hA hR hO
    obtain ⟨x, L, hk, hx, rfl, up, B, hA, hR, hO⟩ := hrel
    have HK : Hid (gk = 5 - x) := hk
    have HF : Hid (Below w.heap.size w wr ∧ Arr wr w.heap.size A ∧ Arr wr br (List.replicate 25 0) ∧ Arr wr bo L) := ⟨B, hA, hR, hO⟩
    have UP : Hid (Upto ordB (movF A) (5 * x) L) := up
    clear hk B hA hR hO up
    by_cases h8 : x = 5
    · subst h8
      have eL : L = mapL (movF A) := UP.out.all HF.out.2.2.2.1 ordB_lt
      have EL : Hid (L = mapL (movF A)) := eL
      have rb := HF.out.2.2.2.2.1.range
      have sz : ((lanes L).toArray).size = 25 := by simp [lanes_len, HF.out.2.2.2.1]
      have tr : wr.there br 0 ((lanes L).toArray).size := by rw [sz]; exact HF.out.2.2.1.there
      have oc := one_lanes L
      clear eL
      generalize hM : lanes L = M at *
      have HM : Hid (M.length = 25) := by rw [← hM, lanes_len]; exact HF.out.2.2.2.1
      go_wp2_with (first | refine wpList_load_mid rfl 47 _ rfl bo 0 rfl M _ rb Tryd.underlying47 rfl (by rw [HM.out]; kernel_rfl) ?_ | refine wpList_store_mid rfl 47 _ _ rfl br 0 _ rfl rfl tr (by rw [sz]; kernel_rfl) oc ?_)
      have ld := run_loadVar_mid (P := Tryd.prog) (wr.setCells br 0 M) br 0 47 M _ (World.rangeAt_setCells_same _ _ _ _ (by simpa using tr)) Tryd.underlying47 rfl (by rw [HM.out]; kernel_rfl)
      refine bodyPost_ret (v := .agg M.toArray) ?_ rfl ⟨by rw [← hM, EL.out], below_setCells NN.out.2.2.2 M 0 wr HF.out.1⟩
      simp [results, Tryd.results41, Act.put, asAddr, ld]
    · have hx' : (x : Int) < 5 := by omega
      go_wp2_with fail
      go_loopg [5] 5 (fun k iv wr => ∃ (y : Nat) (L : List (BitVec 64)), k = 5 - y ∧ y ≤ 5 ∧ iv = .int .i64 y ∧ Upto ordB (movF A) (5 * x + y) L ∧ Below w.heap.size w wr ∧ Arr wr w.heap.size A ∧ Arr wr br (List.replicate 25 0) ∧ Arr wr bo L)
      case atStart => exact ⟨0, _, rfl, by decide, rfl, UP.out, HF.out.1, HF.out.2.1, HF.out.2.2.1, HF.out.2.2.2⟩
      case round =>
        clear HF UP
        obtain ⟨y, L, hk, hy, rfl, up, B, hA, hR, hO⟩ := hrel
        have HK2 : Hid (gk = 5 - y) := hk
        have HF : Hid (Below w.heap.size w wr ∧ Arr wr w.heap.size A ∧ Arr wr br (List.replicate 25 0) ∧ Arr wr bo L) := ⟨B, hA, hR, hO⟩
        have UP : Hid (Upto ordB (movF A) (5 * x + y) L) := up
        clear hk B hA hR hO up
        by_cases h9 : y = 5
        · subst h9
          go_wp2
          go_roundg (5 - (x + 1))
          case measure => have := HK.out; omega
          case rel => exact ⟨x + 1, L, rfl, by omega, by go_num, UP.out, HF.out.1, HF.out.2.1, HF.out.2.2.1, HF.out.2.2.2⟩
        · have hy' : (y : Int) < 5 := by omega
          obtain ⟨n0, e0⟩ : ∃ n : Nat, n = x + 5 * y := ⟨_, rfl⟩
          have q0 : (n0 : Int) < 25 := by omega
          have P0 : Hid (∀ W, Calls Tryd.prog 52 #[.int .i64 x, .int .i64 y] W fun e w' => e = .returned (.int .i64 (n0 : Int)) ∧ w' = W) := at_is x y n0 (by omega) (by omega) (by omega)
          obtain ⟨q, e1⟩ : ∃ n : Nat, n = y + 5 * ((2 * x + 3 * y) % 5) := ⟨_, rfl⟩
          have q1 : (q : Int) < 25 := by omega
          have P1 : Hid (∀ W, Calls Tryd.prog 52 #[.int .i64 y, .int .i64 (2 * (x : Int) + 3 * (y : Int))] W fun e w' => e = .returned (.int .i64 (q : Int)) ∧ w' = W) := fun W => by
            have h := at_is y (2 * x + 3 * y) q (by omega) (by omega) (by omega) W
            rw [show ((2 * x + 3 * y : Nat) : Int) = 2 * (x : Int) + 3 * (y : Int) by omega] at h
            exact h
          have g0 := HF.out.2.1.2.1 n0 (by rw [HF.out.2.1.1]; omega)
          have g1 := HT.out.keep HF.out.1 n0 (by simp [turnsN]; omega)
          have gs := HF.out.2.2.2.2.1 q (by rw [HF.out.2.2.2.1]; omega)
          have fs := HF.out.2.2.2.2.2 q (by omega)
          have sq : srcN.getD q 0 = n0 := by rw [e1, e0]; exact src_at x (by omega) y (by omega)
          have EF : Hid ((A.getD n0 0).rotateLeft (turnsN.getD n0 0) = movF A q) := by
            unfold movF
            rw [sq]
            exact rfl
          have tl : turnsN.getD n0 0 < 64 := turns_lt n0 (by omega)
          have EE : Hid (q = y + 5 * ((2 * x + 3 * y) % 5)) := e1
          clear e0 e1 sq
          generalize A.getD n0 0 = a0 at *
          generalize turnsN.getD n0 0 = t0 at *
          have tl' : (t0 : Int) < 64 := by omega
          have P2 : Hid (∀ W, Calls Tryd.prog 53 #[.int .u64 (V a0), .int .i64 (t0 : Int)] W fun e w' => e = .returned (.int .u64 (V (a0.rotateLeft t0))) ∧ w' = W) := rot_any a0 tl
          clear tl
          go_wp2_with fail
          refine region_tail 19 (by kernel_rfl) (by kernel_rfl) ?_
          simp only [List.take_succ_cons, List.take_zero, List.drop_succ_cons, List.drop_zero]
          repeat (first | go_big_quiet_skip | (go_big_quiet_want; go_big_quiet_op; first | go_big_quiet_on | (with_reducible refine ⟨_, P0.out _, ?_⟩; go_big_quiet_on) | (with_reducible refine ⟨_, P1.out _, ?_⟩; go_big_quiet_on) | (with_reducible refine ⟨_, P2.out _, ?_⟩; go_big_quiet_on)))
          refine wpQuiet_nil ?_
          go_wp2
          go_roundg (5 - (y + 1))
          case measure => have := HK2.out; omega
          case rel =>
            refine ⟨y + 1, L.set q (a0.rotateLeft t0), rfl, by omega, by go_num, ?_, HF.out.1.drew.setCell NN.out.2.2.1 _, HF.out.2.1.drew.other NN.out.1 _, HF.out.2.2.1.drew.other NN.out.2.1 _, HF.out.2.2.2.drew.set q (by omega) _⟩
            exact UP.out.step HF.out.2.2.2.1 (by omega) (fun p hp h => by rw [EE.out]; exact ordB_one (by omega) hp h) EF.out

end Go.Proofs.YtmhcgjkemlcgoaaDoor.K

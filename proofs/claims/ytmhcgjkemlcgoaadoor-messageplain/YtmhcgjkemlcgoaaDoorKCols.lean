import Derived.Test.YtmhcgjkemlcgoaaDoorKMoved
namespace Go.Proofs.YtmhcgjkemlcgoaaDoor.K
open Go.RowKit Go.Sort

/-- Block b holds the five columns' sums and may be written. -/
def Cols (W : World) (b : Nat) (C : List (BitVec 64)) : Prop := C.length = 5 ∧ Lns W b C ∧ Loose W b 5
theorem Cols.lt {W : World} {b : Nat} {C : List (BitVec 64)} (h : Cols W b C) : b < W.heap.size := h.2.1.lt (by rw [h.1]; decide)
theorem Cols.keep {W w1 : World} {b : Nat} {C : List (BitVec 64)} (h : Cols W b C) (hb : Below W.heap.size W w1) : Cols w1 b C := ⟨h.1, h.2.1.keep hb, h.2.2.keep hb h.lt⟩
theorem Cols.alloc {W : World} {b : Nat} {C : List (BitVec 64)} (h : Cols W b C) (o : Obj) : Cols (W.alloc o) b C := h.keep ((Below.refl _ _).alloc (Nat.le_refl _) o)
theorem Cols.drew {W : World} {b : Nat} {C : List (BitVec 64)} (h : Cols W b C) : Cols W.drew b C := h
theorem Cols.other {W : World} {b b' i : Nat} {C : List (BitVec 64)} (h : Cols W b C) (ne : b' ≠ b) (v : Value) : Cols (W.setCell ⟨b', i, none⟩ v) b C := ⟨h.1, h.2.1.other ne v, h.2.2.set _ _⟩
theorem Cols.otherCells {W : World} {b b' o : Nat} {C : List (BitVec 64)} (h : Cols W b C) (ne : b' ≠ b) (cs : List Value) : Cols (W.setCells b' o cs) b C := ⟨h.1, h.2.1.otherCells ne cs, h.2.2.setCells _ _ _⟩
theorem Cols.set {W : World} {b : Nat} {C : List (BitVec 64)} (h : Cols W b C) (i : Nat) (hi : i < 5) (v : BitVec 64) : Cols (W.setCell ⟨b, i, none⟩ (.int .u64 (V v))) b (C.set i v) :=
  ⟨by rw [List.length_set]; exact h.1, h.2.1.set i (by rw [h.1]; exact hi) v, h.2.2.set _ _⟩
theorem Cols.zeros {W : World} {b : Nat} (t : TypeId) (e : b = W.heap.size) : Cols (W.alloc (.cells #[.int .u64 0, .int .u64 0, .int .u64 0, .int .u64 0, .int .u64 0] t)) b (List.replicate 5 0) := by
  have h : V 0#64 = 0 := V_zero
  have z : (lanes (List.replicate 5 0)).toArray = #[.int .u64 0, .int .u64 0, .int .u64 0, .int .u64 0, .int .u64 0] := by simp [lanes, List.replicate, h]
  rw [← z]
  exact ⟨by simp, Lns.new _ _ e, Loose.new _ _ _ e⟩

set_option maxRecDepth 100000 in
set_option maxHeartbeats 4000000 in
theorem columns_any {A : List (BitVec 64)} (hl : A.length = 25) (w : World) :
    Calls Tryd.prog 40 #[.agg (lanes A).toArray] w fun e w' => e = .returned (.agg (lanes (mapL (colF A))).toArray) ∧ Below w.heap.size w w' := by
  go_enter Tryd.func40, Tryd.ntmps40
  go_wp2_with fail
  refine wp_world (fun W => Below w.heap.size w W ∧ Arr W w.heap.size A ∧ Arr W (w.heap.size + 1) (List.replicate 25 0) ∧ Cols W (w.heap.size + 1 + 1) (List.replicate 5 0)) ⟨?_, ((Arr.new hl _ rfl).alloc _).alloc _, (Arr.zeros _ (by simp)).alloc _, Cols.zeros _ (by simp)⟩ ?_
  · repeat (first | with_reducible exact Below.refl _ _ | with_reducible refine Below.alloc ?_ (by first | omega | (simp; done) | (simp; omega)) _)
  rintro W ⟨B, hA, hR, hC⟩
  have c1 : w.heap.size + 1 + 1 ≠ w.heap.size := by omega
  have c2 : w.heap.size + 1 + 1 ≠ w.heap.size + 1 := by omega
  have o2 : w.heap.size ≤ w.heap.size + 1 + 1 := by omega
  have o1 : w.heap.size ≤ w.heap.size + 1 := by omega
  have NN : Hid (w.heap.size + 1 + 1 ≠ w.heap.size ∧ w.heap.size + 1 + 1 ≠ w.heap.size + 1 ∧ w.heap.size ≤ w.heap.size + 1 + 1 ∧ w.heap.size ≤ w.heap.size + 1) := ⟨c1, c2, o2, o1⟩
  clear c1 c2 o1 o2 hl
  generalize w.heap.size + 1 + 1 = bc at *
  generalize w.heap.size + 1 = br at *
  go_loopg [4] 5 (fun k iv wr => ∃ (x : Nat) (C : List (BitVec 64)), k = 5 - x ∧ x ≤ 5 ∧ iv = .int .i64 x ∧ (∀ t, t < x → C.getD t 0 = colX A t) ∧ Below w.heap.size w wr ∧ Arr wr w.heap.size A ∧ Arr wr br (List.replicate 25 0) ∧ Cols wr bc C)
  case atStart => exact ⟨0, _, rfl, by decide, rfl, fun t h => absurd h (Nat.not_lt_zero _), B, hA, hR, hC⟩
  case round =>
    clear B hA hR hC
    obtain ⟨x, C, hk, hx, rfl, up, B, hA, hR, hC⟩ := hrel
    have HK : Hid (gk = 5 - x) := hk
    have HF : Hid (Below w.heap.size w wr ∧ Arr wr w.heap.size A ∧ Arr wr br (List.replicate 25 0) ∧ Cols wr bc C) := ⟨B, hA, hR, hC⟩
    have UP : Hid (∀ t, t < x → C.getD t 0 = colX A t) := up
    clear hk B hA hR hC up
    by_cases h8 : x = 5
    · subst h8
      have rb := HF.out.2.1.2.1.range
      have sz : ((lanes A).toArray).size = 25 := by simp [lanes_len, HF.out.2.1.1]
      have oc := one_lanes A
      obtain ⟨Z, kz⟩ : ∃ Z, Z = wr.alloc (.cells (lanes (List.replicate 25 0)).toArray 47) := ⟨_, rfl⟩
      have hD : Arr Z wr.heap.size (List.replicate 25 0) := by rw [kz]; exact Arr.new (by simp) _ rfl
      have tr : Z.there wr.heap.size 0 ((lanes A).toArray).size := by rw [sz]; exact hD.there
      have ZZ : Hid (Below w.heap.size w Z ∧ Arr Z w.heap.size A ∧ Arr Z br (List.replicate 25 0) ∧ Cols Z bc C ∧ Arr Z wr.heap.size (List.replicate 25 0)) := by
        refine ⟨?_, ?_, ?_, ?_, hD⟩ <;> rw [kz]
        · exact HF.out.1.alloc HF.out.1.size _
        · exact HF.out.2.1.alloc _
        · exact HF.out.2.2.1.alloc _
        · exact HF.out.2.2.2.alloc _
      have N2 : Hid (wr.heap.size ≠ w.heap.size ∧ wr.heap.size ≠ br ∧ wr.heap.size ≠ bc ∧ w.heap.size ≤ wr.heap.size) := ⟨by have := HF.out.2.1.lt; omega, by have := HF.out.2.2.1.lt; omega, by have := HF.out.2.2.2.lt; omega, HF.out.1.size⟩
      rw [zeros25] at kz
      clear hD
      generalize hM : lanes A = M at *
      have HM : Hid (M.length = 25) := by rw [← hM, lanes_len]; exact HF.out.2.1.1
      have KZ : Hid (Z = wr.alloc (.cells #[.int .u64 0, .int .u64 0, .int .u64 0, .int .u64 0, .int .u64 0, .int .u64 0, .int .u64 0, .int .u64 0, .int .u64 0, .int .u64 0, .int .u64 0, .int .u64 0, .int .u64 0, .int .u64 0, .int .u64 0, .int .u64 0, .int .u64 0, .int .u64 0, .int .u64 0, .int .u64 0, .int .u64 0, .int .u64 0, .int .u64 0, .int .u64 0, .int .u64 0] 47)) := kz
      clear kz
      go_wp2_with (first | refine wpList_load_mid rfl 47 _ rfl w.heap.size 0 rfl M _ rb Tryd.underlying47 rfl (by rw [HM.out]; kernel_rfl) ?_ | refine wpList_store_mid rfl 47 _ _ rfl wr.heap.size 0 _ rfl rfl (by rw [← KZ.out]; exact tr) (by rw [sz]; kernel_rfl) oc ?_)
      rw [← KZ.out]
      have CC : Hid (∀ t, t < 5 → C.getD t 0 = colX A t) := UP.out
      clear UP HK
      refine wp_world (fun W => Below w.heap.size w W ∧ Arr W w.heap.size A ∧ Arr W br (List.replicate 25 0) ∧ Cols W bc C ∧ Arr W wr.heap.size A) ⟨below_setCells N2.out.2.2.2 M 0 Z ZZ.out.1, ZZ.out.2.1.otherCells N2.out.1 _, ZZ.out.2.2.1.otherCells N2.out.2.1 _, ZZ.out.2.2.2.1.otherCells N2.out.2.2.1 _, by rw [← hM]; exact ZZ.out.2.2.2.2.stored HF.out.2.1.1⟩ ?_
      clear HF ZZ KZ rb sz oc tr HM hx
      rintro W2 ⟨B, hA, hR, hC, hD⟩
      generalize wr.heap.size = bd at *
      go_loopg [6] 5 (fun k iv wr => ∃ (x : Nat) (L : List (BitVec 64)), k = 5 - x ∧ x ≤ 5 ∧ iv = .int .i64 x ∧ Upto ordA (colF A) (5 * x) L ∧ Below w.heap.size w wr ∧ Arr wr w.heap.size A ∧ Arr wr br (List.replicate 25 0) ∧ Cols wr bc C ∧ Arr wr bd L)
      case atStart => exact ⟨0, _, rfl, by decide, rfl, Upto.zero _ _ _, B, hA, hR, hC, hD⟩
      case round =>
        clear B hA hR hC hD
        obtain ⟨x, L, hk, hx, rfl, up, hf⟩ := hrel
        have HK : Hid (gk = 5 - x) := hk
        have HF : Hid (Below w.heap.size w wr ∧ Arr wr w.heap.size A ∧ Arr wr br (List.replicate 25 0) ∧ Cols wr bc C ∧ Arr wr bd L) := hf
        have UP : Hid (Upto ordA (colF A) (5 * x) L) := up
        clear hk hf up
        by_cases h8 : x = 5
        · subst h8
          have eL : L = mapL (colF A) := UP.out.all HF.out.2.2.2.2.1 ordA_lt
          have EL : Hid (L = mapL (colF A)) := eL
          have rb := HF.out.2.2.2.2.2.1.range
          have sz : ((lanes L).toArray).size = 25 := by simp [lanes_len, HF.out.2.2.2.2.1]
          have tr : wr.there br 0 ((lanes L).toArray).size := by rw [sz]; exact HF.out.2.2.1.there
          have oc := one_lanes L
          clear eL
          generalize hM : lanes L = M at *
          have HM : Hid (M.length = 25) := by rw [← hM, lanes_len]; exact HF.out.2.2.2.2.1
          go_wp2_with (first | refine wpList_load_mid rfl 47 _ rfl bd 0 rfl M _ rb Tryd.underlying47 rfl (by rw [HM.out]; kernel_rfl) ?_ | refine wpList_store_mid rfl 47 _ _ rfl br 0 _ rfl rfl tr (by rw [sz]; kernel_rfl) oc ?_)
          have ld := run_loadVar_mid (P := Tryd.prog) (wr.setCells br 0 M) br 0 47 M _ (World.rangeAt_setCells_same _ _ _ _ (by simpa using tr)) Tryd.underlying47 rfl (by rw [HM.out]; kernel_rfl)
          refine bodyPost_ret (v := .agg M.toArray) ?_ rfl ⟨by rw [← hM, EL.out], below_setCells NN.out.2.2.2 M 0 wr HF.out.1⟩
          simp [results, Tryd.results40, Act.put, asAddr, ld]
        · have hx' : (x : Int) < 5 := by omega
          go_wp2_with fail
          go_loopg [7] 5 (fun k iv wr => ∃ (y : Nat) (L : List (BitVec 64)), k = 5 - y ∧ y ≤ 5 ∧ iv = .int .i64 y ∧ Upto ordA (colF A) (5 * x + y) L ∧ Below w.heap.size w wr ∧ Arr wr w.heap.size A ∧ Arr wr br (List.replicate 25 0) ∧ Cols wr bc C ∧ Arr wr bd L)
          case atStart => exact ⟨0, _, rfl, by decide, rfl, UP.out, HF.out⟩
          case round =>
            clear HF UP
            obtain ⟨y, L, hk, hy, rfl, up, hf⟩ := hrel
            have HK2 : Hid (gk = 5 - y) := hk
            have HF : Hid (Below w.heap.size w wr ∧ Arr wr w.heap.size A ∧ Arr wr br (List.replicate 25 0) ∧ Cols wr bc C ∧ Arr wr bd L) := hf
            have UP : Hid (Upto ordA (colF A) (5 * x + y) L) := up
            clear hk hf up
            by_cases h9 : y = 5
            · subst h9
              go_wp2
              go_roundg (5 - (x + 1))
              case measure => have := HK.out; omega
              case rel => exact ⟨x + 1, L, rfl, by omega, by go_num, UP.out, HF.out⟩
            · have hy' : (y : Int) < 5 := by omega
              obtain ⟨n0, e0⟩ : ∃ n : Nat, n = x + 5 * y := ⟨_, rfl⟩
              have q0 : (n0 : Int) < 25 := by omega
              have P0 : Hid (∀ W, Calls Tryd.prog 52 #[.int .i64 x, .int .i64 y] W fun e w' => e = .returned (.int .i64 (n0 : Int)) ∧ w' = W) := at_is x y n0 (by omega) (by omega) (by omega)
              have g0 := HF.out.2.1.2.1 n0 (by rw [HF.out.2.1.1]; omega)
              have g1 := HF.out.2.2.2.1.2.1 ((x + 4) % 5) (by rw [HF.out.2.2.2.1.1]; omega)
              have g2 := HF.out.2.2.2.1.2.1 ((x + 1) % 5) (by rw [HF.out.2.2.2.1.1]; omega)
              have gs := HF.out.2.2.2.2.2.1 n0 (by rw [HF.out.2.2.2.2.1]; omega)
              have fs := HF.out.2.2.2.2.2.2 n0 (by omega)
              rw [CC.out _ (by omega)] at g1 g2
              have x0 : n0 % 5 = x := by omega
              have EF : Hid (A.getD n0 0 ^^^ colX A ((x + 4) % 5) ^^^ (colX A ((x + 1) % 5)).rotateLeft 1 = colF A n0) := by
                unfold colF addX
                rw [x0, BitVec.xor_assoc]
                exact rfl
              have e4 : (((x : Int) + 4) % 5).toNat = (x + 4) % 5 := by omega
              have e5 : (((x : Int) + 1) % 5).toNat = (x + 1) % 5 := by omega
              have EE : Hid (n0 = x + 5 * y) := e0
              clear e0 x0
              generalize A.getD n0 0 = a0 at *
              generalize colX A ((x + 4) % 5) = a1 at *
              generalize colX A ((x + 1) % 5) = a2 at *
              have v1 := V_xor a0 a1; have v2 := V_xor (a0 ^^^ a1) (a2.rotateLeft 1)
              have P1 : Hid (∀ W, Calls Tryd.prog 53 #[.int .u64 (V a2), .int .i64 1] W fun e w' => e = .returned (.int .u64 (V (a2.rotateLeft 1))) ∧ w' = W) := rot_any a2 (k := 1) (by decide)
              go_wp2_with fail
              refine region_tail 22 (by kernel_rfl) (by kernel_rfl) ?_
              simp only [List.take_succ_cons, List.take_zero, List.drop_succ_cons, List.drop_zero]
              repeat (first | go_big_quiet_skip | (go_big_quiet_want; go_big_quiet_op; first | go_big_quiet_on | (with_reducible refine ⟨_, P0.out _, ?_⟩; go_big_quiet_on) | (with_reducible refine ⟨_, P1.out _, ?_⟩; go_big_quiet_on)))
              refine wpQuiet_nil ?_
              go_wp2
              go_roundg (5 - (y + 1))
              case measure => have := HK2.out; omega
              case rel =>
                refine ⟨y + 1, L.set n0 (a0 ^^^ a1 ^^^ a2.rotateLeft 1), rfl, by omega, by go_num, ?_, HF.out.1.drew.setCell N2.out.2.2.2 _, HF.out.2.1.drew.other N2.out.1 _, HF.out.2.2.1.drew.other N2.out.2.1 _, HF.out.2.2.2.1.drew.other N2.out.2.2.1 _, HF.out.2.2.2.2.drew.set n0 (by omega) _⟩
                exact UP.out.step HF.out.2.2.2.2.1 (by omega) (fun p hp h => by rw [EE.out]; exact ordA_one (by omega) hp h) EF.out
    · have hx' : (x : Int) < 5 := by omega
      obtain ⟨n0, e0⟩ : ∃ n : Nat, n = x + 0 := ⟨_, rfl⟩
      have q0 : (n0 : Int) < 25 := by omega
      have P0 : Hid (∀ W, Calls Tryd.prog 52 #[.int .i64 x, .int .i64 0] W fun e w' => e = .returned (.int .i64 (n0 : Int)) ∧ w' = W) := at_is x 0 n0 (by omega) (by decide) (by omega)
      have g0 := HF.out.2.1.2.1 n0 (by rw [HF.out.2.1.1]; omega)
      obtain ⟨n1, e1⟩ : ∃ n : Nat, n = x + 5 := ⟨_, rfl⟩
      have q1 : (n1 : Int) < 25 := by omega
      have P1 : Hid (∀ W, Calls Tryd.prog 52 #[.int .i64 x, .int .i64 1] W fun e w' => e = .returned (.int .i64 (n1 : Int)) ∧ w' = W) := at_is x 1 n1 (by omega) (by decide) (by omega)
      have g1 := HF.out.2.1.2.1 n1 (by rw [HF.out.2.1.1]; omega)
      obtain ⟨n2, e2⟩ : ∃ n : Nat, n = x + 10 := ⟨_, rfl⟩
      have q2 : (n2 : Int) < 25 := by omega
      have P2 : Hid (∀ W, Calls Tryd.prog 52 #[.int .i64 x, .int .i64 2] W fun e w' => e = .returned (.int .i64 (n2 : Int)) ∧ w' = W) := at_is x 2 n2 (by omega) (by decide) (by omega)
      have g2 := HF.out.2.1.2.1 n2 (by rw [HF.out.2.1.1]; omega)
      obtain ⟨n3, e3⟩ : ∃ n : Nat, n = x + 15 := ⟨_, rfl⟩
      have q3 : (n3 : Int) < 25 := by omega
      have P3 : Hid (∀ W, Calls Tryd.prog 52 #[.int .i64 x, .int .i64 3] W fun e w' => e = .returned (.int .i64 (n3 : Int)) ∧ w' = W) := at_is x 3 n3 (by omega) (by decide) (by omega)
      have g3 := HF.out.2.1.2.1 n3 (by rw [HF.out.2.1.1]; omega)
      obtain ⟨n4, e4⟩ : ∃ n : Nat, n = x + 20 := ⟨_, rfl⟩
      have q4 : (n4 : Int) < 25 := by omega
      have P4 : Hid (∀ W, Calls Tryd.prog 52 #[.int .i64 x, .int .i64 4] W fun e w' => e = .returned (.int .i64 (n4 : Int)) ∧ w' = W) := at_is x 4 n4 (by omega) (by decide) (by omega)
      have g4 := HF.out.2.1.2.1 n4 (by rw [HF.out.2.1.1]; omega)
      have gs := HF.out.2.2.2.2.1 x (by rw [HF.out.2.2.2.1]; omega)
      have fs := HF.out.2.2.2.2.2 x (by omega)
      have EF : Hid (A.getD n0 0 ^^^ A.getD n1 0 ^^^ A.getD n2 0 ^^^ A.getD n3 0 ^^^ A.getD n4 0 = colX A x) := by rw [e0, e1, e2, e3, e4]; exact rfl
      clear e0 e1 e2 e3 e4
      generalize A.getD n0 0 = a0 at *
      generalize A.getD n1 0 = a1 at *
      generalize A.getD n2 0 = a2 at *
      generalize A.getD n3 0 = a3 at *
      generalize A.getD n4 0 = a4 at *
      have v1 := V_xor a0 a1; have v2 := V_xor (a0 ^^^ a1) a2; have v3 := V_xor (a0 ^^^ a1 ^^^ a2) a3; have v4 := V_xor (a0 ^^^ a1 ^^^ a2 ^^^ a3) a4
      go_wp2_with fail
      refine region_tail 26 (by kernel_rfl) (by kernel_rfl) ?_
      simp only [List.take_succ_cons, List.take_zero, List.drop_succ_cons, List.drop_zero]
      repeat (first | go_big_quiet_skip | (go_big_quiet_want; go_big_quiet_op; first | go_big_quiet_on | (with_reducible refine ⟨_, P0.out _, ?_⟩; go_big_quiet_on) | (with_reducible refine ⟨_, P1.out _, ?_⟩; go_big_quiet_on) | (with_reducible refine ⟨_, P2.out _, ?_⟩; go_big_quiet_on) | (with_reducible refine ⟨_, P3.out _, ?_⟩; go_big_quiet_on) | (with_reducible refine ⟨_, P4.out _, ?_⟩; go_big_quiet_on)))
      refine wpQuiet_nil ?_
      go_wp2
      go_roundg (5 - (x + 1))
      case measure => have := HK.out; omega
      case rel =>
        refine ⟨x + 1, C.set x (a0 ^^^ a1 ^^^ a2 ^^^ a3 ^^^ a4), rfl, by omega, by go_num, fun t ht => ?_, HF.out.1.drew.setCell NN.out.2.2.1 _, HF.out.2.1.drew.other NN.out.1 _, HF.out.2.2.1.drew.other NN.out.2.1 _, HF.out.2.2.2.drew.set x (by omega) _⟩
        by_cases e : t = x
        · subst e; rw [← EF.out]; simp [List.getD, HF.out.2.2.2.1, show t < 5 by omega]
        · rw [← UP.out t (by omega)]; simp [List.getD, List.getElem?_set_ne (Ne.symm e)]

end Go.Proofs.YtmhcgjkemlcgoaaDoor.K

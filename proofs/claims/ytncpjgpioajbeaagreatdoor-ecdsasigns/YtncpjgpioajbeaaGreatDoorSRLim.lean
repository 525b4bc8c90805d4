import Derived.Test.YtncpjgpioajbeaaGreatDoorSRProd
/- The document's limbs and atMost. -/
namespace Go.Proofs.YtncpjgpioajbeaaGreatDoor.S
open Go.RowKit Go.Sort

theorem take8_low {L : List Int} (hl : L.length = 16) (g : Lims L) (hv : vh L < 65536 ^ 8) : vh (L.take 8) = vh L := by
  have sp := vh_split L 8 (by omega)
  have b := vh_bound (g.take 8)
  have c := vh_bound (g.drop 8)
  rw [show (65536 : Int) ^ 8 = 340282366920938463463374607431768211456 by decide] at *
  generalize vh (L.take 8) = a at *
  generalize vh (L.drop 8) = d at *
  omega

set_option maxRecDepth 100000 in
set_option maxHeartbeats 4000000 in
theorem limbs_any {v : Int} (v0 : 0 ≤ v) (v1 : v < 18446744073709551616) (v2 : v < 9223372036854775808) (w : World) :
    Calls Tryz.prog 170 #[.int .i64 v] w fun e w' => (∃ L : List Int, e = .returned (.agg (L.map (Value.int .i64)).toArray) ∧ L.length = 16 ∧ Lims L ∧ vh L = v) ∧ Below w.heap.size w w' := by
  go_enter Tryz.func170, Tryz.ntmps170
  go_wp2_with fail
  refine wp_world (fun W => Below w.heap.size w W ∧ Ih W w.heap.size (List.replicate 16 0) ∧ Ih W (w.heap.size + 1) (List.replicate 16 0)) ⟨by repeat (first | with_reducible exact Below.refl _ _ | with_reducible refine Below.alloc ?_ (by first | omega | (simp; done) | (simp; omega)) _), (Ih.new (List.replicate 16 0) _ rfl).alloc (by simp) _, Ih.new (List.replicate 16 0) _ (by simp)⟩ ?_
  rintro W ⟨B, hR, hP⟩
  have o1 : w.heap.size ≤ w.heap.size + 1 := by omega
  have c1 : w.heap.size + 1 ≠ w.heap.size := by omega
  generalize w.heap.size + 1 = bp at *
  have VV : Hid (0 ≤ v ∧ v < 18446744073709551616 ∧ v < 9223372036854775808) := ⟨v0, v1, v2⟩
  clear v0 v1 v2
  go_loopg [0, 4] 4 (fun k vv iv wr => ∃ (i : Nat) (u : Int) (P : List Int), k = 4 - i ∧ i ≤ 4 ∧ vv = .int .i64 u ∧ iv = .int .i64 i ∧ 0 ≤ u ∧ u < 9223372036854775808 ∧ P.length = 16 ∧ Lims P ∧ (∀ t, i ≤ t → P.getD t 0 = 0) ∧ vh P + 65536 ^ i * u = v ∧ Below w.heap.size w wr ∧ Ih wr w.heap.size (List.replicate 16 0) ∧ Ih wr bp P)
  case atStart => exact ⟨0, v, _, rfl, by decide, rfl, rfl, VV.out.1, VV.out.2.2, by simp, lims_zeros 16, fun t ht => h_zeros_getD 16 t, by rw [vh_zeros]; simp, B, hR, hP⟩
  case round =>
    clear B hR hP
    obtain ⟨i, u, P, hk, hi, rfl, rfl, u0, u1, hL, gL, tl, inv, B, hR, hP⟩ := hrel
    have IV : Hid (vh P + 65536 ^ i * u = v) := inv
    have GP : Hid (Lims P ∧ ∀ t, i ≤ t → P.getD t 0 = 0) := ⟨gL, tl⟩
    have HK : Hid (gk = 4 - i) := hk
    clear inv gL hk tl
    by_cases h8 : i = 4
    · subst h8
      have rb := hP.range
      have sz : ((P.map (Value.int .i64)).toArray).size = 16 := by simp [hL]
      have tr := hR.there (k := ((P.map (Value.int .i64)).toArray).size) (by rw [sz]; rfl)
      have oc := one_i64 P
      have GL : Hid (P.length = 16) := hL
      clear hL hP hR
      generalize hM : P.map (Value.int .i64) = N at *
      have EM : Hid (P.map (Value.int .i64) = N) := hM
      have HM : Hid (N.length = 16) := by rw [← hM, List.length_map]; exact GL.out
      have fin : vh P = v := by
        have iv := IV.out
        have b := vh_bound GP.out.1
        have := VV.out
        rw [show (65536 : Int) ^ 4 = 18446744073709551616 by decide] at iv
        omega
      have FI : Hid (vh P = v) := fin
      clear hM fin
      go_wp2_with (first | refine wpList_load_mid rfl 167 _ rfl bp 0 rfl N _ rb Tryz.underlying167 rfl (by rw [HM.out]; kernel_rfl) ?_ | refine wpList_store_mid rfl 167 _ _ rfl w.heap.size 0 _ rfl rfl tr (by rw [sz]; kernel_rfl) oc ?_)
      have ld := run_loadVar_mid (P := Tryz.prog) (wr.setCells w.heap.size 0 N) w.heap.size 0 167 N _ (World.rangeAt_setCells_same _ _ _ _ (by simpa using tr)) Tryz.underlying167 rfl (by rw [HM.out]; kernel_rfl)
      refine bodyPost_ret (v := .agg N.toArray) ?_ rfl ⟨⟨P, by rw [EM.out], GL.out, GP.out.1, FI.out⟩, below_setCells (Nat.le_refl _) N 0 wr B⟩
      simp [results, Tryz.results170, Act.put, asAddr, ld]
    · have hi' : (i : Int) < 4 := by omega
      have gp := hP.1 i (by omega)
      have fp := hP.2 i (by omega)
      have E : Hid (vh (P.set i (u % 65536)) + 65536 ^ (i + 1) * (u / 65536) = v) := by
        rw [vh_set P i _ (by omega), GP.out.2 i (Nat.le_refl _), Int.sub_zero, Int.pow_succ, Int.mul_assoc, Int.add_assoc, ← Int.mul_add, ← IV.out]
        congr 2
        omega
      clear IV
      go_wp2
      go_roundg (4 - (i + 1))
      case measure => have := HK.out; omega
      case rel => exact ⟨i + 1, u / 65536, P.set i (u % 65536), rfl, by omega, rfl, by go_num, by omega, by omega, by rw [List.length_set]; exact hL, GP.out.1.set _ ⟨by omega, by omega⟩, fun t ht => by rw [h_getD_set_ne (by omega)]; exact GP.out.2 t (by omega), E.out, B.setCell o1 _, hR.other c1 _, hP.set i (by omega) _⟩

set_option maxRecDepth 100000 in
set_option maxHeartbeats 4000000 in
theorem most_any {X Z : List Int} (lX : X.length = 16) (lZ : Z.length = 16) (gX : Lims X) (gZ : Lims Z) (w : World) :
    Calls Tryz.prog 172 #[.agg (X.map (Value.int .i64)).toArray, .agg (Z.map (Value.int .i64)).toArray] w fun e w' => e = .returned (.bool (decide (vh X ≤ vh Z))) ∧ Below w.heap.size w w' := by
  have GX : Hid (Lims X ∧ Lims Z) := ⟨gX, gZ⟩
  clear gX gZ
  obtain ⟨r, er⟩ : ∃ r, r = decide (vh X ≤ vh Z) := ⟨_, rfl⟩
  have ER : Hid (r = decide (vh X ≤ vh Z)) := er
  rw [← er]
  clear er
  go_enter Tryz.func172, Tryz.ntmps172
  go_wp2_with fail
  refine wp_world (fun W => Below w.heap.size w W ∧ Ih W w.heap.size X ∧ Ih W (w.heap.size + 1) Z) ⟨by repeat (first | with_reducible exact Below.refl _ _ | with_reducible refine Below.alloc ?_ (by first | omega | (simp; done) | (simp; omega)) _), (Ih.new X _ rfl).alloc (by omega) _, Ih.new Z _ (by simp)⟩ ?_
  rintro W ⟨B, hX, hZ⟩
  generalize w.heap.size + 1 = bp at *
  go_loopg [5] 16 (fun k iv wr => ∃ (i : Nat) (j : Int), k = i ∧ i ≤ 16 ∧ iv = .int .i64 j ∧ j = (i : Int) - 1 ∧ (∀ t, i ≤ t → t < 16 → X.getD t 0 = Z.getD t 0) ∧ Below w.heap.size w wr ∧ Ih wr w.heap.size X ∧ Ih wr bp Z)
  case atStart => exact ⟨16, 15, rfl, by decide, rfl, by decide, fun t h1 h2 => by omega, B, hX, hZ⟩
  case round =>
    clear B hX hZ
    obtain ⟨i, j, hk, hi, rfl, hj, ev, B, hX, hZ⟩ := hrel
    have EV : Hid (∀ t, i ≤ t → t < 16 → X.getD t 0 = Z.getD t 0) := ev
    have HK : Hid (gk = i) := hk
    clear ev hk
    cases i with
    | zero =>
      obtain rfl : j = -1 := by omega
      have rt : r = true := by
        rw [ER.out]
        apply decide_eq_true
        rw [h_ext_getD (l := X) (l' := Z) (by omega) fun t ht => EV.out t (Nat.zero_le _) (by omega)]
        exact Int.le_refl _
      clear hj
      go_wp2
      simp [bodyPost, results, Tryz.results172, go_sem]
      exact ⟨rt, B⟩
    | succ i =>
      obtain rfl : j = (i : Int) := by omega
      have gx := hX.1 i (by omega)
      have gz := hZ.1 i (by omega)
      have i0 : (0 : Int) ≤ (i : Int) := by omega
      have i1 : (i : Int) < 16 := by omega
      clear hj
      by_cases e : X.getD i 0 = Z.getD i 0
      · have EN : Hid (∀ t, i ≤ t → t < 16 → X.getD t 0 = Z.getD t 0) := fun t h1 h2 => by
          by_cases c : t = i
          · rw [c]; exact e
          · exact EV.out t (by omega) h2
        rw [← e] at gz
        clear e
        generalize X.getD i 0 = x at *
        go_wp2_with fail
        refine region_tail 6 (by kernel_rfl) (by kernel_rfl) ?_
        simp only [List.take_succ_cons, List.take_zero, List.drop_succ_cons, List.drop_zero]
        repeat (first | go_big_quiet_skip | (go_big_quiet_want; go_big_quiet_op; go_big_quiet_on))
        refine wpQuiet_nil ?_
        go_wp2
        go_roundg i
        case measure => have := HK.out; omega
        case rel => exact ⟨i, _, rfl, by omega, rfl, by omega, EN.out, B.drew, hX.drew, hZ.drew⟩
      · have rt : r = decide (X.getD i 0 < Z.getD i 0) := by
          rw [ER.out]
          by_cases c : X.getD i 0 < Z.getD i 0
          · rw [decide_eq_true c, decide_eq_true (Int.le_of_lt (vh_lt GX.out.1 GX.out.2 (by omega) (by omega) (fun t h1 h2 => EV.out t (by omega) (by omega)) c))]
          · have c' : Z.getD i 0 < X.getD i 0 := by omega
            have h := vh_lt GX.out.2 GX.out.1 (i := i) (by omega) (by omega) (fun t h1 h2 => (EV.out t (by omega) (by omega)).symm) c'
            rw [decide_eq_false c, decide_eq_false (by omega)]
        have RT : Hid (r = decide (X.getD i 0 < Z.getD i 0)) := rt
        clear rt
        generalize X.getD i 0 = x at *
        generalize Z.getD i 0 = z at *
        go_wp2_with fail
        refine region_tail 6 (by kernel_rfl) (by kernel_rfl) ?_
        simp only [List.take_succ_cons, List.take_zero, List.drop_succ_cons, List.drop_zero]
        repeat (first | go_big_quiet_skip | (go_big_quiet_want; go_big_quiet_op; go_big_quiet_on))
        refine wpQuiet_nil ?_
        go_wp2_with fail
        refine region_tail 7 (by kernel_rfl) (by kernel_rfl) ?_
        simp only [List.take_succ_cons, List.take_zero, List.drop_succ_cons, List.drop_zero]
        repeat (first | go_big_quiet_skip | (go_big_quiet_want; go_big_quiet_op; go_big_quiet_on))
        refine wpQuiet_nil ?_
        go_wp2
        simp [bodyPost, results, Tryz.results172, go_sem]
        exact ⟨by rw [RT.out], B.drew.drew⟩
end Go.Proofs.YtncpjgpioajbeaaGreatDoor.S

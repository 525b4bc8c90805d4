import Derived.Test.YtncpjgpioajbeaaGreatDoorSRRow
import Derived.Test.YtncpjgpioajbeaaGreatDoorTail
/- The document's product of rows of 16-bit digits. -/
namespace Go.Proofs.YtncpjgpioajbeaaGreatDoor.S
open Go.RowKit Go.Sort

theorem lims_zeros (k : Nat) : Lims (List.replicate k 0) := fun x hx => by
  obtain ⟨_, rfl⟩ := List.mem_replicate.1 hx
  exact ⟨by decide, by decide⟩
theorem vh_zeros : ∀ k, vh (List.replicate k 0) = 0
  | 0 => rfl
  | k + 1 => by rw [List.replicate_succ, vh, vh_zeros k]; rfl

set_option maxRecDepth 100000 in
set_option maxHeartbeats 8000000 in
theorem prod_walk {As Bs : List Int} {m : Int} (lA : As.length = 16) (lB : Bs.length = 16) (gA : Lims As) (gB : Lims Bs) (eB : vh (Bs.take 8) = m) (w : World) :
    Calls Tryz.prog 171 #[.agg (As.map (Value.int .i64)).toArray, .agg (Bs.map (Value.int .i64)).toArray] w fun e w' => (∃ P : List Int, e = .returned (.agg (P.map (Value.int .i64)).toArray) ∧ P.length = 16 ∧ Lims P ∧ vh P = vh (As.take 8) * m) ∧ Below w.heap.size w w' := by
  have GA : Hid (Lims As) := gA
  have GB : Hid (Lims Bs ∧ vh (Bs.take 8) = m) := ⟨gB, eB⟩
  clear gA gB eB
  go_enter Tryz.func171, Tryz.ntmps171
  go_wp2_with fail
  refine wp_world (fun W => Below w.heap.size w W ∧ Ih W w.heap.size As ∧ Ih W (w.heap.size + 1) Bs ∧ Ih W (w.heap.size + 1 + 1) (List.replicate 16 0) ∧ Ih W (w.heap.size + 1 + 1 + 1) (List.replicate 16 0)) ⟨by repeat (first | with_reducible exact Below.refl _ _ | with_reducible refine Below.alloc ?_ (by first | omega | (simp; done) | (simp; omega)) _), (((Ih.new As _ rfl).alloc (by omega) _).alloc (by omega) _).alloc (by omega) _, ((Ih.new Bs _ (by simp)).alloc (by omega) _).alloc (by omega) _, (Ih.new (List.replicate 16 0) _ (by simp)).alloc (by simp) _, Ih.new (List.replicate 16 0) _ (by simp)⟩ ?_
  rintro W ⟨B, hA, hB, hR, hP⟩
  have o1 : w.heap.size ≤ w.heap.size + 1 + 1 := by omega
  have o2 : w.heap.size ≤ w.heap.size + 1 + 1 + 1 := by omega
  have c1 : w.heap.size + 1 + 1 + 1 ≠ w.heap.size := by omega
  have c2 : w.heap.size + 1 + 1 + 1 ≠ w.heap.size + 1 := by omega
  have c3 : w.heap.size + 1 + 1 + 1 ≠ w.heap.size + 1 + 1 := by omega
  generalize w.heap.size + 1 + 1 + 1 = bp at *
  generalize w.heap.size + 1 + 1 = br at *
  generalize w.heap.size + 1 = bb at *
  go_loopg [6] 8 (fun k iv wr => ∃ (i : Nat) (P : List Int), k = 8 - i ∧ i ≤ 8 ∧ iv = .int .i64 i ∧ P.length = 16 ∧ Lims P ∧ (∀ t, i + 8 ≤ t → P.getD t 0 = 0) ∧ vh P = vh (As.take i) * m ∧ Below w.heap.size w wr ∧ Ih wr w.heap.size As ∧ Ih wr bb Bs ∧ Ih wr br (List.replicate 16 0) ∧ Ih wr bp P)
  case atStart => exact ⟨0, _, rfl, by decide, rfl, by simp, lims_zeros 16, fun t ht => h_zeros_getD 16 t, by rw [vh_zeros]; simp [vh], B, hA, hB, hR, hP⟩
  case round =>
    clear B hA hB hR hP
    obtain ⟨i, P, hk, hi, rfl, hL, gL, tl, inv, B, hA, hB, hR, hP⟩ := hrel
    have IV : Hid (vh P = vh (As.take i) * m) := inv
    have GP : Hid (Lims P ∧ ∀ t, i + 8 ≤ t → P.getD t 0 = 0) := ⟨gL, tl⟩
    have HK : Hid (gk = 8 - i) := hk
    clear inv gL hk tl
    by_cases h8 : i = 8
    · subst h8
      have rb := hP.range
      have sz : ((P.map (Value.int .i64)).toArray).size = 16 := by simp [hL]
      have tr := hR.there (k := ((P.map (Value.int .i64)).toArray).size) (by rw [sz]; rfl)
      have oc := one_i64 P
      have GL : Hid (P.length = 16) := hL
      clear hL hA hB hP hR
      generalize hM : P.map (Value.int .i64) = N at *
      have EM : Hid (P.map (Value.int .i64) = N) := hM
      have HM : Hid (N.length = 16) := by rw [← hM, List.length_map]; exact GL.out
      clear hM
      go_wp2_with (first | refine wpList_load_mid rfl 167 _ rfl bp 0 rfl N _ rb Tryz.underlying167 rfl (by rw [HM.out]; kernel_rfl) ?_ | refine wpList_store_mid rfl 167 _ _ rfl br 0 _ rfl rfl tr (by rw [sz]; kernel_rfl) oc ?_)
      have ld := run_loadVar_mid (P := Tryz.prog) (wr.setCells br 0 N) br 0 167 N _ (World.rangeAt_setCells_same _ _ _ _ (by simpa using tr)) Tryz.underlying167 rfl (by rw [HM.out]; kernel_rfl)
      refine bodyPost_ret (v := .agg N.toArray) ?_ rfl ⟨⟨P, by rw [EM.out], GL.out, GP.out.1, IV.out⟩, below_setCells o1 N 0 wr B⟩
      simp [results, Tryz.results171, Act.put, asAddr, ld]
    · have hi' : (i : Int) < 8 := by omega
      have gx := hA.1 i (by omega)
      have hx := GA.out.getD i
      have tkA := vh_take As i (by omega)
      generalize hxe : As.getD i 0 = x at *
      have HX : Hid (Lim x ∧ vh (As.take (i + 1)) = vh (As.take i) + 65536 ^ i * x ∧ As.getD i 0 = x) := ⟨hx, tkA, hxe⟩
      clear hx tkA hxe
      go_wp2_with fail
      go_loopg [7, 8] 8 (fun k cv jv wr => ∃ (j : Nat) (P : List Int) (c : Int), k = 8 - j ∧ j ≤ 8 ∧ cv = .int .i64 c ∧ jv = .int .i64 j ∧ Lim c ∧ P.length = 16 ∧ Lims P ∧ (∀ t, i + 8 ≤ t → P.getD t 0 = 0) ∧ vh P + 65536 ^ i * 65536 ^ j * c = vh (As.take i) * m + 65536 ^ i * (x * vh (Bs.take j)) ∧ Below w.heap.size w wr ∧ Ih wr w.heap.size As ∧ Ih wr bb Bs ∧ Ih wr br (List.replicate 16 0) ∧ Ih wr bp P)
      case atStart => exact ⟨0, P, 0, rfl, by decide, rfl, rfl, ⟨by decide, by decide⟩, hL, GP.out.1, GP.out.2, by have := IV.out; simp [vh]; exact this, B, hA, hB, hR, hP⟩
      case round =>
        clear B hR hA hB hP gx IV GP hL P
        obtain ⟨j, P, c, hk, hj, rfl, rfl, hc, hL, gL, tl, inv, B, hA, hB, hR, hP⟩ := hrel
        have HK2 : Hid (gk = 8 - j) := hk
        have IV : Hid (vh P + 65536 ^ i * 65536 ^ j * c = vh (As.take i) * m + 65536 ^ i * (x * vh (Bs.take j))) := inv
        have GP : Hid (Lims P ∧ ∀ t, i + 8 ≤ t → P.getD t 0 = 0) := ⟨gL, tl⟩
        clear inv gL hk tl
        by_cases h8 : j = 8
        · subst h8
          have eo : ((i : Int) + 8).toNat = i + 8 := by omega
          have gp := hP.1 (i + 8) (by omega)
          rw [GP.out.2 (i + 8) (by omega)] at gp
          have fp := hP.2 (i + 8) (by omega)
          have iv := IV.out
          rw [GB.out.2] at iv
          have E : Hid (vh (P.set (i + 8) c) = vh (As.take (i + 1)) * m) := by
            rw [vh_set P (i + 8) c (by omega), GP.out.2 (i + 8) (by omega), Int.sub_zero, HX.out.2.1, Int.pow_add]
            exact h_mul_out iv
          have HC : Hid (Lim c) := hc
          obtain ⟨cl, ch⟩ := hc
          clear iv IV
          go_wp2
          go_roundg (8 - (i + 1))
          case measure => have := HK.out; omega
          case rel => exact ⟨i + 1, P.set (i + 8) c, rfl, by omega, by go_num, by rw [List.length_set]; exact hL, GP.out.1.set _ HC.out, fun t ht => by rw [h_getD_set_ne (by omega)]; exact GP.out.2 t (by omega), E.out, B.setCell o2 _, hA.other c1 _, hB.other c2 _, hR.other c3 _, hP.set (i + 8) (by omega) _⟩
        · have hj' : (j : Int) < 8 := by omega
          have eo : ((i : Int) + (j : Int)).toNat = i + j := by omega
          have gx := hA.1 i (by omega)
          rw [HX.out.2.2] at gx
          have gy := hB.1 j (by omega)
          have gp := hP.1 (i + j) (by omega)
          have fp := hP.2 (i + j) (by omega)
          have hy := GB.out.1.getD j
          have hp := GP.out.1.getD (i + j)
          have tkB := vh_take Bs j (by omega)
          have S : Hid (∀ v c', v + 65536 * c' = P.getD (i + j) 0 + x * Bs.getD j 0 + c → vh (P.set (i + j) v) + 65536 ^ i * 65536 ^ (j + 1) * c' = vh (As.take i) * m + 65536 ^ i * (x * vh (Bs.take (j + 1)))) := fun v c' h => by
            rw [vh_set P (i + j) v (by omega), tkB, Int.pow_add, Int.pow_succ, ← Int.mul_assoc]
            exact h_mul_step h IV.out
          obtain ⟨z0, z1, z2, z3⟩ := h_prod_dig HX.out.1 hy hp hc
          clear tkB IV hy
          generalize P.getD (i + j) 0 = p at *
          generalize Bs.getD j 0 = y at *
          obtain ⟨c0', c1'⟩ := hc
          obtain ⟨p0, p1⟩ := hp
          generalize hz : x * y = z at *
          go_wp2_with fail
          refine region_tail 15 (by kernel_rfl) (by kernel_rfl) ?_
          simp only [List.take_succ_cons, List.take_zero, List.drop_succ_cons, List.drop_zero]
          repeat (first | go_big_quiet_skip | (go_big_quiet_want; go_big_quiet_op; go_big_quiet_on))
          refine wpQuiet_nil ?_
          go_wp2
          go_roundg (8 - (j + 1))
          case measure => have := HK2.out; omega
          case rel => exact ⟨j + 1, P.set (i + j) ((p + z + c) % 65536), (p + z + c) / 65536, rfl, by omega, rfl, by go_num, ⟨by omega, by omega⟩, by rw [List.length_set]; exact hL, GP.out.1.set _ ⟨by omega, by omega⟩, fun t ht => by rw [h_getD_set_ne (by omega)]; exact GP.out.2 t (by omega), S.out _ _ (by omega), B.drew.setCell o2 _, hA.drew.other c1 _, hB.drew.other c2 _, hR.drew.other c3 _, hP.drew.set (i + j) (by omega) _⟩
end Go.Proofs.YtncpjgpioajbeaaGreatDoor.S

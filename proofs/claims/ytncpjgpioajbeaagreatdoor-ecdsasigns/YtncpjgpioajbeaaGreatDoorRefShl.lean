import Derived.Test.YtncpjgpioajbeaaGreatDoorRefBit
import Derived.Test.YtncpjgpioajbeaaGreatDoorShlBit
import Derived.Test.YtncpjgpioajbeaaGreatDoorRowHold
namespace Go.Proofs.YtncpjgpioajbeaaGreatDoor
open Go.RowKit

set_option maxRecDepth 100000 in
set_option maxHeartbeats 4000000 in
theorem rshl_near {n k : Int} (hn : Num n) (k0 : -255 ≤ k) (k1 : k ≤ 255) (w : World) :
    Calls Tryz.prog 128 #[.agg #[.int .u64 (l0 n), .int .u64 (l1 n), .int .u64 (l2 n), .int .u64 (l3 n)], .int .i64 k] w fun e w' => e = .returned (.agg #[.int .u64 (l0 (shlN n k)), .int .u64 (l1 (shlN n k)), .int .u64 (l2 (shlN n k)), .int .u64 (l3 (shlN n k))]) ∧ Below w.heap.size w w' := by
  have hY := shlN_Num hn k
  have hbit : Hid (∀ i : Nat, i ≤ 255 → bitN n (i - k) = shlN n k / 2 ^ i % 2) := fun i hi => shl_bit hn k0 k1 i hi
  generalize shlN n k = Y at *
  have g0 : ¬ k < -255 := by omega
  have g1 : ¬ 255 < k := by omega
  go_enter Tryz.func128, Tryz.ntmps128
  go_wp2_with fail
  refine wp_world (fun W => Below w.heap.size w W ∧ Hold W w.heap.size n ∧ Row W (w.heap.size + 1) [0, 0, 0, 0] ∧ Loose W (w.heap.size + 1) 4 ∧ Hold W (w.heap.size + 1 + 1) 0 ∧ Loose W (w.heap.size + 1 + 1) 4) ⟨?_, ?_, ?_, ?_, ?_, ?_⟩ ?_
  · repeat (first | with_reducible exact Below.refl _ _ | with_reducible refine Below.alloc ?_ (by first | omega | (simp; done) | (simp; omega)) _)
  · exact ((Hold.new w n _).alloc _).alloc _
  · have := Row.new (w.alloc (.cells #[.int .u64 (l0 n), .int .u64 (l1 n), .int .u64 (l2 n), .int .u64 (l3 n)] 24)) [0, 0, 0, 0] 24
    simp at this
    exact this.alloc _
  · have := Loose.new (w.alloc (.cells #[.int .u64 (l0 n), .int .u64 (l1 n), .int .u64 (l2 n), .int .u64 (l3 n)] 24)) #[.int .u64 0, .int .u64 0, .int .u64 0, .int .u64 0] 24 4
    simp at this
    exact this.alloc (by simp) _
  · have := Row.new ((w.alloc (.cells #[.int .u64 (l0 n), .int .u64 (l1 n), .int .u64 (l2 n), .int .u64 (l3 n)] 24)).alloc (.cells #[.int .u64 0, .int .u64 0, .int .u64 0, .int .u64 0] 24)) [0, 0, 0, 0] 24
    simp at this
    exact Row.hold this
  · have := Loose.new ((w.alloc (.cells #[.int .u64 (l0 n), .int .u64 (l1 n), .int .u64 (l2 n), .int .u64 (l3 n)] 24)).alloc (.cells #[.int .u64 0, .int .u64 0, .int .u64 0, .int .u64 0] 24)) #[.int .u64 0, .int .u64 0, .int .u64 0, .int .u64 0] 24 4
    simp at this
    exact this
  rintro W ⟨B, hX, hR, lR, hYY, lY⟩
  have o1 : w.heap.size ≤ w.heap.size + 1 := by omega
  have o2 : w.heap.size ≤ w.heap.size + 1 + 1 := by omega
  have c1 : w.heap.size + 1 + 1 ≠ w.heap.size := by omega
  have c2 : w.heap.size + 1 + 1 ≠ w.heap.size + 1 := by omega
  generalize w.heap.size + 1 + 1 = by' at *
  generalize w.heap.size + 1 = br at *
  go_loopw [6] (fun a wr => ∃ j : Nat, j ≤ 256 ∧ a = .int .i64 j ∧ Below w.heap.size w wr ∧ Hold wr w.heap.size n ∧ Row wr br [0, 0, 0, 0] ∧ Loose wr br 4 ∧ Hold wr by' (Y % 2 ^ j) ∧ Loose wr by' 4) (fun a _ => (256 - intOf a).toNat)
  case atStart => exact ⟨0, by omega, rfl, B, hX, hR, lR, by simpa using hYY, lY⟩
  case round =>
    clear B hX hR lR hYY lY
    obtain ⟨j, hj, rfl, B, hX, hR, lR, hYY, lY⟩ := hrel
    by_cases hlt : j < 256
    · have hm := mod_Num hY j
      have gX := hX.cells
      have hb := hbit.out j (by omega)
      have hs := mod_succ Y j
      have bt : bitN n (j - k) = 0 ∨ bitN n (j - k) = 1 := by rw [hb]; omega
      rw [← hb] at hs
      have HS : Hid (Y % 2 ^ (j + 1) = Y % 2 ^ j + bitN n (j - k) * 2 ^ j) := hs
      clear hb hs
      go_wp2_with fail
      refine (rbit_any hn _).mono ?_
      rintro e w1 ⟨rfl, hb⟩
      have l1' := hR.lt (by simp)
      have l2' := hYY.row.lt (by simp)
      replace B := B.trans (hb.mono B.size)
      replace hX := hX.keep hb; replace hR := hR.keep hb; replace hYY := hYY.keep hb
      replace lR := lR.keep hb l1'; replace lY := lY.keep hb l2'
      clear hb gX l1' l2'
      rcases bt with bt | bt
      · have HS' : Hid (Y % 2 ^ (j + 1) = Y % 2 ^ j) := by have := HS.out; rw [bt] at this; simpa [Hid] using this
        clear HS
        go_wp2
        go_roundw
        case rel => exact ⟨j + 1, by omega, by go_num, B, hX, hR, lR, by rw [HS'.out]; exact hYY, lY⟩
        case measure => simp [intOf]; omega
      · have HS' : Hid (Y % 2 ^ (j + 1) = Y % 2 ^ j + 2 ^ j) := by have := HS.out; rw [bt] at this; simpa [Hid] using this
        clear HS
        have gY := hYY.cells
        go_wp2_with fail
        have wa := fun W => with_any (k := (j : Int)) hm.1 (by omega) (by omega) (by rw [Int.toNat_natCast]; exact hm.2) W
        rw [Int.toNat_natCast] at wa
        refine (wa _).mono ?_
        rw [← HS'.out]
        rintro e w2 ⟨rfl, hb⟩
        have l1' := hR.lt (by simp)
        have l2' := hYY.row.lt (by simp)
        replace B := B.trans (hb.mono B.size)
        replace hX := hX.keep hb; replace hR := hR.keep hb; replace hYY := hYY.keep hb
        replace lR := lR.keep hb l1'; replace lY := lY.keep hb l2'
        clear hb gY l1' l2' wa
        have gY := hYY.cells
        have fY := lY.cells4
        go_wp2
        go_roundw
        case rel =>
          refine ⟨j + 1, by omega, by go_num, ?_, ?_, ?_, ?_, ?_, ?_⟩
          · exact (((B.setCell o2 _).setCell o2 _).setCell o2 _).setCell o2 _
          · exact Row.hold ((((hX.row.setOther c1 _).setOther c1 _).setOther c1 _).setOther c1 _)
          · exact (((hR.setOther c2 _).setOther c2 _).setOther c2 _).setOther c2 _
          · exact (((lR.set _ _).set _ _).set _ _).set _ _
          · exact Row.hold ((((hYY.row.set 0 (by simp) _).set 1 (by simp) _).set 2 (by simp) _).set 3 (by simp) _)
          · exact (((lY.set _ _).set _ _).set _ _).set _ _
        case measure => simp [intOf]; omega
    · obtain rfl : j = 256 := by omega
      rw [mod_all hY] at hYY
      have gY := hYY.cells
      have gR : wr.cell? ⟨br, 0, none⟩ = some (.int .u64 0) ∧ wr.cell? ⟨br, 1, none⟩ = some (.int .u64 0) ∧ wr.cell? ⟨br, 2, none⟩ = some (.int .u64 0) ∧ wr.cell? ⟨br, 3, none⟩ = some (.int .u64 0) := ⟨hR 0 (by simp), hR 1 (by simp), hR 2 (by simp), hR 3 (by simp)⟩
      have fR := lR.cells4
      go_wp2
      simp [bodyPost, results, Tryz.results128, go_sem, gR]
      exact (((B.setCell o1 _).setCell o1 _).setCell o1 _).setCell o1 _

set_option maxHeartbeats 1000000 in
theorem rshl_far {n k : Int} (h : k ≤ -256 ∨ 256 ≤ k) (w : World) :
    Calls Tryz.prog 128 #[.agg #[.int .u64 (l0 n), .int .u64 (l1 n), .int .u64 (l2 n), .int .u64 (l3 n)], .int .i64 k] w fun e w' => e = .returned (.agg #[.int .u64 (l0 0), .int .u64 (l1 0), .int .u64 (l2 0), .int .u64 (l3 0)]) ∧ Below w.heap.size w w' := by
  obtain ⟨z0, z1, z2, z3⟩ := zero_limbs
  rw [z0, z1, z2, z3]
  clear z0 z1 z2 z3
  rcases h with h | h
  · go_enter Tryz.func128, Tryz.ntmps128
    go_wp2
    simp [bodyPost, results, Tryz.results128, go_sem]
    repeat (first | with_reducible exact Below.refl _ _ | with_reducible refine Below.drew ?_ | with_reducible refine Below.alloc ?_ (by first | omega | (simp; done) | (simp; omega)) _)
  · have h' : ¬ k < -255 := by omega
    go_enter Tryz.func128, Tryz.ntmps128
    go_wp2
    simp [bodyPost, results, Tryz.results128, go_sem]
    repeat (first | with_reducible exact Below.refl _ _ | with_reducible refine Below.drew ?_ | with_reducible refine Below.alloc ?_ (by first | omega | (simp; done) | (simp; omega)) _)

theorem rshl_any {n k : Int} (hn : Num n) (w : World) :
    Calls Tryz.prog 128 #[.agg #[.int .u64 (l0 n), .int .u64 (l1 n), .int .u64 (l2 n), .int .u64 (l3 n)], .int .i64 k] w fun e w' => e = .returned (.agg #[.int .u64 (l0 (shlN n k)), .int .u64 (l1 (shlN n k)), .int .u64 (l2 (shlN n k)), .int .u64 (l3 (shlN n k))]) ∧ Below w.heap.size w w' := by
  by_cases h : k ≤ -256 ∨ 256 ≤ k
  · rw [show shlN n k = 0 by unfold shlN; rw [if_pos h]]
    exact rshl_far h w
  · exact rshl_near hn (by omega) (by omega) w

theorem shr_shl {n k : Int} (hn : Num n) (h0 : -255 ≤ k) (h1 : k ≤ 255) : shlN n (-k) = shrN n k := by
  unfold shlN shrN
  rw [if_neg (show ¬ (-k ≤ -256 ∨ 256 ≤ -k) by omega), if_neg (show ¬ (k ≤ -256 ∨ 256 ≤ k) by omega)]
  by_cases h : k = 0
  · subst h
    rw [if_neg (show ¬ (-(0 : Int)) < 0 by decide), if_neg (show ¬ (0 : Int) < 0 by decide)]
    unfold upN downN
    have := hn.1; have := hn.2
    simp
    omega
  · by_cases h2 : k < 0
    · rw [if_neg (show ¬ -k < 0 by omega), if_pos h2]
    · rw [if_pos (show -k < 0 by omega), if_neg h2, Int.neg_neg]

set_option maxHeartbeats 1000000 in
theorem rshr_far {n k : Int} (h : k ≤ -256 ∨ 256 ≤ k) (w : World) :
    Calls Tryz.prog 104 #[.agg #[.int .u64 (l0 n), .int .u64 (l1 n), .int .u64 (l2 n), .int .u64 (l3 n)], .int .i64 k] w fun e w' => e = .returned (.agg #[.int .u64 (l0 0), .int .u64 (l1 0), .int .u64 (l2 0), .int .u64 (l3 0)]) ∧ Below w.heap.size w w' := by
  obtain ⟨z0, z1, z2, z3⟩ := zero_limbs
  rw [z0, z1, z2, z3]
  clear z0 z1 z2 z3
  have hb := build_zero
  rcases h with h | h
  · go_enter Tryz.func104, Tryz.ntmps104
    go_wp2
    simp [bodyPost, results, Tryz.results104, go_sem]
    repeat (first | with_reducible exact Below.refl _ _ | with_reducible refine Below.drew ?_ | with_reducible refine Below.alloc ?_ (by first | omega | (simp; done) | (simp; omega)) _)
  · have h' : ¬ k < -255 := by omega
    go_enter Tryz.func104, Tryz.ntmps104
    go_wp2
    simp [bodyPost, results, Tryz.results104, go_sem]
    repeat (first | with_reducible exact Below.refl _ _ | with_reducible refine Below.drew ?_ | with_reducible refine Below.alloc ?_ (by first | omega | (simp; done) | (simp; omega)) _)

set_option maxHeartbeats 1000000 in
theorem rshr_near {n k : Int} (hn : Num n) (h0 : -255 ≤ k) (h1 : k ≤ 255) (w : World) :
    Calls Tryz.prog 104 #[.agg #[.int .u64 (l0 n), .int .u64 (l1 n), .int .u64 (l2 n), .int .u64 (l3 n)], .int .i64 k] w fun e w' => e = .returned (.agg #[.int .u64 (l0 (shrN n k)), .int .u64 (l1 (shrN n k)), .int .u64 (l2 (shrN n k)), .int .u64 (l3 (shrN n k))]) ∧ Below w.heap.size w w' := by
  rw [← shr_shl hn h0 h1]
  have g0 : ¬ k < -255 := by omega
  have g1 : ¬ 255 < k := by omega
  go_enter Tryz.func104, Tryz.ntmps104
  go_wp2_with fail
  refine (rshl_any hn _).mono ?_
  rintro e w' ⟨rfl, hw⟩
  have hc := oldCells hw
  go_wp2
  simp [bodyPost, results, Tryz.results104, go_sem, hc]
  clear hc
  have hz := hw.size
  simp at hz
  repeat (first | with_reducible exact Below.refl _ _ | with_reducible refine Below.drew ?_ | with_reducible refine Below.setCell ?_ (by first | omega | (simp; done) | (simp; omega)) _ | with_reducible refine Below.alloc ?_ (by first | omega | (simp; done) | (simp; omega)) _ | with_reducible refine Below.trans ?_ (Below.mono hw (by first | omega | (simp; done) | (simp; omega))))

theorem rshr_any {n k : Int} (hn : Num n) (w : World) :
    Calls Tryz.prog 104 #[.agg #[.int .u64 (l0 n), .int .u64 (l1 n), .int .u64 (l2 n), .int .u64 (l3 n)], .int .i64 k] w fun e w' => e = .returned (.agg #[.int .u64 (l0 (shrN n k)), .int .u64 (l1 (shrN n k)), .int .u64 (l2 (shrN n k)), .int .u64 (l3 (shrN n k))]) ∧ Below w.heap.size w w' := by
  by_cases h : k ≤ -256 ∨ 256 ≤ k
  · rw [show shrN n k = 0 by unfold shrN; rw [if_pos h]]
    exact rshr_far h w
  · exact rshr_near hn (by omega) (by omega) w

theorem bit_top {n : Int} {j : Nat} (h0 : 0 ≤ n) (h : n < 2 ^ (j + 1)) : (n / 2 ^ j % 2 = 1 → 2 ^ j ≤ n) ∧ (n / 2 ^ j % 2 = 0 → n < 2 ^ j) := by
  have p := pow_pos' j
  rw [Int.pow_succ] at h
  have q0 : 0 ≤ n / 2 ^ j := Int.ediv_nonneg h0 (by omega)
  have q1 : n / 2 ^ j < 2 := Int.ediv_lt_of_lt_mul p (by rw [Int.mul_comm]; exact h)
  have d := Int.emod_add_mul_ediv n (2 ^ j)
  have m0 := Int.emod_nonneg n (show (2 : Int) ^ j ≠ 0 by omega)
  have m1 := Int.emod_lt_of_pos n p
  constructor
  · intro e
    have : n / 2 ^ j = 1 := by omega
    rw [this] at d; omega
  · intro e
    have : n / 2 ^ j = 0 := by omega
    rw [this] at d; omega

set_option maxRecDepth 100000 in
set_option maxHeartbeats 1000000 in
theorem rlen_any {n : Int} (hn : Num n) (w : World) :
    Calls Tryz.prog 162 #[.agg #[.int .u64 (l0 n), .int .u64 (l1 n), .int .u64 (l2 n), .int .u64 (l3 n)]] w fun e w' => e = .returned (.int .i64 (lenN n)) ∧ Below w.heap.size w w' := by
  have n0 := hn.1
  have top : Hid (n < 2 ^ 256) := by
    have := hn.2
    show n < 2 ^ 256
    rw [show (2 : Int) ^ 256 = 115792089237316195423570985008687907853269984665640564039457584007913129639936 by decide]
    exact this
  go_enter Tryz.func162, Tryz.ntmps162
  go_wp2_with fail
  refine wp_world (fun W => Below w.heap.size w W ∧ Hold W w.heap.size n) ⟨(Below.refl _ _).alloc (Nat.le_refl _) _, Hold.new w n _⟩ ?_
  rintro W ⟨B, hX⟩
  go_loopw [3] (fun a wr => ∃ j : Nat, j ≤ 256 ∧ a = .int .i64 ((j : Int) - 1) ∧ Below w.heap.size w wr ∧ Hold wr w.heap.size n ∧ Hid (n < 2 ^ j)) (fun a _ => (intOf a + 1).toNat)
  case atStart => exact ⟨256, by omega, rfl, B, hX, top⟩
  case round =>
    clear B hX
    obtain ⟨j, hj, rfl, B, hX, hl⟩ := hrel
    by_cases hz : j = 0
    · subst hz
      obtain rfl : n = 0 := by have := hl.out; simp at this; omega
      go_wp2
      go_ret
      rw [show lenN 0 = 0 by rfl]
      exact ⟨rfl, B⟩
    · obtain ⟨i, rfl⟩ : ∃ i, j = i + 1 := ⟨j - 1, by omega⟩
      have e1 : ((i + 1 : Nat) : Int) - 1 = i := by omega
      have bt := bit_top n0 hl.out
      have eb : bitN n i = n / 2 ^ i % 2 := by unfold bitN; rw [if_neg (by omega), Int.toNat_natCast]
      have br : bitN n i = 0 ∨ bitN n i = 1 := by rw [eb]; omega
      rw [← eb] at bt
      have gX := hX.cells
      have ea : Hid (((i + 1 : Nat) : Int) - 1 = i) := e1
      rw [e1]
      clear e1 eb
      rcases br with br | br
      · have lo : Hid (n < 2 ^ i) := bt.2 br
        clear bt
        go_wp2_with fail
        refine (rbit_any hn _).mono ?_
        rintro e w1 ⟨rfl, hb⟩
        replace B := B.trans (hb.mono B.size)
        replace hX := hX.keep hb
        clear hb gX
        go_wp2
        go_roundw
        case rel => exact ⟨i, by omega, by go_num, B, hX, lo⟩
        case measure => first | (simp [intOf]; done) | (simp [intOf]; omega)
      · have le : Hid (lenN n = (i : Int) + 1) := lenN_eq (bt.1 br) hl.out
        clear bt
        go_wp2_with fail
        refine (rbit_any hn _).mono ?_
        rintro e w1 ⟨rfl, hb⟩
        replace B := B.trans (hb.mono B.size)
        clear hb gX
        go_wp2
        go_ret
        rw [le.out]
        exact ⟨rfl, B⟩

end Go.Proofs.YtncpjgpioajbeaaGreatDoor

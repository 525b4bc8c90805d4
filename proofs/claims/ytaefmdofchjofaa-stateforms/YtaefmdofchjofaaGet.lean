import Derived.Test.YtaefmdofchjofaaRowB
import Derived.Test.YtaefmdofchjofaaHold
import Derived.Test.YtaefmdofchjofaaLen
import Derived.Test.YtaefmdofchjofaaCmp
import Derived.StillTail
import Derived.BigQuiet
import Derived.Below
import Derived.Test.YtaefmdofchjofaaNum
import Derived.Test.YtaefmdofchjofaaShl
import Derived.Deep.LoopGhost
namespace Go.Proofs.Ytaefmdofchjofaa
open Go.RowKit

/-- The 'or' of a byte's place that is still empty. -/
theorem or_byte {y b : Int} {s : Nat} (y0 : 0 ≤ y) (y1 : y < 2 ^ s) (z0 : 0 ≤ b * 2 ^ s) (z1 : y + b * 2 ^ s < 18446744073709551616) (b0 : 0 ≤ b) : bits .or .u64 y (b * 2 ^ s) = y + b * 2 ^ s := by
  obtain ⟨y, rfl⟩ := Int.eq_ofNat_of_zero_le y0
  obtain ⟨b, rfl⟩ := Int.eq_ofNat_of_zero_le b0
  have c : (b : Int) * 2 ^ s = ((2 ^ s * b : Nat) : Int) := by simp [Int.mul_comm]
  have c2 : ((2 : Int) ^ s) = ((2 ^ s : Nat) : Int) := by simp
  rw [c] at z0 z1 ⊢
  rw [c2] at y1
  rw [or_comm _ _ (by omega) (by omega), or_sum s b y (by omega) (by omega) (by omega), Int.natCast_add, Int.add_comm]

set_option maxHeartbeats 4000000 in
theorem get_some {A : List Int} {bb ob cb : Nat} (hA : Byts A) (hl : A.length ≤ 32) (w : World) (ha : ∀ i, i < A.length → w.cell? ⟨bb, ob + i, none⟩ = some (.int .u8 (A.getD i 0))) :
    Calls Try.prog 78 #[.slice (some ⟨bb, ob, none⟩) A.length cb] w fun e w' => e = .returned (.tuple #[.agg #[.int .u64 (l0 (sufN A A.length)), .int .u64 (l1 (sufN A A.length)), .int .u64 (l2 (sufN A A.length)), .int .u64 (l3 (sufN A A.length))], .int .i64 0]) ∧ Below w.heap.size w w' := by
  have hl' : (A.length : Int) ≤ 32 := by omega
  have hb0 := build_zero
  go_enter Try.func78, Try.ntmps78
  go_wp2_with fail
  refine wp_world (fun W => Below w.heap.size w W ∧ Blank W w.heap.size ∧ Row W (w.heap.size + 1) [l0 0, l1 0, l2 0, l3 0] ∧ Loose W (w.heap.size + 1) 4) ⟨?_, (Blank.new rfl).alloc _, ?_, ?_⟩ ?_
  · repeat (first | with_reducible exact Below.refl _ _ | with_reducible refine Below.alloc ?_ (by first | omega | (simp; done) | (simp; omega)) _)
  · obtain ⟨z0, z1, z2, z3⟩ := zero_limbs
    rw [z0, z1, z2, z3]
    exact (Blank.new (by simp)).1
  · exact (Blank.new (by simp)).2
  rintro W ⟨B, hR, hX, lX⟩
  have c1 : w.heap.size + 1 ≠ w.heap.size := by omega
  have o1 : w.heap.size ≤ w.heap.size + 1 := by omega
  generalize w.heap.size + 1 = bx at *
  have HA : Hid (Byts A ∧ ∀ i, i < A.length → w.cell? ⟨bb, ob + i, none⟩ = some (.int .u8 (A.getD i 0))) := ⟨hA, ha⟩
  clear hA ha
  go_loopg [12] A.length (fun k iv wr => ∃ i : Nat, k = A.length - i ∧ i ≤ A.length ∧ iv = .int .i64 i ∧ Below w.heap.size w wr ∧ Blank wr w.heap.size ∧ Row wr bx [l0 (sufN A i), l1 (sufN A i), l2 (sufN A i), l3 (sufN A i)] ∧ Loose wr bx 4)
  case atStart => exact ⟨0, rfl, Nat.zero_le _, rfl, B, hR, hX, lX⟩
  case round =>
    clear B hR hX lX
    obtain ⟨i, hk, hi, rfl, B, hR, hX, lX⟩ := hrel
    have HK : Hid (gk = A.length - i) := hk
    clear hk
    by_cases h8 : i = A.length
    · subst h8
      have gX := hX.all4; have gR := hR.1.all4; have fR := hR.2.all4
      go_wp2
      simp [bodyPost, results, Try.results78, go_sem, gR]
      exact below_set4 B (Nat.le_refl _) _ _ _ _
    · have hi' : (i : Int) < A.length := by omega
      have hi2 : (i : Int) < 32 := by omega
      have lt : bb < w.heap.size := World.block_lt_of_cell? w _ (HA.out.2 0 (by omega))
      have e1 : ((i : Int) / 8).toNat = i / 8 := by omega
      have e2 : ((A.length : Int) - 1 - (i : Int)).toNat = A.length - 1 - i := by omega
      have gy : wr.cell? ⟨bb, ob + (A.length - 1 - i), none⟩ = some (.int .u8 (A.getD (A.length - 1 - i) 0)) := by rw [B.cell (p := ⟨bb, ob + (A.length - 1 - i), none⟩) lt]; exact HA.out.2 _ (by omega)
      have gx := hX (i / 8) (by simp; omega)
      have fx := lX (i / 8) (by omega)
      obtain ⟨b0, b1⟩ := HA.out.1 (A.length - 1 - i)
      obtain ⟨s0, s1⟩ := sufN_bound HA.out.1 i
      obtain ⟨y0, y1, z0, z1, ev⟩ := limb_add (show i < 32 by omega) s0 s1 b0 b1
      have ob' := or_byte y0 y1 z0 z1 b0
      have EV : Hid ([l0 (sufN A (i + 1)), l1 (sufN A (i + 1)), l2 (sufN A (i + 1)), l3 (sufN A (i + 1))] = [l0 (sufN A i), l1 (sufN A i), l2 (sufN A i), l3 (sufN A i)].set (i / 8) ([l0 (sufN A i), l1 (sufN A i), l2 (sufN A i), l3 (sufN A i)].getD (i / 8) 0 + A.getD (A.length - 1 - i) 0 * 2 ^ (i % 8 * 8))) := ev
      have wz : IntKind.u64.wrap (A.getD (A.length - 1 - i) 0 * 2 ^ (i % 8 * 8)) = A.getD (A.length - 1 - i) 0 * 2 ^ (i % 8 * 8) := by rw [IntKind.wrap_u64]; omega
      clear ev s0 s1 y0 y1
      generalize hy : [l0 (sufN A i), l1 (sufN A i), l2 (sufN A i), l3 (sufN A i)].getD (i / 8) 0 = y at *
      generalize hv : A.getD (A.length - 1 - i) 0 = v at *
      clear hy hv
      go_wp2
      go_region
      go_wp2
      go_roundg (A.length - (i + 1))
      case measure => have := HK.out; omega
      case rel =>
        refine ⟨i + 1, rfl, by omega, by go_num, B.drew.setCell o1 _, hR.drew.set c1 _, ?_, lX.drew.set _ _⟩
        rw [EV.out]
        exact Row.set hX.drew (i / 8) (by simp; omega) _

end Go.Proofs.Ytaefmdofchjofaa

namespace Go.Proofs.Ytaefmdofchjofaa
open Go.RowKit

/-- The limb at a place. -/
theorem limb_cell {W : World} {b : Nat} {n : Int} (h : Hold W b n) (k : Nat) (hk : k < 4) : W.cell? ⟨b, k, none⟩ = some (.int .u64 ([l0 n, l1 n, l2 n, l3 n].getD k 0)) := h.row k (by simpa using hk)

set_option maxHeartbeats 4000000 in
theorem put_any {n : Int} (w : World) :
    Calls Try.prog 53 #[.agg #[.int .u64 (l0 n), .int .u64 (l1 n), .int .u64 (l2 n), .int .u64 (l3 n)]] w fun e w' => e = .returned (.agg ((putL n).map (Value.int .u8)).toArray) ∧ Below w.heap.size w w' := by
  go_enter Try.func53, Try.ntmps53
  go_wp2_with fail
  refine wp_world (fun W => Below w.heap.size w W ∧ Hold W w.heap.size n ∧ Bts W (w.heap.size + 1) (List.replicate 32 0) ∧ Bts W (w.heap.size + 1 + 1) (List.replicate 32 0)) ⟨?_, ?_, ?_, ?_⟩ ?_
  · repeat (first | with_reducible exact Below.refl _ _ | with_reducible refine Below.alloc ?_ (by first | omega | (simp; done) | (simp; omega)) _)
  · exact ((Hold.new w n _).alloc _).alloc _
  · exact (Bts.new (List.replicate 32 0) _ (by simp)).alloc (by simp) _
  · exact Bts.new (List.replicate 32 0) _ (by simp)
  rintro W ⟨B, hX, hR, hB⟩
  have c1 : w.heap.size + 1 + 1 ≠ w.heap.size := by omega
  have c3 : w.heap.size + 1 + 1 ≠ w.heap.size + 1 := by omega
  have o1 : w.heap.size ≤ w.heap.size + 1 := by omega
  have o2 : w.heap.size ≤ w.heap.size + 1 + 1 := by omega
  generalize w.heap.size + 1 + 1 = bb at *
  generalize w.heap.size + 1 = br at *
  go_loopg [5] 32 (fun k iv wr => ∃ (i : Nat) (L : List Int), k = 32 - i ∧ i ≤ 32 ∧ iv = .int .i64 i ∧ L.length = 32 ∧ (∀ t, 32 - i ≤ t → t < 32 → L.getD t 0 = n / 256 ^ (31 - t) % 256) ∧ Below w.heap.size w wr ∧ Hold wr w.heap.size n ∧ Bts wr br (List.replicate 32 0) ∧ Bts wr bb L)
  case atStart => exact ⟨0, _, rfl, by decide, rfl, by simp, fun t h1 h2 => by omega, B, hX, hR, hB⟩
  case round =>
    clear B hX hR hB
    obtain ⟨i, L, hk, hi, rfl, hL, ev, B, hX, hR, hB⟩ := hrel
    have EV : Hid (∀ t, 32 - i ≤ t → t < 32 → L.getD t 0 = n / 256 ^ (31 - t) % 256) := ev
    have HK : Hid (gk = 32 - i) := hk
    clear ev hk
    by_cases h8 : i = 32
    · subst h8
      have eL : L = putL n := extB (by rw [hL, putL_len]) fun t ht => by rw [EV.out t (by omega) (by omega), putL_getD n (by omega)]
      have EL : Hid (L = putL n) := eL
      have rb := hB.1.range
      have sz : ((L.map (Value.int .u8)).toArray).size = 32 := by simp [hL]
      have tr := hR.there (k := ((L.map (Value.int .u8)).toArray).size) (by rw [sz]; rfl)
      have oc := one_cells L
      clear eL EV
      generalize hM : L.map (Value.int .u8) = M at *
      have HM : Hid (M.length = 32) := by rw [← hM, List.length_map]; exact hL
      go_wp2_with (first | refine wpList_load_mid rfl 25 _ rfl bb 0 rfl M _ rb Try.underlying25 rfl (by rw [HM.out]; kernel_rfl) ?_ | refine wpList_store_mid rfl 25 _ _ rfl br 0 _ rfl rfl tr (by rw [sz]; kernel_rfl) oc ?_)
      have ld := run_loadVar_mid (P := Try.prog) (wr.setCells br 0 M) br 0 25 M _ (World.rangeAt_setCells_same _ _ _ _ (by simpa using tr)) Try.underlying25 rfl (by rw [HM.out]; kernel_rfl)
      refine bodyPost_ret (v := .agg M.toArray) ?_ rfl ⟨by rw [← hM, EL.out], below_setCells o1 M 0 wr B⟩
      simp [results, Try.results53, Act.put, asAddr, ld]
    · have hi' : (i : Int) < 32 := by omega
      have e1 : ((i : Int) / 8).toNat = i / 8 := by omega
      have e2 : (31 - (i : Int)).toNat = 31 - i := by omega
      have gx := limb_cell hX (i / 8) (by omega)
      have gb := hB.1 (31 - i) (by omega)
      have fb := hB.2 (31 - i) (by omega)
      have lb := limb_byte (n := n) (show i < 32 by omega)
      generalize [l0 n, l1 n, l2 n, l3 n].getD (i / 8) 0 = x at *
      have LB : Hid (x / 2 ^ (i % 8 * 8) % 256 = n / 256 ^ i % 256) := lb
      clear lb
      go_wp2
      go_roundg (32 - (i + 1))
      case measure => have := HK.out; omega
      case rel =>
        refine ⟨i + 1, L.set (31 - i) (x / 2 ^ (i % 8 * 8) % 256), rfl, by omega, by go_num, by rw [List.length_set]; exact hL, fun t h1 h2 => ?_, B.setCell o2 _, hX.set c1 _, hR.other c3 _, hB.set (31 - i) (by omega) _⟩
        by_cases e : t = 31 - i
        · subst e; rw [setB_eq (by omega), LB.out, show 31 - (31 - i) = i by omega]
        · rw [setB_ne e]; exact EV.out t (by omega) h2

set_option maxHeartbeats 4000000 in
theorem rput_any {n : Int} (w : World) :
    Calls Try.prog 56 #[.agg #[.int .u64 (l0 n), .int .u64 (l1 n), .int .u64 (l2 n), .int .u64 (l3 n)]] w fun e w' => e = .returned (.agg ((putL n).map (Value.int .u8)).toArray) ∧ Below w.heap.size w w' := by
  go_enter Try.func56, Try.ntmps56
  go_wp2_with fail
  refine wp_world (fun W => Below w.heap.size w W ∧ Hold W w.heap.size n ∧ Bts W (w.heap.size + 1) (List.replicate 32 0) ∧ Bts W (w.heap.size + 1 + 1) (List.replicate 32 0)) ⟨?_, ?_, ?_, ?_⟩ ?_
  · repeat (first | with_reducible exact Below.refl _ _ | with_reducible refine Below.alloc ?_ (by first | omega | (simp; done) | (simp; omega)) _)
  · exact ((Hold.new w n _).alloc _).alloc _
  · exact (Bts.new (List.replicate 32 0) _ (by simp)).alloc (by simp) _
  · exact Bts.new (List.replicate 32 0) _ (by simp)
  rintro W ⟨B, hX, hR, hB⟩
  have c1 : w.heap.size + 1 + 1 ≠ w.heap.size := by omega
  have c3 : w.heap.size + 1 + 1 ≠ w.heap.size + 1 := by omega
  have o1 : w.heap.size ≤ w.heap.size + 1 := by omega
  have o2 : w.heap.size ≤ w.heap.size + 1 + 1 := by omega
  generalize w.heap.size + 1 + 1 = bb at *
  generalize w.heap.size + 1 = br at *
  go_loopg [4] 32 (fun k iv wr => ∃ (i : Nat) (L : List Int), k = 32 - i ∧ i ≤ 32 ∧ iv = .int .i64 i ∧ L.length = 32 ∧ (∀ t, 32 - i ≤ t → t < 32 → L.getD t 0 = n / 256 ^ (31 - t) % 256) ∧ Below w.heap.size w wr ∧ Hold wr w.heap.size n ∧ Bts wr br (List.replicate 32 0) ∧ Bts wr bb L)
  case atStart => exact ⟨0, _, rfl, by decide, rfl, by simp, fun t h1 h2 => by omega, B, hX, hR, hB⟩
  case round =>
    clear B hX hR hB
    obtain ⟨i, L, hk, hi, rfl, hL, ev, B, hX, hR, hB⟩ := hrel
    have EV : Hid (∀ t, 32 - i ≤ t → t < 32 → L.getD t 0 = n / 256 ^ (31 - t) % 256) := ev
    have HK : Hid (gk = 32 - i) := hk
    clear ev hk
    by_cases h8 : i = 32
    · subst h8
      have eL : L = putL n := extB (by rw [hL, putL_len]) fun t ht => by rw [EV.out t (by omega) (by omega), putL_getD n (by omega)]
      have EL : Hid (L = putL n) := eL
      have rb := hB.1.range
      have sz : ((L.map (Value.int .u8)).toArray).size = 32 := by simp [hL]
      have tr := hR.there (k := ((L.map (Value.int .u8)).toArray).size) (by rw [sz]; rfl)
      have oc := one_cells L
      clear eL EV
      generalize hM : L.map (Value.int .u8) = M at *
      have HM : Hid (M.length = 32) := by rw [← hM, List.length_map]; exact hL
      go_wp2_with (first | refine wpList_load_mid rfl 25 _ rfl bb 0 rfl M _ rb Try.underlying25 rfl (by rw [HM.out]; kernel_rfl) ?_ | refine wpList_store_mid rfl 25 _ _ rfl br 0 _ rfl rfl tr (by rw [sz]; kernel_rfl) oc ?_)
      have ld := run_loadVar_mid (P := Try.prog) (wr.setCells br 0 M) br 0 25 M _ (World.rangeAt_setCells_same _ _ _ _ (by simpa using tr)) Try.underlying25 rfl (by rw [HM.out]; kernel_rfl)
      refine bodyPost_ret (v := .agg M.toArray) ?_ rfl ⟨by rw [← hM, EL.out], below_setCells o1 M 0 wr B⟩
      simp [results, Try.results56, Act.put, asAddr, ld]
    · have hi' : (i : Int) < 32 := by omega
      have e1 : ((i : Int) / 8).toNat = i / 8 := by omega
      have e2 : (31 - (i : Int)).toNat = 31 - i := by omega
      have gx := limb_cell hX (i / 8) (by omega)
      have gb := hB.1 (31 - i) (by omega)
      have fb := hB.2 (31 - i) (by omega)
      have lb := limb_byte (n := n) (show i < 32 by omega)
      generalize [l0 n, l1 n, l2 n, l3 n].getD (i / 8) 0 = x at *
      have LB : Hid (x / 2 ^ (8 * (i % 8)) % 256 = n / 256 ^ i % 256) := by rw [Nat.mul_comm 8]; exact lb
      clear lb
      go_wp2
      go_roundg (32 - (i + 1))
      case measure => have := HK.out; omega
      case rel =>
        refine ⟨i + 1, L.set (31 - i) (x / 2 ^ (8 * (i % 8)) % 256), rfl, by omega, by go_num, by rw [List.length_set]; exact hL, fun t h1 h2 => ?_, B.setCell o2 _, hX.set c1 _, hR.other c3 _, hB.set (31 - i) (by omega) _⟩
        by_cases e : t = 31 - i
        · subst e; rw [setB_eq (by omega), LB.out, show 31 - (31 - i) = i by omega]
        · rw [setB_ne e]; exact EV.out t (by omega) h2

end Go.Proofs.Ytaefmdofchjofaa

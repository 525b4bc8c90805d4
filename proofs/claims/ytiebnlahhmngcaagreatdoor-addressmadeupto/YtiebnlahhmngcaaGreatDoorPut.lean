import Derived.Test.YtiebnlahhmngcaaGreatDoorRowB
import Derived.Test.YtiebnlahhmngcaaGreatDoorLen
import Derived.Deep.LoopGhost
namespace Go.Proofs.YtiebnlahhmngcaaGreatDoor
open Go.RowKit

/-- The limb at a place. -/
theorem limb_cell {W : World} {b : Nat} {n : Int} (h : Hold W b n) (k : Nat) (hk : k < 4) : W.cell? ⟨b, k, none⟩ = some (.int .u64 ([l0 n, l1 n, l2 n, l3 n].getD k 0)) := h.row k (by simpa using hk)

set_option maxHeartbeats 4000000 in
theorem put_any {n : Int} (w : World) :
    Calls Tryz.prog 30 #[.agg #[.int .u64 (l0 n), .int .u64 (l1 n), .int .u64 (l2 n), .int .u64 (l3 n)]] w fun e w' => e = .returned (.agg ((putL n).map (Value.int .u8)).toArray) ∧ Below w.heap.size w w' := by
  go_enter Tryz.func30, Tryz.ntmps30
  go_wp2_with fail
  refine wp_world (fun W => Below w.heap.size w W ∧ Hold W w.heap.size n ∧ Bts W (w.heap.size + 1) (List.replicate 32 0) ∧ Bts W (w.heap.size + 1 + 1) (List.replicate 32 0)) ⟨?_, ?_, ?_, ?_⟩ ?_
  · repeat (first | with_reducible exact Below.refl _ _ | with_reducible refine Below.alloc ?_ (by first | omega | (simp; done) | (simp; omega)) _)
  · exact ((Hold.new w n _).alloc _).alloc _
  · exact (Bts.new (List.replicate 32 0) _ (by simp)).alloc (by simp) _
  · exact Bts.new (List.replicate 32 0) _ (by simp)
  rintro W ⟨B, hX, hR, hB⟩
  have c1 : w.heap.size + 1 + 1 ≠ w.heap.size := by omega
  have c3 : w.heap.size + 1 + 1 ≠ w.heap.size + 1 := by omega
  have o1 : w.heap.size ≤ w.heap.size + 1 := by omega
  have o2 : w.heap.size ≤ w.heap.size + 1 + 1 := by omega
  generalize w.heap.size + 1 + 1 = bb at *
  generalize w.heap.size + 1 = br at *
  go_loopg [5] 32 (fun k iv wr => ∃ (i : Nat) (L : List Int), k = 32 - i ∧ i ≤ 32 ∧ iv = .int .i64 i ∧ L.length = 32 ∧ (∀ t, 32 - i ≤ t → t < 32 → L.getD t 0 = n / 256 ^ (31 - t) % 256) ∧ Below w.heap.size w wr ∧ Hold wr w.heap.size n ∧ Bts wr br (List.replicate 32 0) ∧ Bts wr bb L)
  case atStart => exact ⟨0, _, rfl, by decide, rfl, by simp, fun t h1 h2 => by omega, B, hX, hR, hB⟩
  case round =>
    clear B hX hR hB
    obtain ⟨i, L, hk, hi, rfl, hL, ev, B, hX, hR, hB⟩ := hrel
    have EV : Hid (∀ t, 32 - i ≤ t → t < 32 → L.getD t 0 = n / 256 ^ (31 - t) % 256) := ev
    have HK : Hid (gk = 32 - i) := hk
    clear ev hk
    by_cases h8 : i = 32
    · subst h8
      have eL : L = putL n := extB (by rw [hL, putL_len]) fun t ht => by rw [EV.out t (by omega) (by omega), putL_getD n (by omega)]
      have EL : Hid (L = putL n) := eL
      have rb := hB.1.range
      have sz : ((L.map (Value.int .u8)).toArray).size = 32 := by simp [hL]
      have tr := hR.there (k := ((L.map (Value.int .u8)).toArray).size) (by rw [sz]; rfl)
      have oc := one_cells L
      clear eL EV
      generalize hM : L.map (Value.int .u8) = M at *
      have HM : Hid (M.length = 32) := by rw [← hM, List.length_map]; exact hL
      go_wp2_with (first | refine wpList_load_mid rfl 27 _ rfl bb 0 rfl M _ rb Tryz.underlying27 rfl (by rw [HM.out]; kernel_rfl) ?_ | refine wpList_store_mid rfl 27 _ _ rfl br 0 _ rfl rfl tr (by rw [sz]; kernel_rfl) oc ?_)
      have ld := run_loadVar_mid (P := Tryz.prog) (wr.setCells br 0 M) br 0 27 M _ (World.rangeAt_setCells_same _ _ _ _ (by simpa using tr)) Tryz.underlying27 rfl (by rw [HM.out]; kernel_rfl)
      refine bodyPost_ret (v := .agg M.toArray) ?_ rfl ⟨by rw [← hM, EL.out], below_setCells o1 M 0 wr B⟩
      simp [results, Tryz.results30, Act.put, asAddr, ld]
    · have hi' : (i : Int) < 32 := by omega
      have e1 : ((i : Int) / 8).toNat = i / 8 := by omega
      have e2 : (31 - (i : Int)).toNat = 31 - i := by omega
      have gx := limb_cell hX (i / 8) (by omega)
      have gb := hB.1 (31 - i) (by omega)
      have fb := hB.2 (31 - i) (by omega)
      have lb := limb_byte (n := n) (show i < 32 by omega)
      generalize [l0 n, l1 n, l2 n, l3 n].getD (i / 8) 0 = x at *
      have LB : Hid (x / 2 ^ (i % 8 * 8) % 256 = n / 256 ^ i % 256) := lb
      clear lb
      go_wp2
      go_roundg (32 - (i + 1))
      case measure => have := HK.out; omega
      case rel =>
        refine ⟨i + 1, L.set (31 - i) (x / 2 ^ (i % 8 * 8) % 256), rfl, by omega, by go_num, by rw [List.length_set]; exact hL, fun t h1 h2 => ?_, B.setCell o2 _, hX.set c1 _, hR.other c3 _, hB.set (31 - i) (by omega) _⟩
        by_cases e : t = 31 - i
        · subst e; rw [setB_eq (by omega), LB.out, show 31 - (31 - i) = i by omega]
        · rw [setB_ne e]; exact EV.out t (by omega) h2

end Go.Proofs.YtiebnlahhmngcaaGreatDoor

import Derived.Test.YtkbkbbilhmmifaaDoorSPad
/- The law ShaFills. -/
namespace Go.Proofs.YtkbkbbilhmmifaaDoor
open Go.RowKit Go.Sort

set_option maxHeartbeats 2000000 in
/-- Two lists of the same bytes. -/
theorem same_yes {X : List (BitVec 8)} {a c : Option Addr} {ba oa ca bb ob cb : Nat} (hl : X.length < 1073741824) (ha : At a ba oa X) (hc : At c bb ob X) (w : World) (hA : Byo w ba oa X) (hB : Byo w bb ob X) :
    Calls Tryd.prog 29 #[.slice a X.length ca, .slice c X.length cb] w fun e w' => e = .returned (.bool true) ∧ Below w.heap.size w w' := by
  have hl' : (X.length : Int) < 1073741824 := by omega
  have HA : Hid (At a ba oa X ∧ At c bb ob X) := ⟨ha, hc⟩
  clear ha hc
  go_enter Tryd.func29, Tryd.ntmps29
  go_wp2_with fail
  go_loopg [5] X.length (fun k iv wr => ∃ i : Nat, k = X.length - i ∧ i ≤ X.length ∧ iv = .int .i64 i ∧ Below w.heap.size w wr ∧ Byo wr ba oa X ∧ Byo wr bb ob X)
  case atStart => exact ⟨0, rfl, Nat.zero_le _, rfl, Below.refl _ _, hA, hB⟩
  case round =>
    clear hA hB
    obtain ⟨i, hk, hi, rfl, B, ha, hb⟩ := hrel
    have HK : Hid (gk = X.length - i) := hk
    have HH : Hid (Byo wr ba oa X ∧ Byo wr bb ob X) := ⟨ha, hb⟩
    clear hk ha hb
    by_cases h8 : i = X.length
    · subst h8
      go_wp2
      go_ret
      exact ⟨rfl, B⟩
    · have hi' : (i : Int) < X.length := by omega
      have hne : X ≠ [] := by intro h; rw [h] at h8 hi; simp at h8 hi; exact h8 hi
      have ea : a = some ⟨ba, oa, none⟩ := HA.out.1.resolve_left hne
      have ec : c = some ⟨bb, ob, none⟩ := HA.out.2.resolve_left hne
      subst ea ec
      have gx := HH.out.1 i (by omega)
      have gy := HH.out.2 i (by omega)
      generalize X.getD i 0 = x at *
      go_wp2
      go_region
      go_wp2
      go_roundg (X.length - (i + 1))
      case measure => have := HK.out; omega
      case rel => exact ⟨i + 1, rfl, by omega, by go_num, B.drew, HH.out.1, HH.out.2⟩

/-- The number of bits, as far as it is read behind i bytes of the filling. -/
def read (n len i : Nat) : Nat := 8 * n % 18446744073709551616 / 2 ^ (8 * (len - i))
theorem read_small {n len i : Nat} (h : i + 8 ≤ len) : read n len i = 0 := by
  rw [read]
  apply Nat.div_eq_of_lt
  have h1 : 2 ^ 64 ≤ 2 ^ (8 * (len - i)) := Nat.pow_le_pow_right (by decide) (by omega)
  have h2 : 8 * n % 18446744073709551616 < 18446744073709551616 := Nat.mod_lt _ (by decide)
  omega
theorem read_step {n len i : Nat} (h : i < len) (h8 : len ≤ i + 8) : read n len (i + 1) = read n len i * 256 + (lb n (i + 8 - len)).toNat := by
  rw [read, read, lb, BitVec.toNat_ofNat, show 56 - 8 * (i + 8 - len) = 8 * (len - (i + 1)) by omega, show 8 * (len - i) = 8 * (len - (i + 1)) + 8 by omega, Nat.pow_add, ← Nat.div_div_eq_div_mul]
  generalize 8 * n % 18446744073709551616 / 2 ^ (8 * (len - (i + 1))) = q
  omega
theorem read_lt {n len i : Nat} (h : i < len) : read n len i < 72057594037927936 := by
  have h2 : 8 * n % 18446744073709551616 < 18446744073709551616 := Nat.mod_lt _ (by decide)
  have h1 : 2 ^ 8 ≤ 2 ^ (8 * (len - i)) := Nat.pow_le_pow_right (by decide) (by omega)
  rw [read]
  apply Nat.div_lt_of_lt_mul
  have : 2 ^ 8 * 72057594037927936 ≤ 2 ^ (8 * (len - i)) * 72057594037927936 := Nat.mul_le_mul_right _ h1
  omega
theorem or_step {b : Nat} (x : BitVec 8) (h : b < 72057594037927936) : bits .or .u64 ((b : Int) * 256) (Y x) = ((b * 256 + x.toNat : Nat) : Int) := by
  have hx := x.isLt
  rw [Y_eq, show (b : Int) * 256 = ((b * 256 : Nat) : Int) by simp, u64_or_nat _ _ (by omega) (by omega)]
  congr 1
  have := Nat.shiftLeft_add_eq_or_of_lt (i := 8) (b := x.toNat) (by omega) b
  rw [Nat.shiftLeft_eq] at this
  exact this.symm
theorem padL_zero {n i : Nat} (h1 : 1 ≤ i) (h : i + 8 < zn n + 9) : (padL n).getD i 0 = 0 := by
  obtain ⟨k, rfl⟩ : ∃ k, i = k + 1 := ⟨i - 1, by omega⟩
  rw [padL, List.getD, List.getElem?_cons_succ, List.getElem?_append_left (by rw [List.length_replicate]; omega), List.getElem?_replicate, if_pos (by omega)]
  rfl
theorem padL_len8 {n i : Nat} (h : zn n + 9 ≤ i + 8) (h2 : i < zn n + 9) : (padL n).getD i 0 = lb n (i + 8 - (zn n + 9)) := by
  obtain ⟨k, rfl⟩ : ∃ k, i = k + 1 := ⟨i - 1, by omega⟩
  rw [padL, List.getD, List.getElem?_cons_succ, List.getElem?_append_right (by rw [List.length_replicate]; omega), List.length_replicate, lbs, List.getElem?_map, List.getElem?_range (by omega)]
  simp only [Option.map_some, Option.getD_some]
  congr 1
  omega

end Go.Proofs.YtkbkbbilhmmifaaDoor

import Derived.Test.YtniabadlbockaaaSPad
/- The law ShaFills. -/
namespace Go.Proofs.Ytniabadlbockaaa
open Go.RowKit Go.Sort

set_option maxHeartbeats 2000000 in
/-- Two lists of the same bytes. -/
theorem same_yes {X : List (BitVec 8)} {a c : Option Addr} {ba oa ca bb ob cb : Nat} (hl : X.length < 1073741824) (ha : At a ba oa X) (hc : At c bb ob X) (w : World) (hA : Byo w ba oa X) (hB : Byo w bb ob X) :
    Calls Try.prog 6 #[.slice a X.length ca, .slice c X.length cb] w fun e w' => e = .returned (.bool true) ∧ Below w.heap.size w w' := by
  have hl' : (X.length : Int) < 1073741824 := by omega
  have HA : Hid (At a ba oa X ∧ At c bb ob X) := ⟨ha, hc⟩
  clear ha hc
  go_enter Try.func6, Try.ntmps6
  go_wp2_with fail
  go_loopg [5] X.length (fun k iv wr => ∃ i : Nat, k = X.length - i ∧ i ≤ X.length ∧ iv = .int .i64 i ∧ Below w.heap.size w wr ∧ Byo wr ba oa X ∧ Byo wr bb ob X)
  case atStart => exact ⟨0, rfl, Nat.zero_le _, rfl, Below.refl _ _, hA, hB⟩
  case round =>
    clear hA hB
    obtain ⟨i, hk, hi, rfl, B, ha, hb⟩ := hrel
    have HK : Hid (gk = X.length - i) := hk
    have HH : Hid (Byo wr ba oa X ∧ Byo wr bb ob X) := ⟨ha, hb⟩
    clear hk ha hb
    by_cases h8 : i = X.length
    · subst h8
      go_wp2
      go_ret
      exact ⟨rfl, B⟩
    · have hi' : (i : Int) < X.length := by omega
      have hne : X ≠ [] := by intro h; rw [h] at h8 hi; simp at h8 hi; exact h8 hi
      have ea : a = some ⟨ba, oa, none⟩ := HA.out.1.resolve_left hne
      have ec : c = some ⟨bb, ob, none⟩ := HA.out.2.resolve_left hne
      subst ea ec
      have gx := HH.out.1 i (by omega)
      have gy := HH.out.2 i (by omega)
      generalize X.getD i 0 = x at *
      go_wp2
      go_region
      go_wp2
      go_roundg (X.length - (i + 1))
      case measure => have := HK.out; omega
      case rel => exact ⟨i + 1, rfl, by omega, by go_num, B.drew, HH.out.1, HH.out.2⟩

set_option maxHeartbeats 4000000 in
theorem fills_neg {n : Int} (hn : n < 0) (w : World) :
    Calls Try.prog 3 #[.int .i64 n] w fun e w' => e = .returned (.bool true) ∧ Below w.heap.size w w' := by
  go_enter Try.func3, Try.ntmps3
  go_wp2_with fail
  refine (pad_neg hn _).mono ?_
  rintro e w1 ⟨rfl, rfl⟩
  go_wp2
  go_ret
  exact ⟨rfl, Below.refl _ _⟩

/-- The number of bits, as far as it is read behind i bytes of the filling. -/
def read (n len i : Nat) : Nat := 8 * n % 18446744073709551616 / 2 ^ (8 * (len - i))
theorem read_small {n len i : Nat} (h : i + 8 ≤ len) : read n len i = 0 := by
  rw [read]
  apply Nat.div_eq_of_lt
  have h1 : 2 ^ 64 ≤ 2 ^ (8 * (len - i)) := Nat.pow_le_pow_right (by decide) (by omega)
  have h2 : 8 * n % 18446744073709551616 < 18446744073709551616 := Nat.mod_lt _ (by decide)
  omega
theorem read_step {n len i : Nat} (h : i < len) (h8 : len ≤ i + 8) : read n len (i + 1) = read n len i * 256 + (lb n (i + 8 - len)).toNat := by
  rw [read, read, lb, BitVec.toNat_ofNat, show 56 - 8 * (i + 8 - len) = 8 * (len - (i + 1)) by omega, show 8 * (len - i) = 8 * (len - (i + 1)) + 8 by omega, Nat.pow_add, ← Nat.div_div_eq_div_mul]
  generalize 8 * n % 18446744073709551616 / 2 ^ (8 * (len - (i + 1))) = q
  omega
theorem read_lt {n len i : Nat} (h : i < len) : read n len i < 72057594037927936 := by
  have h2 : 8 * n % 18446744073709551616 < 18446744073709551616 := Nat.mod_lt _ (by decide)
  have h1 : 2 ^ 8 ≤ 2 ^ (8 * (len - i)) := Nat.pow_le_pow_right (by decide) (by omega)
  rw [read]
  apply Nat.div_lt_of_lt_mul
  have : 2 ^ 8 * 72057594037927936 ≤ 2 ^ (8 * (len - i)) * 72057594037927936 := Nat.mul_le_mul_right _ h1
  omega
theorem or_step {b : Nat} (x : BitVec 8) (h : b < 72057594037927936) : bits .or .u64 ((b : Int) * 256) (Y x) = ((b * 256 + x.toNat : Nat) : Int) := by
  have hx := x.isLt
  rw [Y_eq, show (b : Int) * 256 = ((b * 256 : Nat) : Int) by simp, u64_or_nat _ _ (by omega) (by omega)]
  congr 1
  have := Nat.shiftLeft_add_eq_or_of_lt (i := 8) (b := x.toNat) (by omega) b
  rw [Nat.shiftLeft_eq] at this
  exact this.symm
theorem padL_zero {n i : Nat} (h1 : 1 ≤ i) (h : i + 8 < zn n + 9) : (padL n).getD i 0 = 0 := by
  obtain ⟨k, rfl⟩ : ∃ k, i = k + 1 := ⟨i - 1, by omega⟩
  rw [padL, List.getD, List.getElem?_cons_succ, List.getElem?_append_left (by rw [List.length_replicate]; omega), List.getElem?_replicate, if_pos (by omega)]
  rfl
theorem padL_len8 {n i : Nat} (h : zn n + 9 ≤ i + 8) (h2 : i < zn n + 9) : (padL n).getD i 0 = lb n (i + 8 - (zn n + 9)) := by
  obtain ⟨k, rfl⟩ : ∃ k, i = k + 1 := ⟨i - 1, by omega⟩
  rw [padL, List.getD, List.getElem?_cons_succ, List.getElem?_append_right (by rw [List.length_replicate]; omega), List.length_replicate, lbs, List.getElem?_map, List.getElem?_range (by omega)]
  simp only [Option.map_some, Option.getD_some]
  congr 1
  omega

set_option maxHeartbeats 4000000 in
theorem fills_any {n : Nat} (hn : n < 9223372036854775808) (w : World) :
    Calls Try.prog 3 #[.int .i64 (n : Int)] w fun e w' => e = .returned (.bool true) ∧ Below w.heap.size w w' := by
  go_enter Try.func3, Try.ntmps3
  have n0 : ¬ ((n : Int) < 0) := by omega
  have hn' : (n : Int) < 9223372036854775808 := by omega
  go_wp2_with fail
  refine (pad_any hn _).mono ?_
  rintro e w1 ⟨rfl, hO, hB⟩
  have HF : Hid (Own w.heap.size w1 (.slice (some ⟨w.heap.size, 0, none⟩) (padL n).length (padL n).length) (padL n) ∧ Below w.heap.size w w1 ∧ n < 9223372036854775808) := ⟨hO, hB, hn⟩
  obtain ⟨L, kL⟩ : ∃ L, L = padL n := ⟨_, rfl⟩
  rw [← kL] at HF
  have lL : L.length = zn n + 9 := by rw [kL, padL_len]
  rw [← kL]
  have z9 := zn_lt n
  have l1 : ¬ ((L.length : Int) < 9) := by omega
  have l2 : ¬ (72 < (L.length : Int)) := by omega
  have l3 : ((n : Int) + (L.length : Int)) % 64 = 0 := by rw [lL, zn]; omega
  have l4 : (((n : Int) + (L.length : Int)) % 64 != 0) = false := by rw [l3]; rfl
  have l5 : (L.length : Int) ≤ 72 := by omega
  have d1 : decide ((n : Int) < 0) = false := decide_eq_false (by omega)
  have d2 : decide ((L.length : Int) < 9) = false := decide_eq_false (by omega)
  have d3 : decide (72 < (L.length : Int)) = false := decide_eq_false (by omega)
  have l6 : 0 < L.length := by omega
  have l7 : (0 : Int) < (L.length : Int) := by omega
  have g0 : w1.cell? ⟨w.heap.size, 0, none⟩ = some (.int .u8 128) := by
    rw [HF.out.1.row.cellAt 0 (by omega), kL]
    have y8 : Y 128#8 = 128 := by rw [Y_eq]; rfl
    simp [byts, padL, y8]
  have KL : Hid (L = padL n ∧ L.length = zn n + 9) := ⟨kL, lL⟩
  clear hO hB hn kL lL z9 l3 hn'
  go_wp2_with fail
  have q5 : ((n : Int) % 64 + (L.length : Int)) % 64 = ((n : Int) + (L.length : Int)) % 64 := by omega
  rw [q5]
  clear d1 d2 d3 l4 g0 l7 q5
  go_loopg [5, 6] L.length (fun k bv iv wr => ∃ i : Nat, k = L.length + 1 - i ∧ 1 ≤ i ∧ i ≤ L.length ∧ bv = .int .u64 ((read n L.length i : Nat) : Int) ∧ iv = .int .i64 i ∧ Own w.heap.size wr (.slice (some ⟨w.heap.size, 0, none⟩) L.length L.length) L ∧ Below w.heap.size w wr)
  case atStart => exact ⟨1, rfl, Nat.le_refl _, by omega, by rw [read_small (by have := KL.out.2; omega)]; rfl, rfl, HF.out.1, HF.out.2.1⟩
  case round =>
    have HN : Hid (n < 9223372036854775808) := HF.out.2.2
    clear HF
    obtain ⟨i, hk, hi1, hi, rfl, rfl, hO, hB⟩ := hrel
    have HK : Hid (gk = L.length + 1 - i) := hk
    have HF : Hid (Own w.heap.size wr (.slice (some ⟨w.heap.size, 0, none⟩) L.length L.length) L ∧ Below w.heap.size w wr) := ⟨hO, hB⟩
    clear hk hO hB
    by_cases h8 : i = L.length
    · subst h8
      have rP : read n L.length L.length = 8 * n % 18446744073709551616 := by rw [read, Nat.sub_self, Nat.mul_zero, Nat.pow_zero, Nat.div_one]
      have RP : Hid (read n L.length L.length = 8 * n % 18446744073709551616) := rP
      clear rP
      have HL : Hid (L.length ≤ 72) := by have h : L.length ≤ 72 := (by omega); exact h
      obtain ⟨i0, hi0, hz0, hz1, hz2⟩ := info_parts info_byte
      have HZ : Hid (Try.prog.info? 5 = some i0 ∧ i0.zero = some (.int .u8 0) ∧ i0.size = 1 ∧ i0.bytes = 1) := ⟨hi0, hz0, hz1, hz2⟩
      have y9 : Hid (Y 9 = 9) := by rw [Y_eq]; rfl
      clear hi0 hz0 hz1 hz2
      go_wp2_with (at_builtin; refine wpList_append_own_at _ rfl _ _ 22 rfl w.heap.size 5 i0 (.int .u8 0) 1 1 Try.underlying22 HZ.out.1 HZ.out.2.1 HZ.out.2.2.1 HZ.out.2.2.2 rfl (by decide) (.slice (some ⟨w.heap.size, 0, none⟩) L.length L.length) _ _ rfl (HF.out.1.row.alloc _) ⟨wr.heap.size, 0, none⟩ 1 1 [.int .u8 9] rfl rfl (cell_one_new _ _ _) (fun u hu => by simp at hu; subst hu; rfl) (by unfold maxLen; have := HL.out; omega) (by have := HL.out; omega) (by have := HF.out.2.size; simp; omega) ?_; intro v3 w3 hown3 hgrow3 hnil3 hblk3; have I3 : Hid (Own w.heap.size w3 v3 (L ++ [9]) ∧ Below w.heap.size w w3) := ⟨by rw [Own, List.length_append, ← byts_snoc, y9.out]; exact hown3, (HF.out.2.alloc HF.out.2.size _).grown hgrow3 (by have := HF.out.2.size; simp; omega) (fun k hk => (HF.out.1.row.lt k hk).1)⟩; clear hown3 hgrow3 hnil3 hblk3)
      obtain ⟨g, c, ev, hc⟩ := own_form I3.out.1 (by simp)
      subst ev
      refine (pad_any HN.out _).mono ?_
      rintro e w4 ⟨rfl, hO4, hB4⟩
      rw [← KL.out.1] at hO4 ⊢
      have lA : (L ++ [9]).length = L.length + 1 := by simp
      have BY : Hid (Byo w4 g 0 L ∧ Byo w4 w3.heap.size 0 L ∧ Below w.heap.size w w4 ∧ L.length + 1 ≤ c) := by
        refine ⟨fun i hi => ?_, fun i hi => ?_, I3.out.2.trans (hB4.mono I3.out.2.size), by omega⟩
        · have hr := I3.out.1.row
          rw [Nat.zero_add, hB4.cell (p := ⟨g, i, none⟩) (hr.lt g rfl).2, hr.cellAt i (by rw [lA]; omega)]
          have e : (byts (L ++ [9]))[i]? = (byts L)[i]? := by rw [byts, List.map_append, List.getElem?_append_left (by simpa using hi)]; rfl
          rw [e]
          simp [byts, List.getD, hi]
        · rw [Nat.zero_add, hO4.row.cellAt i (by omega)]
          simp [byts, List.getD, hi]
      rw [lA]
      clear hO4 hB4 I3
      have e8 : Hid (read n L.length L.length = 8 * n % 18446744073709551616) := RP.out
      have v8 : IntKind.u64.wrap ((n : Int) * 8) = ((read n L.length L.length : Nat) : Int) := by rw [IntKind.wrap_u64, e8.out]; omega
      generalize read n L.length L.length = b at *
      clear lA hc RP e8
      have hn' : (n : Int) < 9223372036854775808 := by have := HN.out; omega
      have c2 := BY.out.2.2.2
      go_wp2_with fail
      refine (same_yes (X := L) (by have := HL.out; omega) (.inr rfl) (.inr rfl) _ BY.out.2.1 BY.out.1).mono ?_
      rintro e w5 ⟨rfl, hB5⟩
      have HB : Hid (Below w.heap.size w w5) := BY.out.2.2.1.trans (hB5.mono BY.out.2.2.1.size)
      clear hB5 BY
      go_wp2
      go_ret
      exact ⟨rfl, HB.out⟩
    · have hi' : (i : Int) < (L.length : Int) := by omega
      have g1 : wr.cell? ⟨w.heap.size, i, none⟩ = some (.int .u8 (Y (L.getD i 0))) := by
        rw [HF.out.1.row.cellAt i (by omega)]
        simp [byts, List.getD, show i < L.length by omega]
      by_cases h7 : i + 8 < L.length
      · have x0 : L.getD i 0 = 0 := by rw [KL.out.1]; exact padL_zero hi1 (by have := KL.out.2; omega)
        have b0 : read n L.length i = 0 := read_small (by omega)
        have b1 : Hid (read n L.length (i + 1) = 0) := read_small (by omega)
        rw [x0, Y_zero] at g1
        rw [b0]
        have c1 : (i : Int) < (L.length : Int) - 8 := by omega
        have c2 : decide ((i : Int) < (L.length : Int) - 8) = true := decide_eq_true c1
        clear b0 x0
        go_wp2
        go_roundg (L.length + 1 - (i + 1))
        case measure => have := HK.out; omega
        case rel => exact ⟨i + 1, rfl, by omega, by omega, by rw [b1.out], by go_num, HF.out⟩
      · have x0 : L.getD i 0 = lb n (i + 8 - L.length) := by rw [KL.out.2]; rw [KL.out.1]; exact padL_len8 (by have := KL.out.2; omega) (by have := KL.out.2; omega)
        have st := read_step (n := n) (len := L.length) (i := i) (by omega) (by omega)
        rw [← x0] at st
        have lt := read_lt (n := n) (len := L.length) (i := i) (by omega)
        generalize L.getD i 0 = x at *
        have os := or_step x lt
        rw [← st] at os
        have ST : Hid (read n L.length (i + 1) = read n L.length i * 256 + x.toNat) := st
        clear x0 st
        have y0 := Y_lo x; have y1 := Y_hi x
        obtain ⟨b2, hb2⟩ : ∃ b2, read n L.length (i + 1) = b2 := ⟨_, rfl⟩
        have B2 : Hid (read n L.length (i + 1) = b2) := hb2
        rw [hb2] at os
        clear hb2 ST
        generalize hb : read n L.length i = b at *
        have b3 : (b : Int) < 72057594037927936 := by omega
        have c1 : ¬ ((i : Int) < (L.length : Int) - 8) := by omega
        have c2 : decide ((i : Int) < (L.length : Int) - 8) = false := decide_eq_false c1
        have c3 : decide ((L.length : Int) - 8 ≤ (i : Int)) = true := decide_eq_true (by omega)
        clear lt hb
        go_wp2
        go_roundg (L.length + 1 - (i + 1))
        case measure => have := HK.out; omega
        case rel => exact ⟨i + 1, rfl, by omega, by omega, by rw [B2.out], by go_num, HF.out⟩

end Go.Proofs.Ytniabadlbockaaa

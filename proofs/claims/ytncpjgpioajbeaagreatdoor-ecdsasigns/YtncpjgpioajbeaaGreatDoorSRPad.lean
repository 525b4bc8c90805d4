import Derived.Test.YtncpjgpioajbeaaGreatDoorSRJoin
import Derived.Test.YtncpjgpioajbeaaGreatDoorSPad
import Derived.Test.YtncpjgpioajbeaaGreatDoorSRRounds
/- The document's Pad. -/
namespace Go.Proofs.YtncpjgpioajbeaaGreatDoor.S
open Go.RowKit Go.Sort

theorem own_oneS {W : World} {base : Nat} {x : BitVec 8} (h : base ≤ W.heap.size) {t : TypeId} (et : t = 5) : Own base (W.alloc (.cells #[.int .u8 (Y x)] t)) (.slice (some ⟨W.heap.size, 0, none⟩) 1 1) [x] := by
  subst et
  refine ⟨rfl, .inr ⟨W.heap.size, 1, #[.int .u8 (Y x)], rfl, h, ?_, Nat.le_refl _, by unfold maxLen; decide, rfl, rfl⟩⟩
  show (W.heap.push _)[W.heap.size]? = _
  simp
theorem Own.formS {B : Nat} {W : World} {v : Value} {X : List (BitVec 8)} (h : Own B W v X) : ∃ a c, v = .slice a X.length c := by
  rcases h.2 with ⟨e, hx⟩ | ⟨g, cap, cur, e, _⟩
  · exact ⟨none, 0, by rw [e, hx]⟩
  · exact ⟨_, cap, e⟩
/-- What stands of a filling: the mark and so many zeros. -/
def pz (j : Nat) : List (BitVec 8) := 128 :: List.replicate j 0
theorem pz_len (j : Nat) : (pz j).length = j + 1 := by simp [pz]
theorem pz_snoc (j : Nat) : pz (j + 1) = pz j ++ [0] := by simp [pz, List.replicate_succ']
def pb (n m : Nat) : List (BitVec 8) := pz (zn n) ++ lbs n m
theorem pb_len (n m : Nat) : (pb n m).length = zn n + 1 + m := by simp [pb, pz_len, lbs_len]
theorem pb_0 (n : Nat) : pb n 0 = pz (zn n) := by simp [pb, lbs]
theorem pb_snoc (n m : Nat) : pb n (m + 1) = pb n m ++ [lb n m] := by rw [pb, lbs_succ, ← List.append_assoc]; rfl
theorem pb_8 (n : Nat) : pb n 8 = padL n := by simp [pb, pz, padL]

set_option maxRecDepth 100000 in
set_option maxHeartbeats 8000000 in
theorem rpad_any {n : Nat} (hn : n < 1073741824) (w : World) :
    Calls Tryz.prog 156 #[.int .i64 (n : Int)] w fun e w' => (∃ v, e = .returned (.tuple #[v, .int .i64 0]) ∧ Own w.heap.size w' v (padL n)) ∧ Below w.heap.size w w' := by
  obtain ⟨i0, hi, hz0, hz1, hz2⟩ := info_parts info_byte
  have hn' : (n : Int) < 1073741824 := by omega
  have HN : Hid (n < 1073741824) := hn
  have n0 : ¬ ((n : Int) < 0) := by omega
  have y128 : Y 128 = 128 := by rw [Y_eq]; rfl
  have yz : Hid (Y 0 = 0) := Y_zero
  have HO1 : Hid (Own w.heap.size (w.alloc (.cells #[.int .u8 128] 5)) (.slice (some ⟨w.heap.size, 0, none⟩) 1 1) (pz 0)) := by
    have h := own_oneS (W := w) (base := w.heap.size) (x := 128) (Nat.le_refl _) rfl
    rw [y128] at h
    exact h
  clear hn y128
  go_enter Tryz.func156, Tryz.ntmps156
  go_wp2_with fail
  go_loopg [4] (zn n) (fun k lv wr => ∃ (j : Nat) (a : Option Addr) (c : Nat), k = zn n - j ∧ j ≤ zn n ∧ lv = .slice a (j + 1) c ∧ Own w.heap.size wr lv (pz j) ∧ Below w.heap.size w wr)
  case atStart => exact ⟨0, _, _, rfl, Nat.zero_le _, rfl, HO1.out, (Below.refl _ _).alloc (Nat.le_refl _) _⟩
  case round =>
    clear HO1
    obtain ⟨j, a, c, hk, hj, rfl, hown, B⟩ := hrel
    have HK : Hid (gk = zn n - j) := hk
    have HF : Hid (Own w.heap.size wr (.slice a (j + 1) c) (pz j) ∧ Below w.heap.size w wr) := ⟨hown, B⟩
    have hz := zn_lt n
    clear hk hown B
    by_cases h8 : j = zn n
    · have tz : ((n : Int) % 64 + ((j : Int) + 1) + 8) % 64 = 0 := by rw [h8, zn]; omega
      have j64 : (j : Int) < 64 := by omega
      have HJ : Hid (j = zn n) := h8
      clear h8 hj hz
      go_wp2_with fail
      have HG : Hid (Own w.heap.size wr (.slice a (j + 1) c) (pb n 0) ∧ Below w.heap.size w wr) := by rw [pb_0, ← HJ.out]; exact HF.out
      obtain ⟨P, hP⟩ : ∃ P : Nat, P = 8 * n := ⟨_, rfl⟩
      have eP : (n : Int) * 8 = (P : Int) := by omega
      have HP : Hid (P = 8 * n % 18446744073709551616) := (by have := HN.out; rw [hP]; omega : P = 8 * n % 18446744073709551616)
      have P1 : (P : Int) < 8589934592 := by have := HN.out; omega
      rw [eP]
      have PH : Hid ((P : Int) < 8589934592) := P1
      clear eP hP HF tz j64 P1
      generalize Value.slice a (j + 1) c = v0 at *
      go_loopg [4, 6] 8 (fun k lv iv wr => ∃ (i : Nat) (jv : Int), k = i ∧ i ≤ 8 ∧ iv = .int .i64 jv ∧ jv = (i : Int) - 1 ∧ Own w.heap.size wr lv (pb n (8 - i)) ∧ Below w.heap.size w wr)
      case atStart => exact ⟨8, 7, rfl, by decide, rfl, by decide, HG.out.1, HG.out.2⟩
      case round =>
        clear HG
        obtain ⟨i, jv, hk, hi8, rfl, hj, hown, B⟩ := hrel
        have HK2 : Hid (gk = i) := hk
        clear hk
        cases i with
        | zero =>
          obtain rfl : jv = -1 := by omega
          have HF : Hid (Own w.heap.size wr u4 (padL n) ∧ Below w.heap.size w wr) := by
            rw [← pb_8]; exact ⟨hown, B⟩
          clear hj hown B
          go_wp2
          refine bodyPost_ret (v := .tuple #[u4, .int .i64 0]) ?_ rfl ⟨⟨_, rfl, HF.out.1⟩, HF.out.2⟩
          simp [results, Tryz.results156, go_sem]
        | succ i =>
          obtain rfl : jv = (i : Int) := by omega
          obtain ⟨m, em⟩ : ∃ m : Nat, m = 8 - (i + 1) := ⟨_, rfl⟩
          rw [← em] at hown
          have HF : Hid (Own w.heap.size wr u4 (pb n m) ∧ Below w.heap.size w wr) := ⟨hown, B⟩
          have NX : Hid (pb n (8 - i) = pb n m ++ [lb n m]) := by rw [show 8 - i = m + 1 by omega]; exact pb_snoc n m
          have LR : Hid ((pb n m).length < 200) := (by rw [pb_len]; have := zn_lt n; omega : (pb n m).length < 200)
          have hb := Y_lb (n := n) (i := m) HP.out
          rw [show 56 - 8 * m = 8 * i by omega, IntKind.wrap_u8'] at hb
          have i0' : (0 : Int) ≤ (i : Int) := by omega
          have i1' : (i : Int) < 8 := by omega
          have e8 : (8 * (i : Int)).toNat = 8 * i := by omega
          have q8 : 8 * i < 64 := by omega
          generalize lb n m = x at *
          clear hj hown B em
          go_wp2_with ((at_builtin; go_loud (refine wpList_append_own_at _ rfl _ _ 76 rfl w.heap.size 5 i0 (.int .u8 0) 1 1 Tryz.underlying76 hi hz0 hz1 hz2 rfl (by decide) u4 _ _ rfl (HF.out.1.row.alloc _) ⟨wr.heap.size, 0, none⟩ 1 1 [.int .u8 (Y x)] rfl rfl (cell_one_new _ _ _) (fun u hu => by simp at hu; subst hu; rfl) (by unfold maxLen; have := LR.out; omega) (by have := LR.out; omega) (by have := HF.out.2.size; simp; omega) ?_); intro v' w3 hown' hgrow3 hnil3 hblk))
          have HO : Hid (Own w.heap.size w3 v' (pb n (8 - i)) ∧ Below w.heap.size w w3) := by
            refine ⟨?_, ?_⟩
            · rw [NX.out, Own, List.length_append, ← byts_snoc]
              exact hown'
            · exact (HF.out.2.alloc HF.out.2.size _).grown hgrow3 (by have := HF.out.2.size; simp; omega) (fun k hk => (HF.out.1.row.lt k hk).1)
          clear hown' hgrow3 hnil3 hblk
          go_wp2
          go_roundg i
          case measure => have := HK2.out; omega
          case rel => exact ⟨i, _, rfl, by omega, rfl, by omega, HO.out.1, HO.out.2⟩
    · have tz : ((n : Int) % 64 + ((j : Int) + 1) + 8) % 64 ≠ 0 := by
        have h1 : j < zn n := by omega
        rw [zn] at h1; omega
      have m0 : 0 ≤ (n : Int) % 64 := by omega
      have m1 : (n : Int) % 64 < 64 := by omega
      have t1 : ¬ (((n : Int) + ((j : Int) + 1) + 8) % 64 = 0) := by omega
      have t2 : ((((n : Int) + ((j : Int) + 1) + 8) % 64) == 0) = false := beq_eq_false_iff_ne.2 t1
      have t3 : ((((n : Int) % 64 + ((j : Int) + 1) + 8) % 64) == 0) = false := beq_eq_false_iff_ne.2 tz
      have t5 : ((((n : Int) + ((j : Int) + 1) + 8) % 64) != 0) = true := by rw [bne, t2]; rfl
      have t6 : ((((n : Int) % 64 + ((j : Int) + 1) + 8) % 64) != 0) = true := by rw [bne, t3]; rfl
      clear t1
      clear tz
      have j64 : (j : Int) < 64 := by omega
      have HJ : Hid (j < zn n ∧ j < 64) := ⟨by omega, by omega⟩
      have LR : Hid ((pz j).length = j + 1) := pz_len j
      clear h8 hj hz
      go_wp2_with ((at_builtin; go_loud (refine wpList_append_own_at _ rfl _ _ 76 rfl w.heap.size 5 i0 (.int .u8 0) 1 1 Tryz.underlying76 hi hz0 hz1 hz2 rfl (by decide) (.slice a (j + 1) c) _ _ rfl (HF.out.1.row.alloc _) ⟨wr.heap.size, 0, none⟩ 1 1 [.int .u8 0] rfl rfl (cell_one_new _ _ _) (fun u hu => by simp at hu; subst hu; rfl) (by unfold maxLen; have := LR.out; have := HJ.out; omega) (by have := LR.out; have := HJ.out; omega) (by have := HF.out.2.size; simp; omega) ?_); intro v' w3 hown' hgrow3 hnil3 hblk))
      have HO : Hid (Own w.heap.size w3 v' (pz (j + 1)) ∧ Below w.heap.size w w3) := by
        refine ⟨?_, ?_⟩
        · rw [pz_snoc, Own, List.length_append, ← byts_snoc, yz.out]
          exact hown'
        · exact (HF.out.2.alloc HF.out.2.size _).grown hgrow3 (by have := HF.out.2.size; simp; omega) (fun k hk => (HF.out.1.row.lt k hk).1)
      clear hown' hgrow3 hnil3 hblk
      obtain ⟨a', c', rfl⟩ := HO.out.1.formS
      rw [pz_len] at HO
      rw [pz_len]
      go_wp2
      go_roundg (zn n - (j + 1))
      case measure => have := HK.out; have := HJ.out; omega
      case rel => exact ⟨j + 1, a', c', rfl, by have := HJ.out; omega, rfl, HO.out.1, HO.out.2⟩
end Go.Proofs.YtncpjgpioajbeaaGreatDoor.S

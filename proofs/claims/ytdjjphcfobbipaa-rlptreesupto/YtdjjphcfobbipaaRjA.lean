import Derived.Test.YtdjjphcfobbipaaUbA
import Derived.Test.YtdjjphcfobbipaaUbC
import Derived.Test.YtdjjphcfobbipaaShelf
import Derived.Deep.OwnRows
import Derived.Laws.CopyOwn
/- Layer 7: the head of a list, as both write it. -/
namespace Go.Proofs.Ytdjjphcfobbipaa
open Go.RowKit Go.Sort

/-- A number's bytes, the highest first (of numbers below 2^24). -/
def beN (n : Nat) : List Int := if n < 256 then [(n : Int)] else if n < 65536 then [(n : Int) / 256, (n : Int) % 256] else [(n : Int) / 65536, (n : Int) / 256 % 256, (n : Int) % 256]
/-- A head. -/
def hdR (f : Int) (n : Nat) : List Int := if n ≤ 55 then [f + n] else (f + 55 + (beN n).length) :: beN n
theorem beN_len (n : Nat) : 1 ≤ (beN n).length ∧ (beN n).length ≤ 3 := by
  unfold beN
  split
  · exact ⟨Nat.le_refl 1, by show 1 ≤ 3; decide⟩
  · split
    · exact ⟨by show 1 ≤ 2; decide, by show 2 ≤ 3; decide⟩
    · exact ⟨by show 1 ≤ 3; decide, Nat.le_refl 3⟩
theorem hdR_len (f : Int) (n : Nat) : (hdR f n).length ≤ 4 := by
  unfold hdR
  have := beN_len n
  split
  · exact (by decide : 1 ≤ 4)
  · rw [List.length_cons]; omega
theorem put_at (n : Nat) {t : Nat} (h : t < 32) : (putL (n : Int)).getD t 0 = (n : Int) / 256 ^ (31 - t) % 256 := putL_getD _ h
theorem put_low {n t w : Nat} (hw : n < 256 ^ w) (h : t + w < 32) : (putL (n : Int)).getD t 0 = 0 := by
  rw [put_at n (by omega)]
  have e : ((n : Int) / 256 ^ (31 - t)) = 0 := by
    apply Int.ediv_eq_zero_of_lt (by omega)
    have h1 : 256 ^ w ≤ 256 ^ (31 - t) := Nat.pow_le_pow_right (by decide) (by omega)
    have h2 : n < 256 ^ (31 - t) := Nat.lt_of_lt_of_le hw h1
    have h3 : ((n : Nat) : Int) < ((256 ^ (31 - t) : Nat) : Int) := Int.ofNat_lt.2 h2
    rw [Int.natCast_pow] at h3
    exact h3
  rw [e]; rfl
theorem drop_ext {l m : List Int} {k : Nat} (hl : l.length = k + m.length) (h : ∀ i, i < m.length → l.getD (k + i) 0 = m.getD i 0) : l.drop k = m := by
  refine List.ext_getElem (by rw [List.length_drop]; omega) fun i h1 h2 => ?_
  have := h i h2
  rw [List.getElem_drop]
  rwa [List.getD, List.getD, List.getElem?_eq_getElem (by omega), List.getElem?_eq_getElem h2] at this
theorem strip_be {n : Nat} (h0 : 0 < n) (h1 : n < 16777216) : stripL (putL (n : Int)) = beN n := by
  have hl := putL_len (n : Int)
  have d31 := put_at n (t := 31) (by decide)
  have d30 := put_at n (t := 30) (by decide)
  have d29 := put_at n (t := 29) (by decide)
  simp only [show 31 - 31 = 0 from rfl, show 31 - 30 = 1 from rfl, show 31 - 29 = 2 from rfl, Int.pow_zero, Int.pow_one, show (256 : Int) ^ 2 = 65536 from rfl, Int.ediv_one] at d31 d30 d29
  unfold beN
  by_cases k1 : n < 256
  · rw [if_pos k1]
    rw [strip_zeros 31 _ (fun t ht => put_low (w := 1) (by simpa using k1) (by omega)) (fun _ => by rw [d31]; omega) (by omega)]
    refine drop_ext (by rw [hl]; rfl) fun i hi => ?_
    obtain rfl : i = 0 := by simpa using hi
    rw [d31]; show _ = (n : Int); omega
  · rw [if_neg k1]
    by_cases k2 : n < 65536
    · rw [if_pos k2]
      rw [strip_zeros 30 _ (fun t ht => put_low (w := 2) (by simpa using k2) (by omega)) (fun _ => by rw [d30]; omega) (by omega)]
      refine drop_ext (by rw [hl]; rfl) fun i hi => ?_
      have hi' : i < 2 := hi
      have : i = 0 ∨ i = 1 := by omega
      rcases this with rfl | rfl
      · rw [d30]; show _ = (n : Int) / 256; omega
      · rw [d31]; rfl
    · rw [if_neg k2]
      rw [strip_zeros 29 _ (fun t ht => put_low (w := 3) (by simpa using h1) (by omega)) (fun _ => by rw [d29]; omega) (by omega)]
      refine drop_ext (by rw [hl]; rfl) fun i hi => ?_
      have hi' : i < 3 := hi
      have : i = 0 ∨ i = 1 ∨ i = 2 := by omega
      rcases this with rfl | rfl | rfl
      · rw [d29]; show _ = (n : Int) / 65536; omega
      · rw [d30]; rfl
      · rw [d31]; rfl
theorem bl_le {n k : Nat} (h : n < 2 ^ k) (hk : k ≤ 64) : Lib.bitLen n ≤ k := Lib.bitLen_le n k hk h
theorem bl_ge {n k : Nat} (h : 2 ^ k ≤ n) (hn : n < 2 ^ 64) : k < Lib.bitLen n := by
  have h0 : n ≠ 0 := by have := Nat.one_le_two_pow (n := k); omega
  have := (Lib.bitLenAux_bounds 64 n hn h0).2.2
  have e : n < 2 ^ Lib.bitLen n := this
  exact (Nat.pow_lt_pow_iff_right (by decide : 1 < 2)).1 (Nat.lt_of_le_of_lt h e)
theorem lsize {n : Nat} (h0 : 0 < n) (h1 : n < 16777216) : (Lib.bitLen n + 7) / 8 = (beN n).length := by
  unfold beN
  have a0 := bl_ge (k := 0) (n := n) (by rw [Nat.pow_zero]; exact h0) (by omega)
  by_cases k1 : n < 256
  · rw [if_pos k1]
    have a1 := bl_le (k := 8) (n := n) (by simpa using k1) (by decide)
    show _ = 1
    omega
  · rw [if_neg k1]
    have a1 := bl_ge (k := 8) (n := n) (by simp; omega) (by omega)
    by_cases k2 : n < 65536
    · rw [if_pos k2]
      have a2 := bl_le (k := 16) (n := n) (by simpa using k2) (by decide)
      show _ = 2
      omega
    · rw [if_neg k2]
      have a2 := bl_ge (k := 16) (n := n) (by simp; omega) (by omega)
      have a3 := bl_le (k := 24) (n := n) (by simpa using h1) (by decide)
      show _ = 3
      omega
theorem lengthSize_any {n : Nat} (h0 : 0 < n) (h1 : n < 16777216) (w : World) :
    Calls Try.prog 75 #[.int .i64 (n : Int)] w fun e w' => e = .returned (.int .i64 ((beN n).length : Int)) ∧ w' = w := by
  have c := Try.bits_Len (n : Int)
  have e := lsize h0 h1
  have hb := bl_le (k := 24) (n := n) (by simpa using h1) (by decide)
  have e2 : ((Lib.bitLen n : Int) + 7).tdiv 8 = ((beN n).length : Int) := by
    rw [Int.tdiv_eq_ediv_of_nonneg (by omega)]; omega
  have e3 : ((Lib.bitLen n : Int) + 7) / 8 = ((beN n).length : Int) := by omega
  have c2 : ∀ w, Calls Try.prog 79 #[.int .u64 (n : Int)] w fun e w' => e = .returned (.int .i64 (Lib.bitLen n : Int)) ∧ w' = w := fun w => by
    have := c w (by omega) (by omega)
    rwa [Int.toNat_natCast] at this
  have hn1 : (n : Int) < 16777216 := by omega
  have hb' : (Lib.bitLen n : Int) ≤ 24 := by omega
  clear e c hb
  generalize Lib.bitLen n = bl at *
  generalize (beN n).length = r at *
  go_enter Try.func75, Try.ntmps75
  go_wp2_with ((with_reducible refine (c2 _).mono ?_); rintro e1 w1 ⟨rfl, hw⟩; (rw [hw]); (clear hw w1))
  simp [bodyPost, results, Try.results75, go_sem]
  all_goals first | exact e3 | exact e2 | omega
theorem headSize_any {n : Nat} (h1 : n < 16777216) (w : World) :
    Calls Try.prog 68 #[.int .i64 (n : Int)] w fun e w' => e = .returned (.int .i64 ((hdR 192 n).length : Int)) ∧ w' = w := by
  by_cases k : n ≤ 55
  · have hk : (n : Int) ≤ 55 := by omega
    have e : (hdR 192 n).length = 1 := by unfold hdR; rw [if_pos k]; rfl
    rw [e]
    go_enter Try.func68, Try.ntmps68
    go_wp2
    simp [bodyPost, results, Try.results68, go_sem]
  · have hk : ¬ ((n : Int) ≤ 55) := by omega
    have c := lengthSize_any (n := n) (by omega) h1
    have e : (hdR 192 n).length = (beN n).length + 1 := by unfold hdR; rw [if_neg k]; rfl
    have hl := (beN_len n).2
    have hl' : ((beN n).length : Int) ≤ 3 := by omega
    rw [e]
    generalize (beN n).length = r at *
    clear e hl
    go_enter Try.func68, Try.ntmps68
    go_wp2_with ((with_reducible refine (c _).mono ?_); rintro e1 w1 ⟨rfl, hw⟩; (rw [hw]); (clear hw w1))
    simp [bodyPost, results, Try.results68, go_sem]
    omega
end Go.Proofs.Ytdjjphcfobbipaa

/- Layer 7: withHead, the document's before. -/
namespace Go.Proofs.Ytdjjphcfobbipaa
open Go.RowKit Go.Sort

/-- One byte appended to a list of one's own, out of a block of one cell made for it. -/
theorem own_snoc {B : Nat} {w : World} {v' : Value} {X : List Int} {x : Int} (h : w.ownsRow B 5 1 v' (X.length + 1) (X.map (Value.int .u8) ++ [.int .u8 x])) : OwnB B w v' (X ++ [x]) := by
  rw [OwnB, List.length_append, List.map_append]
  exact h
set_option maxRecDepth 100000 in
set_option maxHeartbeats 4000000 in
theorem withHead_low {B : Nat} {v : Value} {P : List Int} {n : Nat} (hn : n ≤ 55) (hp : P.length < 1000000000) (w : World) (hB : B ≤ w.heap.size) (h : OwnB B w v P) :
    Calls Try.prog 78 #[v, .bool true, .int .i64 (n : Int)] w fun e w' => ∃ v', e = .returned v' ∧ OwnB B w' v' (P ++ [192 + (n : Int)]) ∧ Below B w w' := by
  obtain ⟨i0, hi, hz0, hz1, hz2⟩ := info_parts info_byte
  have hn' : (n : Int) ≤ 55 := by omega
  have e1 : (192 + (n : Int)) % 256 = 192 + n := by omega
  have HO : Hid (OwnB B w v P ∧ P.length < 1000000000 ∧ B ≤ w.heap.size) := ⟨h, hp, hB⟩
  clear h hp hB
  go_enter Try.func78, Try.ntmps78
  go_wp2_with ((at_builtin; go_loud (refine wpList_append_own_at _ rfl _ _ 22 rfl B 5 i0 (.int .u8 0) 1 1 Try.underlying22 hi hz0 hz1 hz2 rfl (by decide) v _ _ rfl (HO.out.1.row.alloc _) ⟨w.heap.size, 0, none⟩ 1 1 [.int .u8 (192 + (n : Int))] rfl rfl (cell_one_new _ _ _) (fun u hu => by simp at hu; subst hu; rfl) (by unfold maxLen; have := HO.out; omega) (by have := HO.out; omega) (by have := HO.out.2.2; simp; omega) ?_); intro v' w3 hown' hgrow3 hnil3 hblk))
  go_ret
  exact ⟨_, rfl, own_snoc hown', ((Below.refl B w).alloc HO.out.2.2 _).grown hgrow3 (by have := HO.out.2.2; simp; omega) (fun k hk => (HO.out.1.lt k hk).1)⟩
theorem own_congr {B : Nat} {w : World} {v : Value} {Z : List Int} {x y : Int} (h : OwnB B w v (Z ++ [x])) (e : x = y) : OwnB B w v (Z ++ [y]) := e ▸ h
/-- The bytes that the loop writes. -/
theorem be_at (n : Nat) : ((beN n).length = 1 ∧ (beN n).getD 0 0 = n ∧ n < 256) ∨ ((beN n).length = 2 ∧ (beN n).getD 0 0 = (n : Int) / 256 ∧ (beN n).getD 1 0 = (n : Int) % 256 ∧ n < 65536) ∨ ((beN n).length = 3 ∧ (beN n).getD 0 0 = (n : Int) / 65536 ∧ (beN n).getD 1 0 = (n : Int) / 256 % 256 ∧ (beN n).getD 2 0 = (n : Int) % 256) := by
  unfold beN
  by_cases k1 : n < 256
  · rw [if_pos k1]; exact .inl ⟨rfl, rfl, k1⟩
  · rw [if_neg k1]
    by_cases k2 : n < 65536
    · rw [if_pos k2]; exact .inr (.inl ⟨rfl, rfl, rfl, k2⟩)
    · rw [if_neg k2]; exact .inr (.inr ⟨rfl, rfl, rfl, rfl⟩)
set_option maxRecDepth 100000 in
set_option maxHeartbeats 8000000 in
theorem withHead_high {B : Nat} {v : Value} {P : List Int} {n : Nat} (hn : 55 < n) (hn2 : n < 16777216) (hp : P.length < 1000000000) (w : World) (hB : B ≤ w.heap.size) (h : OwnB B w v P) :
    Calls Try.prog 78 #[v, .bool true, .int .i64 (n : Int)] w fun e w' => ∃ v', e = .returned v' ∧ OwnB B w' v' (P ++ (192 + 55 + ((beN n).length : Int)) :: beN n) ∧ Below B w w' := by
  obtain ⟨i0, hi, hz0, hz1, hz2⟩ := info_parts info_byte
  have hn' : ¬ ((n : Int) ≤ 55) := by omega
  have hn3 : (n : Int) < 16777216 := by omega
  have c := lengthSize_any (n := n) (by omega) hn2
  have hl := beN_len n
  have hl' : ((beN n).length : Int) ≤ 3 := by omega
  have BA := be_at n
  have HO : Hid (OwnB B w v P ∧ P.length < 1000000000 ∧ B ≤ w.heap.size) := ⟨h, hp, hB⟩
  have HT : Hid (∀ i, i < (beN n).length → (beN n).take (i + 1) = (beN n).take i ++ [(beN n).getD i 0]) := fun i hi => take_snocI hi
  have HT2 : Hid ((beN n).take (beN n).length = beN n) := List.take_length
  clear h hp hB
  obtain ⟨r, er⟩ : ∃ r, r = (beN n).length := ⟨_, rfl⟩
  rw [← er] at c hl hl' BA HT HT2 ⊢
  generalize beN n = bn at *
  have HR : Hid (r = bn.length) := er
  clear er
  go_enter Try.func78, Try.ntmps78
  go_wp2_with (first | ((with_reducible refine (c _).mono ?_); rintro e1 w1 ⟨rfl, hw⟩; (rw [hw]); (clear hw w1)) | ((at_builtin; go_loud (refine wpList_append_own_at _ rfl _ _ 22 rfl B 5 i0 (.int .u8 0) 1 1 Try.underlying22 hi hz0 hz1 hz2 rfl (by decide) v _ _ rfl (HO.out.1.row.alloc _) ⟨w.heap.size, 0, none⟩ 1 1 [.int .u8 (192 + 55 + (r : Int))] rfl rfl (cell_one_new _ _ _) (fun u hu => by simp at hu; subst hu; rfl) (by unfold maxLen; have := HO.out; omega) (by have := HO.out; omega) (by have := HO.out.2.2; simp; omega) ?_); intro v' w3 hown' hgrow3 hnil3 hblk)))
  have G3 : Hid (OwnB B w3 v' (P ++ [192 + 55 + (r : Int)]) ∧ Below B w w3) := ⟨own_snoc hown', ((Below.refl B w).alloc HO.out.2.2 _).grown hgrow3 (by have := HO.out.2.2; simp; omega) (fun k hk => (HO.out.1.lt k hk).1)⟩
  clear hown' hgrow3 hnil3 hblk
  go_loopg [0, 31] r (fun k bv iv wr => ∃ i : Nat, k = r - i ∧ i ≤ r ∧ iv = .int .i64 (i : Int) ∧ OwnB B wr bv (P ++ (192 + 55 + (r : Int)) :: bn.take i) ∧ Below B w wr)
  case atStart => exact ⟨0, rfl, Nat.zero_le _, rfl, G3.out⟩
  case round =>
    clear G3
    obtain ⟨i, hk, hi8, rfl, ho, Bw⟩ := hrel
    have HK : Hid (gk = r - i ∧ i ≤ r) := ⟨hk, hi8⟩
    have HF : Hid (OwnB B wr u0 (P ++ (192 + 55 + (r : Int)) :: bn.take i) ∧ Below B w wr) := ⟨ho, Bw⟩
    clear hk ho Bw
    by_cases h8 : i = r
    · subst h8
      go_wp2
      go_ret
      exact ⟨_, rfl, by have := HF.out.1; rw [HT2.out] at this; exact this, HF.out.2⟩
    · have hlt : i < r := by omega
      have hlt' : (i : Int) < (r : Int) := by omega
      have LN : Hid ((P ++ (192 + 55 + (r : Int)) :: bn.take i).length < 1000000010) := by
        show _ < _
        rw [List.length_append, List.length_cons, List.length_take]
        have := HO.out.2.1
        omega
      have NX : Hid (P ++ (192 + 55 + (r : Int)) :: bn.take (i + 1) = (P ++ (192 + 55 + (r : Int)) :: bn.take i) ++ [bn.getD i 0]) := by
        show _ = _
        rw [HT.out i hlt]; simp
      rcases BA with ⟨r1, b0, bl⟩ | ⟨r1, b0, b1, bl⟩ | ⟨r1, b0, b1, b2⟩
      · have i1 : i = 0 := by omega
        subst r1 i1
        · go_wp2_with ((at_builtin; go_loud (refine wpList_append_own_at _ rfl _ _ 22 rfl B 5 i0 (.int .u8 0) 1 1 Try.underlying22 hi hz0 hz1 hz2 rfl (by decide) u0 _ _ rfl (HF.out.1.row.alloc _) ⟨wr.heap.size, 0, none⟩ 1 1 [.int .u8 _] rfl rfl (cell_one_new _ _ _) (fun u hu => by simp at hu; subst hu; rfl) (by unfold maxLen; have := LN.out; omega) (by have := LN.out; omega) (by have := HO.out.2.2; have := HF.out.2.size; simp; omega) ?_); intro v' w3 hown' hgrow3 hnil3 hblk))
          have G3 := own_snoc hown'
          have G4 : Below B w w3 := (HF.out.2.alloc (by have := HO.out.2.2; have := HF.out.2.size; omega) _).grown hgrow3 (by have := HO.out.2.2; have := HF.out.2.size; simp; omega) (fun k hk => (HF.out.1.lt k hk).1)
          clear hown' hgrow3 hnil3 hblk
          go_roundg (1 - (0 + 1))
          case measure => have := HK.out.1; omega
          case rel => exact ⟨0 + 1, rfl, by omega, by go_num, by rw [NX.out, b0]; exact own_congr G3 (by first | rfl | omega | (simp; omega)), G4⟩
      · have i1 : i = 0 ∨ i = 1 := by omega
        subst r1
        rcases i1 with i1 | i1 <;> subst i1
        · go_wp2_with ((at_builtin; go_loud (refine wpList_append_own_at _ rfl _ _ 22 rfl B 5 i0 (.int .u8 0) 1 1 Try.underlying22 hi hz0 hz1 hz2 rfl (by decide) u0 _ _ rfl (HF.out.1.row.alloc _) ⟨wr.heap.size, 0, none⟩ 1 1 [.int .u8 _] rfl rfl (cell_one_new _ _ _) (fun u hu => by simp at hu; subst hu; rfl) (by unfold maxLen; have := LN.out; omega) (by have := LN.out; omega) (by have := HO.out.2.2; have := HF.out.2.size; simp; omega) ?_); intro v' w3 hown' hgrow3 hnil3 hblk))
          have G3 := own_snoc hown'
          have G4 : Below B w w3 := (HF.out.2.alloc (by have := HO.out.2.2; have := HF.out.2.size; omega) _).grown hgrow3 (by have := HO.out.2.2; have := HF.out.2.size; simp; omega) (fun k hk => (HF.out.1.lt k hk).1)
          clear hown' hgrow3 hnil3 hblk
          go_roundg (2 - (0 + 1))
          case measure => have := HK.out.1; omega
          case rel => exact ⟨0 + 1, rfl, by omega, by go_num, by rw [NX.out, b0]; exact own_congr G3 (by first | rfl | omega | (simp; omega)), G4⟩
        · go_wp2_with ((at_builtin; go_loud (refine wpList_append_own_at _ rfl _ _ 22 rfl B 5 i0 (.int .u8 0) 1 1 Try.underlying22 hi hz0 hz1 hz2 rfl (by decide) u0 _ _ rfl (HF.out.1.row.alloc _) ⟨wr.heap.size, 0, none⟩ 1 1 [.int .u8 _] rfl rfl (cell_one_new _ _ _) (fun u hu => by simp at hu; subst hu; rfl) (by unfold maxLen; have := LN.out; omega) (by have := LN.out; omega) (by have := HO.out.2.2; have := HF.out.2.size; simp; omega) ?_); intro v' w3 hown' hgrow3 hnil3 hblk))
          have G3 := own_snoc hown'
          have G4 : Below B w w3 := (HF.out.2.alloc (by have := HO.out.2.2; have := HF.out.2.size; omega) _).grown hgrow3 (by have := HO.out.2.2; have := HF.out.2.size; simp; omega) (fun k hk => (HF.out.1.lt k hk).1)
          clear hown' hgrow3 hnil3 hblk
          go_roundg (2 - (1 + 1))
          case measure => have := HK.out.1; omega
          case rel => exact ⟨1 + 1, rfl, by omega, by go_num, by rw [NX.out, b1]; exact own_congr G3 (by first | rfl | omega | (simp; omega)), G4⟩
      · have i1 : i = 0 ∨ i = 1 ∨ i = 2 := by omega
        subst r1
        rcases i1 with i1 | i1 | i1 <;> subst i1
        · go_wp2_with ((at_builtin; go_loud (refine wpList_append_own_at _ rfl _ _ 22 rfl B 5 i0 (.int .u8 0) 1 1 Try.underlying22 hi hz0 hz1 hz2 rfl (by decide) u0 _ _ rfl (HF.out.1.row.alloc _) ⟨wr.heap.size, 0, none⟩ 1 1 [.int .u8 _] rfl rfl (cell_one_new _ _ _) (fun u hu => by simp at hu; subst hu; rfl) (by unfold maxLen; have := LN.out; omega) (by have := LN.out; omega) (by have := HO.out.2.2; have := HF.out.2.size; simp; omega) ?_); intro v' w3 hown' hgrow3 hnil3 hblk))
          have G3 := own_snoc hown'
          have G4 : Below B w w3 := (HF.out.2.alloc (by have := HO.out.2.2; have := HF.out.2.size; omega) _).grown hgrow3 (by have := HO.out.2.2; have := HF.out.2.size; simp; omega) (fun k hk => (HF.out.1.lt k hk).1)
          clear hown' hgrow3 hnil3 hblk
          go_roundg (3 - (0 + 1))
          case measure => have := HK.out.1; omega
          case rel => exact ⟨0 + 1, rfl, by omega, by go_num, by rw [NX.out, b0]; exact own_congr G3 (by first | rfl | omega | (simp; omega)), G4⟩
        · go_wp2_with ((at_builtin; go_loud (refine wpList_append_own_at _ rfl _ _ 22 rfl B 5 i0 (.int .u8 0) 1 1 Try.underlying22 hi hz0 hz1 hz2 rfl (by decide) u0 _ _ rfl (HF.out.1.row.alloc _) ⟨wr.heap.size, 0, none⟩ 1 1 [.int .u8 _] rfl rfl (cell_one_new _ _ _) (fun u hu => by simp at hu; subst hu; rfl) (by unfold maxLen; have := LN.out; omega) (by have := LN.out; omega) (by have := HO.out.2.2; have := HF.out.2.size; simp; omega) ?_); intro v' w3 hown' hgrow3 hnil3 hblk))
          have G3 := own_snoc hown'
          have G4 : Below B w w3 := (HF.out.2.alloc (by have := HO.out.2.2; have := HF.out.2.size; omega) _).grown hgrow3 (by have := HO.out.2.2; have := HF.out.2.size; simp; omega) (fun k hk => (HF.out.1.lt k hk).1)
          clear hown' hgrow3 hnil3 hblk
          go_roundg (3 - (1 + 1))
          case measure => have := HK.out.1; omega
          case rel => exact ⟨1 + 1, rfl, by omega, by go_num, by rw [NX.out, b1]; exact own_congr G3 (by first | rfl | omega | (simp; omega)), G4⟩
        · go_wp2_with ((at_builtin; go_loud (refine wpList_append_own_at _ rfl _ _ 22 rfl B 5 i0 (.int .u8 0) 1 1 Try.underlying22 hi hz0 hz1 hz2 rfl (by decide) u0 _ _ rfl (HF.out.1.row.alloc _) ⟨wr.heap.size, 0, none⟩ 1 1 [.int .u8 _] rfl rfl (cell_one_new _ _ _) (fun u hu => by simp at hu; subst hu; rfl) (by unfold maxLen; have := LN.out; omega) (by have := LN.out; omega) (by have := HO.out.2.2; have := HF.out.2.size; simp; omega) ?_); intro v' w3 hown' hgrow3 hnil3 hblk))
          have G3 := own_snoc hown'
          have G4 : Below B w w3 := (HF.out.2.alloc (by have := HO.out.2.2; have := HF.out.2.size; omega) _).grown hgrow3 (by have := HO.out.2.2; have := HF.out.2.size; simp; omega) (fun k hk => (HF.out.1.lt k hk).1)
          clear hown' hgrow3 hnil3 hblk
          go_roundg (3 - (2 + 1))
          case measure => have := HK.out.1; omega
          case rel => exact ⟨2 + 1, rfl, by omega, by go_num, by rw [NX.out, b2]; exact own_congr G3 (by first | rfl | omega | (simp; omega)), G4⟩
end Go.Proofs.Ytdjjphcfobbipaa

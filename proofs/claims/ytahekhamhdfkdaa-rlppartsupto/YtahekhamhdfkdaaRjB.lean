import Derived.Test.YtahekhamhdfkdaaRjA
/- Layer 7: withHead, the document's before. -/
namespace Go.Proofs.Ytahekhamhdfkdaa
open Go.RowKit Go.Sort

/-- One byte appended to a list of one's own, out of a block of one cell made for it. -/
theorem own_snoc {B : Nat} {w : World} {v' : Value} {X : List Int} {x : Int} (h : w.ownsRow B 5 1 v' (X.length + 1) (X.map (Value.int .u8) ++ [.int .u8 x])) : OwnB B w v' (X ++ [x]) := by
  rw [OwnB, List.length_append, List.map_append]
  exact h
set_option maxRecDepth 100000 in
set_option maxHeartbeats 4000000 in
theorem withHead_low {B : Nat} {v : Value} {P : List Int} {n : Nat} (hn : n ≤ 55) (hp : P.length < 1000000000) (w : World) (hB : B ≤ w.heap.size) (h : OwnB B w v P) :
    Calls Try.prog 41 #[v, .bool true, .int .i64 (n : Int)] w fun e w' => ∃ v', e = .returned v' ∧ OwnB B w' v' (P ++ [192 + (n : Int)]) ∧ Below B w w' := by
  obtain ⟨i0, hi, hz0, hz1, hz2⟩ := info_parts info_byte
  have hn' : (n : Int) ≤ 55 := by omega
  have e1 : (192 + (n : Int)) % 256 = 192 + n := by omega
  have HO : Hid (OwnB B w v P ∧ P.length < 1000000000 ∧ B ≤ w.heap.size) := ⟨h, hp, hB⟩
  clear h hp hB
  go_enter Try.func41, Try.ntmps41
  go_wp2_with ((at_builtin; go_loud (refine wpList_append_own_at _ rfl _ _ 22 rfl B 5 i0 (.int .u8 0) 1 1 Try.underlying22 hi hz0 hz1 hz2 rfl (by decide) v _ _ rfl (HO.out.1.row.alloc _) ⟨w.heap.size, 0, none⟩ 1 1 [.int .u8 (192 + (n : Int))] rfl rfl (cell_one_new _ _ _) (fun u hu => by simp at hu; subst hu; rfl) (by unfold maxLen; have := HO.out; omega) (by have := HO.out; omega) (by have := HO.out.2.2; simp; omega) ?_); intro v' w3 hown' hgrow3 hnil3 hblk))
  go_ret
  exact ⟨_, rfl, own_snoc hown', ((Below.refl B w).alloc HO.out.2.2 _).grown hgrow3 (by have := HO.out.2.2; simp; omega) (fun k hk => (HO.out.1.lt k hk).1)⟩
theorem own_congr {B : Nat} {w : World} {v : Value} {Z : List Int} {x y : Int} (h : OwnB B w v (Z ++ [x])) (e : x = y) : OwnB B w v (Z ++ [y]) := e ▸ h
/-- The bytes that the loop writes. -/
theorem be_at (n : Nat) : ((beN n).length = 1 ∧ (beN n).getD 0 0 = n ∧ n < 256) ∨ ((beN n).length = 2 ∧ (beN n).getD 0 0 = (n : Int) / 256 ∧ (beN n).getD 1 0 = (n : Int) % 256 ∧ n < 65536) ∨ ((beN n).length = 3 ∧ (beN n).getD 0 0 = (n : Int) / 65536 ∧ (beN n).getD 1 0 = (n : Int) / 256 % 256 ∧ (beN n).getD 2 0 = (n : Int) % 256) := by
  unfold beN
  by_cases k1 : n < 256
  · rw [if_pos k1]; exact .inl ⟨rfl, rfl, k1⟩
  · rw [if_neg k1]
    by_cases k2 : n < 65536
    · rw [if_pos k2]; exact .inr (.inl ⟨rfl, rfl, rfl, k2⟩)
    · rw [if_neg k2]; exact .inr (.inr ⟨rfl, rfl, rfl, rfl⟩)
set_option maxRecDepth 100000 in
set_option maxHeartbeats 8000000 in
theorem withHead_high {B : Nat} {v : Value} {P : List Int} {n : Nat} (hn : 55 < n) (hn2 : n < 16777216) (hp : P.length < 1000000000) (w : World) (hB : B ≤ w.heap.size) (h : OwnB B w v P) :
    Calls Try.prog 41 #[v, .bool true, .int .i64 (n : Int)] w fun e w' => ∃ v', e = .returned v' ∧ OwnB B w' v' (P ++ (192 + 55 + ((beN n).length : Int)) :: beN n) ∧ Below B w w' := by
  obtain ⟨i0, hi, hz0, hz1, hz2⟩ := info_parts info_byte
  have hn' : ¬ ((n : Int) ≤ 55) := by omega
  have hn3 : (n : Int) < 16777216 := by omega
  have c := lengthSize_any (n := n) (by omega) hn2
  have hl := beN_len n
  have hl' : ((beN n).length : Int) ≤ 3 := by omega
  have BA := be_at n
  have HO : Hid (OwnB B w v P ∧ P.length < 1000000000 ∧ B ≤ w.heap.size) := ⟨h, hp, hB⟩
  have HT : Hid (∀ i, i < (beN n).length → (beN n).take (i + 1) = (beN n).take i ++ [(beN n).getD i 0]) := fun i hi => take_snocI hi
  have HT2 : Hid ((beN n).take (beN n).length = beN n) := List.take_length
  clear h hp hB
  obtain ⟨r, er⟩ : ∃ r, r = (beN n).length := ⟨_, rfl⟩
  rw [← er] at c hl hl' BA HT HT2 ⊢
  generalize beN n = bn at *
  have HR : Hid (r = bn.length) := er
  clear er
  go_enter Try.func41, Try.ntmps41
  go_wp2_with (first | ((with_reducible refine (c _).mono ?_); rintro e1 w1 ⟨rfl, hw⟩; (rw [hw]); (clear hw w1)) | ((at_builtin; go_loud (refine wpList_append_own_at _ rfl _ _ 22 rfl B 5 i0 (.int .u8 0) 1 1 Try.underlying22 hi hz0 hz1 hz2 rfl (by decide) v _ _ rfl (HO.out.1.row.alloc _) ⟨w.heap.size, 0, none⟩ 1 1 [.int .u8 (192 + 55 + (r : Int))] rfl rfl (cell_one_new _ _ _) (fun u hu => by simp at hu; subst hu; rfl) (by unfold maxLen; have := HO.out; omega) (by have := HO.out; omega) (by have := HO.out.2.2; simp; omega) ?_); intro v' w3 hown' hgrow3 hnil3 hblk)))
  have G3 : Hid (OwnB B w3 v' (P ++ [192 + 55 + (r : Int)]) ∧ Below B w w3) := ⟨own_snoc hown', ((Below.refl B w).alloc HO.out.2.2 _).grown hgrow3 (by have := HO.out.2.2; simp; omega) (fun k hk => (HO.out.1.lt k hk).1)⟩
  clear hown' hgrow3 hnil3 hblk
  go_loopg [0, 31] r (fun k bv iv wr => ∃ i : Nat, k = r - i ∧ i ≤ r ∧ iv = .int .i64 (i : Int) ∧ OwnB B wr bv (P ++ (192 + 55 + (r : Int)) :: bn.take i) ∧ Below B w wr)
  case atStart => exact ⟨0, rfl, Nat.zero_le _, rfl, G3.out⟩
  case round =>
    clear G3
    obtain ⟨i, hk, hi8, rfl, ho, Bw⟩ := hrel
    have HK : Hid (gk = r - i ∧ i ≤ r) := ⟨hk, hi8⟩
    have HF : Hid (OwnB B wr u0 (P ++ (192 + 55 + (r : Int)) :: bn.take i) ∧ Below B w wr) := ⟨ho, Bw⟩
    clear hk ho Bw
    by_cases h8 : i = r
    · subst h8
      go_wp2
      go_ret
      exact ⟨_, rfl, by have := HF.out.1; rw [HT2.out] at this; exact this, HF.out.2⟩
    · have hlt : i < r := by omega
      have hlt' : (i : Int) < (r : Int) := by omega
      have LN : Hid ((P ++ (192 + 55 + (r : Int)) :: bn.take i).length < 1000000010) := by
        show _ < _
        rw [List.length_append, List.length_cons, List.length_take]
        have := HO.out.2.1
        omega
      have NX : Hid (P ++ (192 + 55 + (r : Int)) :: bn.take (i + 1) = (P ++ (192 + 55 + (r : Int)) :: bn.take i) ++ [bn.getD i 0]) := by
        show _ = _
        rw [HT.out i hlt]; simp
      rcases BA with ⟨r1, b0, bl⟩ | ⟨r1, b0, b1, bl⟩ | ⟨r1, b0, b1, b2⟩
      · have i1 : i = 0 := by omega
        subst r1 i1
        · go_wp2_with ((at_builtin; go_loud (refine wpList_append_own_at _ rfl _ _ 22 rfl B 5 i0 (.int .u8 0) 1 1 Try.underlying22 hi hz0 hz1 hz2 rfl (by decide) u0 _ _ rfl (HF.out.1.row.alloc _) ⟨wr.heap.size, 0, none⟩ 1 1 [.int .u8 _] rfl rfl (cell_one_new _ _ _) (fun u hu => by simp at hu; subst hu; rfl) (by unfold maxLen; have := LN.out; omega) (by have := LN.out; omega) (by have := HO.out.2.2; have := HF.out.2.size; simp; omega) ?_); intro v' w3 hown' hgrow3 hnil3 hblk))
          have G3 := own_snoc hown'
          have G4 : Below B w w3 := (HF.out.2.alloc (by have := HO.out.2.2; have := HF.out.2.size; omega) _).grown hgrow3 (by have := HO.out.2.2; have := HF.out.2.size; simp; omega) (fun k hk => (HF.out.1.lt k hk).1)
          clear hown' hgrow3 hnil3 hblk
          go_roundg (1 - (0 + 1))
          case measure => have := HK.out.1; omega
          case rel => exact ⟨0 + 1, rfl, by omega, by go_num, by rw [NX.out, b0]; exact own_congr G3 (by first | rfl | omega | (simp; omega)), G4⟩
      · have i1 : i = 0 ∨ i = 1 := by omega
        subst r1
        rcases i1 with i1 | i1 <;> subst i1
        · go_wp2_with ((at_builtin; go_loud (refine wpList_append_own_at _ rfl _ _ 22 rfl B 5 i0 (.int .u8 0) 1 1 Try.underlying22 hi hz0 hz1 hz2 rfl (by decide) u0 _ _ rfl (HF.out.1.row.alloc _) ⟨wr.heap.size, 0, none⟩ 1 1 [.int .u8 _] rfl rfl (cell_one_new _ _ _) (fun u hu => by simp at hu; subst hu; rfl) (by unfold maxLen; have := LN.out; omega) (by have := LN.out; omega) (by have := HO.out.2.2; have := HF.out.2.size; simp; omega) ?_); intro v' w3 hown' hgrow3 hnil3 hblk))
          have G3 := own_snoc hown'
          have G4 : Below B w w3 := (HF.out.2.alloc (by have := HO.out.2.2; have := HF.out.2.size; omega) _).grown hgrow3 (by have := HO.out.2.2; have := HF.out.2.size; simp; omega) (fun k hk => (HF.out.1.lt k hk).1)
          clear hown' hgrow3 hnil3 hblk
          go_roundg (2 - (0 + 1))
          case measure => have := HK.out.1; omega
          case rel => exact ⟨0 + 1, rfl, by omega, by go_num, by rw [NX.out, b0]; exact own_congr G3 (by first | rfl | omega | (simp; omega)), G4⟩
        · go_wp2_with ((at_builtin; go_loud (refine wpList_append_own_at _ rfl _ _ 22 rfl B 5 i0 (.int .u8 0) 1 1 Try.underlying22 hi hz0 hz1 hz2 rfl (by decide) u0 _ _ rfl (HF.out.1.row.alloc _) ⟨wr.heap.size, 0, none⟩ 1 1 [.int .u8 _] rfl rfl (cell_one_new _ _ _) (fun u hu => by simp at hu; subst hu; rfl) (by unfold maxLen; have := LN.out; omega) (by have := LN.out; omega) (by have := HO.out.2.2; have := HF.out.2.size; simp; omega) ?_); intro v' w3 hown' hgrow3 hnil3 hblk))
          have G3 := own_snoc hown'
          have G4 : Below B w w3 := (HF.out.2.alloc (by have := HO.out.2.2; have := HF.out.2.size; omega) _).grown hgrow3 (by have := HO.out.2.2; have := HF.out.2.size; simp; omega) (fun k hk => (HF.out.1.lt k hk).1)
          clear hown' hgrow3 hnil3 hblk
          go_roundg (2 - (1 + 1))
          case measure => have := HK.out.1; omega
          case rel => exact ⟨1 + 1, rfl, by omega, by go_num, by rw [NX.out, b1]; exact own_congr G3 (by first | rfl | omega | (simp; omega)), G4⟩
      · have i1 : i = 0 ∨ i = 1 ∨ i = 2 := by omega
        subst r1
        rcases i1 with i1 | i1 | i1 <;> subst i1
        · go_wp2_with ((at_builtin; go_loud (refine wpList_append_own_at _ rfl _ _ 22 rfl B 5 i0 (.int .u8 0) 1 1 Try.underlying22 hi hz0 hz1 hz2 rfl (by decide) u0 _ _ rfl (HF.out.1.row.alloc _) ⟨wr.heap.size, 0, none⟩ 1 1 [.int .u8 _] rfl rfl (cell_one_new _ _ _) (fun u hu => by simp at hu; subst hu; rfl) (by unfold maxLen; have := LN.out; omega) (by have := LN.out; omega) (by have := HO.out.2.2; have := HF.out.2.size; simp; omega) ?_); intro v' w3 hown' hgrow3 hnil3 hblk))
          have G3 := own_snoc hown'
          have G4 : Below B w w3 := (HF.out.2.alloc (by have := HO.out.2.2; have := HF.out.2.size; omega) _).grown hgrow3 (by have := HO.out.2.2; have := HF.out.2.size; simp; omega) (fun k hk => (HF.out.1.lt k hk).1)
          clear hown' hgrow3 hnil3 hblk
          go_roundg (3 - (0 + 1))
          case measure => have := HK.out.1; omega
          case rel => exact ⟨0 + 1, rfl, by omega, by go_num, by rw [NX.out, b0]; exact own_congr G3 (by first | rfl | omega | (simp; omega)), G4⟩
        · go_wp2_with ((at_builtin; go_loud (refine wpList_append_own_at _ rfl _ _ 22 rfl B 5 i0 (.int .u8 0) 1 1 Try.underlying22 hi hz0 hz1 hz2 rfl (by decide) u0 _ _ rfl (HF.out.1.row.alloc _) ⟨wr.heap.size, 0, none⟩ 1 1 [.int .u8 _] rfl rfl (cell_one_new _ _ _) (fun u hu => by simp at hu; subst hu; rfl) (by unfold maxLen; have := LN.out; omega) (by have := LN.out; omega) (by have := HO.out.2.2; have := HF.out.2.size; simp; omega) ?_); intro v' w3 hown' hgrow3 hnil3 hblk))
          have G3 := own_snoc hown'
          have G4 : Below B w w3 := (HF.out.2.alloc (by have := HO.out.2.2; have := HF.out.2.size; omega) _).grown hgrow3 (by have := HO.out.2.2; have := HF.out.2.size; simp; omega) (fun k hk => (HF.out.1.lt k hk).1)
          clear hown' hgrow3 hnil3 hblk
          go_roundg (3 - (1 + 1))
          case measure => have := HK.out.1; omega
          case rel => exact ⟨1 + 1, rfl, by omega, by go_num, by rw [NX.out, b1]; exact own_congr G3 (by first | rfl | omega | (simp; omega)), G4⟩
        · go_wp2_with ((at_builtin; go_loud (refine wpList_append_own_at _ rfl _ _ 22 rfl B 5 i0 (.int .u8 0) 1 1 Try.underlying22 hi hz0 hz1 hz2 rfl (by decide) u0 _ _ rfl (HF.out.1.row.alloc _) ⟨wr.heap.size, 0, none⟩ 1 1 [.int .u8 _] rfl rfl (cell_one_new _ _ _) (fun u hu => by simp at hu; subst hu; rfl) (by unfold maxLen; have := LN.out; omega) (by have := LN.out; omega) (by have := HO.out.2.2; have := HF.out.2.size; simp; omega) ?_); intro v' w3 hown' hgrow3 hnil3 hblk))
          have G3 := own_snoc hown'
          have G4 : Below B w w3 := (HF.out.2.alloc (by have := HO.out.2.2; have := HF.out.2.size; omega) _).grown hgrow3 (by have := HO.out.2.2; have := HF.out.2.size; simp; omega) (fun k hk => (HF.out.1.lt k hk).1)
          clear hown' hgrow3 hnil3 hblk
          go_roundg (3 - (2 + 1))
          case measure => have := HK.out.1; omega
          case rel => exact ⟨2 + 1, rfl, by omega, by go_num, by rw [NX.out, b2]; exact own_congr G3 (by first | rfl | omega | (simp; omega)), G4⟩
end Go.Proofs.Ytahekhamhdfkdaa

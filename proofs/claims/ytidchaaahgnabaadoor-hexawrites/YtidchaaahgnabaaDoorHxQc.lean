import Derived.Test.YtidchaaahgnabaaDoorHyA
/- Layer 8: the document's Quantity. -/
namespace Go.Proofs.YtidchaaahgnabaaDoor
open Go.RowKit Go.Sort
def qJ (n : Int) (i : Nat) : List Int := (qtx n i).map fun u : UInt8 => (u.toNat : Int)
theorem qJ_len (n : Int) (i : Nat) : (qJ n i).length = i := by rw [qJ, List.length_map, qtx_len]
theorem qJ_snoc (n : Int) (i : Nat) : qJ n (i + 1) = qJ n i ++ [((hd (qdg n (hiD n - i))).toNat : Int)] := by
  rw [qJ, qJ, qtx_snoc, List.map_append]; rfl
set_option maxRecDepth 100000 in
set_option maxHeartbeats 8000000 in
theorem rquant_any {n : Int} (hn : Num n) (w : World) :
    Calls Tryd.prog 18 #[.agg #[.int .u64 (l0 n), .int .u64 (l1 n), .int .u64 (l2 n), .int .u64 (l3 n)]] w fun e w' => e = .returned (.string ⟨([48, 120] ++ qtx n (hiD n + 1)).toArray⟩) ∧ Below w.heap.size w w' := by
  have HN : Hid (Num n ∧ hiD n < 64) := ⟨hn, hiD_lt hn⟩
  obtain ⟨i0, hi, hz0, hz1, hz2⟩ := info_partsH info_byteH
  obtain ⟨K, eK⟩ : ∃ K, K = hiD n := ⟨_, rfl⟩
  have HK0 : Hid (K = hiD n) := eK
  rw [← eK]
  have K64 : K < 64 := by rw [eK]; exact HN.out.2
  clear hn eK
  go_enter Tryd.func18, Tryd.ntmps18
  go_wp2_with fail
  refine wp_world (fun W => Below w.heap.size w W ∧ NmQ W w.heap.size n) ⟨(Below.refl _ _).alloc (Nat.le_refl _) _, fun q hq => ?_⟩ ?_
  · have : q = 0 ∨ q = 1 ∨ q = 2 ∨ q = 3 := by omega
    rcases this with rfl | rfl | rfl | rfl <;> simp [go_sem]
  rintro W ⟨B, hM⟩
  go_loopg [3, 4, 5] 64 (fun kk lv iv dv' wr => ∃ j : Nat, kk = 64 - j ∧ j ≤ 64 ∧ iv = .int .i64 (63 - (j : Int)) ∧ OwnB (w.heap.size + 1) wr lv (qJ n (j - (63 - K))) ∧ NmQ wr w.heap.size n ∧ Below w.heap.size w wr)
  case atStart => exact ⟨0, rfl, Nat.zero_le _, rfl, by rw [Nat.zero_sub]; exact OwnB.nil _ _, hM, B⟩
  case round =>
    clear B hM
    obtain ⟨j, hk, hj, rfl, hO, hM, B⟩ := hrel
    have HK : Hid (gk = 64 - j ∧ j ≤ 64 ∧ K < 64) := ⟨hk, hj, K64⟩
    clear hk
    by_cases h8 : j = 64
    · subst h8
      have e0 : 64 - (63 - K) = K + 1 := by omega
      rw [e0] at hO
      have ct := OwnB.text (T := qtx n (K + 1)) hO (by rw [qtx_len]; omega)
      have HB : Hid (Below w.heap.size w wr) := B
      have lT : (⟨(qtx n (K + 1)).toArray⟩ : ByteArray).size ≤ 64 := by rw [size_list, qtx_len]; omega
      have hcc : ¬ 9223372036854775807 < 2 + (⟨(qtx n (K + 1)).toArray⟩ : ByteArray).size := by omega
      generalize hT : qtx n (K + 1) = T at ct lT hcc
      have HT : Hid (qtx n (K + 1) = T) := hT
      have em : (63 : Int) - ((64 : Nat) : Int) = -1 := by decide
      rw [em]
      clear hO hM B e0 hj hT em
      go_wp2
      simp [bodyPost, results, Tryd.results18, go_sem]
      refine ⟨?_, HB.out⟩
      rw [HT.out]
      apply ByteArray.ext
      rw [ByteArray.data_append]
      simp
    · obtain ⟨d, ed⟩ : ∃ d, d = 63 - j := ⟨_, rfl⟩
      have hd64 : d < 64 := by omega
      obtain ⟨q, eq⟩ : ∃ q, q = d / 16 := ⟨_, rfl⟩
      obtain ⟨t, et⟩ : ∃ t, t = d % 16 := ⟨_, rfl⟩
      obtain ⟨r, er⟩ : ∃ r, r = 4 * t := ⟨_, rfl⟩
      have i1 : 63 - (j : Int) = (d : Int) := by omega
      have i2 : (d : Int) / 16 = (q : Int) := by omega
      have i3 : (d : Int) % 16 = (t : Int) := by omega
      have i4 : 4 * (t : Int) = (r : Int) := by omega
      have q4 : q < 4 := by omega
      have r64 : (r : Int) < 64 := by omega
      have t16 : (t : Int) < 16 := by omega
      have gq := hM q q4
      have dg := limb_dg n hd64
      rw [← eq, ← et, ← er] at dg
      have yw : Word ([l0 n, l1 n, l2 n, l3 n].getD q 0) := by
        have : q = 0 ∨ q = 1 ∨ q = 2 ∨ q = 3 := by omega
        rcases this with h | h | h | h <;> rw [h]
        · exact l0_word n
        · exact l1_word n
        · exact l2_word n
        · exact l3_word n
      have kd := qdg_lt n d
      obtain ⟨y, ey⟩ : ∃ y, Hid (y = [l0 n, l1 n, l2 n, l3 n].getD q 0) := ⟨_, rfl⟩
      rw [← ey.out] at gq dg yw
      obtain ⟨k, ek⟩ : ∃ k, Hid (k = qdg n d) := ⟨_, rfl⟩
      rw [← ek.out] at dg kd
      have p0 : (0 : Int) < 2 ^ r := Int.pow_pos (by decide)
      have y0 : 0 ≤ y / 2 ^ r := Int.ediv_nonneg yw.1 (Int.le_of_lt p0)
      have y1 : y / 2 ^ r < 18446744073709551616 := Int.lt_of_le_of_lt (Int.ediv_le_self _ yw.1) yw.2
      have y2 : y / 2 ^ r ≤ 18446744073709551615 := by omega
      rw [i1]
      have IA : Hid (63 - (j : Int) = (d : Int) ∧ d = 63 - j) := ⟨i1, ed⟩
      have HF : Hid (OwnB (w.heap.size + 1) wr u3 (qJ n (j - (63 - K))) ∧ NmQ wr w.heap.size n ∧ Below w.heap.size w wr) := ⟨hO, hM, B⟩
      have dt := dig_at64 kd
      by_cases hKd : K < d
      · have kz : k = 0 := by rw [ek.out]; exact qdg_high HN.out.1 (by rw [← HK0.out]; exact hKd)
        subst kz
        have e0 : j - (63 - K) = 0 := by omega
        have e1 : j + 1 - (63 - K) = 0 := by omega
        rw [e0] at HF hO
        have HE : Hid (j + 1 - (63 - K) = 0) := e1
        have ev : u3 = .slice none 0 0 ∨ ∃ g c, u3 = .slice (some ⟨g, 0, none⟩) 0 c := by
          rcases hO.2 with ⟨h, _⟩ | ⟨g, c, cur, h, _⟩
          · exact .inl h
          · exact .inr ⟨g, c, by rw [h, qJ_len]⟩
        have d0 : ((d : Int) == 0) = false := by simp; omega
        clear eq et er ed hO hM B i1 hj e0 e1 hKd K64
        have HR : Hid (OwnB (w.heap.size + 1) wr u3 (qJ n 0)) := HF.out.1
        have lz : qJ n 0 = [] := rfl
        rcases ev with rfl | ⟨g, c, rfl⟩
        all_goals
          go_wp2
          go_roundg (64 - (j + 1))
          case measure => have := HK.out; omega
          case rel => exact ⟨j + 1, rfl, by have := HK.out; omega, by have := IA.out.1; congr 1; omega, by rw [HE.out]; exact HR.out, HF.out.2.1, HF.out.2.2⟩
      · obtain ⟨z, ez⟩ : ∃ z, z = j - (63 - K) := ⟨_, rfl⟩
        have e1 : j + 1 - (63 - K) = z + 1 := by omega
        have e2 : K - z = d := by omega
        have SN : Hid (qJ n (j + 1 - (63 - K)) = qJ n z ++ [((hd k).toNat : Int)]) := by rw [e1, qJ_snoc, ← HK0.out, e2, ← ek.out]; exact rfl
        rw [← ez] at HF
        have LQ : Hid ((qJ n z).length = z ∧ z ≤ 64) := ⟨qJ_len n z, by omega⟩
        obtain ⟨c, ec⟩ : ∃ c : Int, Hid (c = ((hd k).toNat : Int)) := ⟨_, rfl⟩
        rw [← ec.out] at dt SN
        have top : d = K → K = 0 ∨ k ≠ 0 := fun h => by
          have := qdg_top HN.out.1
          rw [← HK0.out, ← h, ← ek.out] at this
          rw [← h]; exact this
        by_cases hk0 : k = 0
        · have kb : ((k : Int) != 0) = false := by rw [hk0]; rfl
          have KZ : Hid (k = 0) := hk0
          by_cases hz0' : z = 0
          · have dK : d = K := by omega
            have d0 : d = 0 := by rcases top dK with h | h
                                  · omega
                                  · exact absurd hk0 h
            have db : ((d : Int) == 0) = true := by rw [d0]; rfl
            have ev : u3 = .slice none 0 0 ∨ ∃ g cc, u3 = .slice (some ⟨g, 0, none⟩) 0 cc := by
              rcases HF.out.1.2 with ⟨h, _⟩ | ⟨g, cc, cur, h, _⟩
              · exact .inl h
              · exact .inr ⟨g, cc, by rw [h, qJ_len, hz0']⟩
            have LN : ∀ W, (Builtin.len_ #[30] 3 #[u3]).run Tryd.prog W = .ok (.int .i64 0) W := fun W => by
              rcases ev with rfl | ⟨g, cc, rfl⟩ <;> (simp [Builtin.len_]; rfl)
            clear ev eq et er ed hO hM B i1 hj hKd K64 top ez e1 e2 dK hk0 d0 hz0'
            go_wp2_with (at_builtin; refine wpList_append_own_at _ rfl _ _ 30 rfl (w.heap.size + 1) 5 i0 (.int .u8 0) 1 1 Tryd.underlying30 hi hz0 hz1 hz2 rfl (by decide) u3 _ _ rfl (World.ownsRow.alloc HF.out.1.row _) ⟨wr.heap.size, 0, none⟩ 1 1 [.int .u8 c] rfl rfl (cell_oneH _ _ _) (fun z hz => by simp at hz; subst hz; rfl) (by unfold maxLen; have := LQ.out; omega) (by have := LQ.out; omega) (by have := HF.out.2.1.lt; simp; omega) ?_; intro v' w5 hown' hgrow5 hnil5 hblk)
            have BA := (HF.out.2.2.alloc HF.out.2.2.size (.cells #[.int .u8 c] 5))
            have MA := HF.out.2.1.keep ((Below.refl wr.heap.size wr).alloc (Nat.le_refl _) (.cells #[.int .u8 c] 5))
            have HO : Hid (OwnB (w.heap.size + 1) w5 v' (qJ n (j + 1 - (63 - K))) ∧ NmQ w5 w.heap.size n ∧ Below w.heap.size w w5) := by
              have hg5 : (wr.alloc (.cells #[.int .u8 c] 5)).grownBy w5 (Value.ownBlock u3) := hgrow5
              have lt3 : ∀ k, Value.ownBlock u3 = some k → w.heap.size + 1 ≤ k := fun k hk => (HF.out.1.row.lt k hk).1
              refine ⟨?_, ?_, ?_⟩
              · rw [SN.out, OwnB, List.length_append, List.map_append]; exact hown'
              · intro q hq
                have c1 := MA q hq
                have e : w5.heap[w.heap.size]? = _ := hg5.block w.heap.size (World.block_lt_of_cell? _ _ c1) (fun e => by have := lt3 _ e.symm; omega)
                rw [← c1]; simp only [World.cell?, e]
              · exact BA.grown hg5 (by have := HF.out.2.2.size; simp; omega) (fun k hk => by have := lt3 k hk; omega)
            clear hown' hgrow5 hnil5 hblk BA MA
            go_roundg (64 - (j + 1))
            case measure => have := HK.out; omega
            case rel => exact ⟨j + 1, rfl, by have := HK.out; omega, by have := IA.out.1; congr 1; omega, HO.out.1, HO.out.2.1, HO.out.2.2⟩
          · obtain ⟨g, cc, eu⟩ : ∃ g cc, u3 = .slice (some ⟨g, 0, none⟩) z cc := by
              rcases HF.out.1.2 with ⟨_, h⟩ | ⟨g, cc, cur, h, _⟩
              · rw [qJ_len] at h; omega
              · exact ⟨g, cc, by rw [h, qJ_len]⟩
            subst eu
            have zp : (0 : Int) < (z : Int) := by omega
            clear eq et er ed hO hM B i1 hj hKd K64 top ez e1 e2 hk0 hz0'
            go_wp2_with (at_builtin; refine wpList_append_own_at _ rfl _ _ 30 rfl (w.heap.size + 1) 5 i0 (.int .u8 0) 1 1 Tryd.underlying30 hi hz0 hz1 hz2 rfl (by decide) (.slice (some ⟨g, 0, none⟩) z cc) _ _ rfl (World.ownsRow.alloc HF.out.1.row _) ⟨wr.heap.size, 0, none⟩ 1 1 [.int .u8 c] rfl rfl (cell_oneH _ _ _) (fun z hz => by simp at hz; subst hz; rfl) (by unfold maxLen; have := LQ.out; omega) (by have := LQ.out; omega) (by have := HF.out.2.1.lt; simp; omega) ?_; intro v' w5 hown' hgrow5 hnil5 hblk)
            have BA := (HF.out.2.2.alloc HF.out.2.2.size (.cells #[.int .u8 c] 5))
            have MA := HF.out.2.1.keep ((Below.refl wr.heap.size wr).alloc (Nat.le_refl _) (.cells #[.int .u8 c] 5))
            have HO : Hid (OwnB (w.heap.size + 1) w5 v' (qJ n (j + 1 - (63 - K))) ∧ NmQ w5 w.heap.size n ∧ Below w.heap.size w w5) := by
              have hg5 : (wr.alloc (.cells #[.int .u8 c] 5)).grownBy w5 (Value.ownBlock (.slice (some ⟨g, 0, none⟩) z cc)) := hgrow5
              have lt3 : ∀ k, Value.ownBlock (.slice (some ⟨g, 0, none⟩) z cc) = some k → w.heap.size + 1 ≤ k := fun k hk => (HF.out.1.row.lt k hk).1
              refine ⟨?_, ?_, ?_⟩
              · rw [SN.out, OwnB, List.length_append, List.map_append]; exact hown'
              · intro q hq
                have c1 := MA q hq
                have e : w5.heap[w.heap.size]? = _ := hg5.block w.heap.size (World.block_lt_of_cell? _ _ c1) (fun e => by have := lt3 _ e.symm; omega)
                rw [← c1]; simp only [World.cell?, e]
              · exact BA.grown hg5 (by have := HF.out.2.2.size; simp; omega) (fun k hk => by have := lt3 k hk; omega)
            clear hown' hgrow5 hnil5 hblk BA MA
            go_roundg (64 - (j + 1))
            case measure => have := HK.out; omega
            case rel => exact ⟨j + 1, rfl, by have := HK.out; omega, by have := IA.out.1; congr 1; omega, HO.out.1, HO.out.2.1, HO.out.2.2⟩
        · have kb : ((k : Int) != 0) = true := by simp; omega
          clear eq et er ed hO hM B i1 hj hKd K64 top ez e1 e2
          go_wp2_with (at_builtin; refine wpList_append_own_at _ rfl _ _ 30 rfl (w.heap.size + 1) 5 i0 (.int .u8 0) 1 1 Tryd.underlying30 hi hz0 hz1 hz2 rfl (by decide) u3 _ _ rfl (World.ownsRow.alloc HF.out.1.row _) ⟨wr.heap.size, 0, none⟩ 1 1 [.int .u8 c] rfl rfl (cell_oneH _ _ _) (fun z hz => by simp at hz; subst hz; rfl) (by unfold maxLen; have := LQ.out; omega) (by have := LQ.out; omega) (by have := HF.out.2.1.lt; simp; omega) ?_; intro v' w5 hown' hgrow5 hnil5 hblk)
          have BA := (HF.out.2.2.alloc HF.out.2.2.size (.cells #[.int .u8 c] 5))
          have MA := HF.out.2.1.keep ((Below.refl wr.heap.size wr).alloc (Nat.le_refl _) (.cells #[.int .u8 c] 5))
          have HO : Hid (OwnB (w.heap.size + 1) w5 v' (qJ n (j + 1 - (63 - K))) ∧ NmQ w5 w.heap.size n ∧ Below w.heap.size w w5) := by
            have hg5 : (wr.alloc (.cells #[.int .u8 c] 5)).grownBy w5 (Value.ownBlock u3) := hgrow5
            have lt3 : ∀ k, Value.ownBlock u3 = some k → w.heap.size + 1 ≤ k := fun k hk => (HF.out.1.row.lt k hk).1
            refine ⟨?_, ?_, ?_⟩
            · rw [SN.out, OwnB, List.length_append, List.map_append]; exact hown'
            · intro q hq
              have c1 := MA q hq
              have e : w5.heap[w.heap.size]? = _ := hg5.block w.heap.size (World.block_lt_of_cell? _ _ c1) (fun e => by have := lt3 _ e.symm; omega)
              rw [← c1]; simp only [World.cell?, e]
            · exact BA.grown hg5 (by have := HF.out.2.2.size; simp; omega) (fun k hk => by have := lt3 k hk; omega)
          clear hown' hgrow5 hnil5 hblk BA MA
          go_roundg (64 - (j + 1))
          case measure => have := HK.out; omega
          case rel => exact ⟨j + 1, rfl, by have := HK.out; omega, by have := IA.out.1; congr 1; omega, HO.out.1, HO.out.2.1, HO.out.2.2⟩
end Go.Proofs.YtidchaaahgnabaaDoor

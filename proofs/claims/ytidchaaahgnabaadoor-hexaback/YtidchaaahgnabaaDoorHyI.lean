import Derived.Test.YtidchaaahgnabaaDoorHyC
/- Layer 8: what is written is read back: the texts. -/
namespace Go.Proofs.YtidchaaahgnabaaDoor
open Go.RowKit Go.Sort
theorem qdg_top {n : Int} (hn : Num n) : hiD n = 0 ∨ qdg n (hiD n) ≠ 0 := by
  by_cases h0 : hiD n = 0
  · exact .inl h0
  right
  obtain ⟨j, ej, _, lt, _⟩ := lenN_bound hn
  have n0 : n ≠ 0 := fun e => by
    apply h0
    unfold hiD lenN
    rw [if_pos e]; decide
  obtain ⟨m, em⟩ := Int.eq_ofNat_of_zero_le hn.1
  have m0 : m ≠ 0 := by omega
  have lg : lenN n = (Nat.log2 m : Int) + 1 := by unfold lenN; rw [if_neg n0, em]; rfl
  have lo := Nat.log2_self_le m0
  obtain ⟨k, ek⟩ : ∃ k, k = hiD n := ⟨_, rfl⟩
  rw [← ek]
  have k1 : 4 * k ≤ Nat.log2 m := by rw [ek]; unfold hiD; omega
  have k2 : j ≤ 4 * k + 4 := by rw [ek]; unfold hiD; omega
  have a1 : 2 ^ (4 * k) ≤ m := Nat.le_trans (Nat.pow_le_pow_right (by decide) k1) lo
  have a2 : m < 2 ^ (4 * k + 4) := by
    have h1 : m < 2 ^ j := by rw [em] at lt; exact_mod_cast lt
    exact Nat.lt_of_lt_of_le h1 (Nat.pow_le_pow_right (by decide) k2)
  have b1 : 1 ≤ m / 2 ^ (4 * k) := (Nat.one_le_div_iff (Nat.pow_pos (by decide))).2 a1
  have b2 : m / 2 ^ (4 * k) < 16 := Nat.div_lt_of_lt_mul (by rw [Nat.pow_add] at a2; exact a2)
  have e : n / 16 ^ k = ((m / 2 ^ (4 * k) : Nat) : Int) := by rw [pow16, em]; push_cast; rfl
  unfold qdg
  rw [e]
  omega
theorem num_top {n : Int} (hn : Num n) : n / 16 ^ (hiD n + 1) = 0 := by
  obtain ⟨j, ej, _, lt, _⟩ := lenN_bound hn
  have hj : j ≤ 4 * (hiD n + 1) := by unfold hiD; omega
  have p : (2 : Int) ^ j ≤ 2 ^ (4 * (hiD n + 1)) := by
    have := Nat.pow_le_pow_right (show 0 < 2 by decide) hj
    exact_mod_cast this
  rw [pow16]
  exact Int.ediv_eq_zero_of_lt hn.1 (by omega)
theorem front_bt (L : List UInt8) (j : Nat) : bt (tl ⟨([48, 120] ++ L).toArray⟩) j = ((L.getD j 0).toNat : Int) := by
  rw [tl_bt, bt_list, tb, front_at (by omega), Nat.add_sub_cancel]
theorem front_size (L : List UInt8) : (tl ⟨([48, 120] ++ L).toArray⟩).size = L.length := by
  rw [tl_size, size_list, List.length_append]
  show 2 + L.length - 2 = L.length
  omega
theorem front_ok {L : List UInt8} (h : ∀ j, j < L.length → 0 ≤ dv ((L.getD j 0).toNat : Int)) : okP ⟨([48, 120] ++ L).toArray⟩ := by
  have h2 : 2 ≤ (⟨([48, 120] ++ L).toArray⟩ : ByteArray).size := by rw [size_list, List.length_append]; show 2 ≤ 2 + _; omega
  refine ⟨h2, (frB_bt h2).2 ⟨?_, ?_⟩, fun j hj => ?_⟩
  · rw [bt_list, tb, front_low (by decide)]; rfl
  · rw [bt_list, tb, front_low (by decide)]; rfl
  · rw [front_bt]
    rw [front_size] at hj
    exact h j hj
theorem hex_ok {X : List Int} (hb : ∀ i, 0 ≤ X.getD i 0 ∧ X.getD i 0 < 256) : okP ⟨([48, 120] ++ hexB X).toArray⟩ ∧ pk (tl ⟨([48, 120] ++ hexB X).toArray⟩) X.length = X := by
  refine ⟨front_ok fun j hj => ?_, extB (pk_len _ _) fun i hi => ?_⟩
  · rw [hexB_len] at hj
    obtain ⟨k, k16, e⟩ := hexB_at1 hb hj
    rw [e, hd_dv k16]; omega
  · rw [pk_len] at hi
    have e : (pk (tl ⟨([48, 120] ++ hexB X).toArray⟩) X.length).getD i 0 = 16 * dv (bt (tl ⟨([48, 120] ++ hexB X).toArray⟩) (2 * i)) + dv (bt (tl ⟨([48, 120] ++ hexB X).toArray⟩) (2 * i + 1)) := by
      unfold pk; rw [List.getD, List.getElem?_map, List.getElem?_range hi]; rfl
    obtain ⟨a, b⟩ := hexB_at X i hi
    have c := hb i
    rw [e, front_bt, front_bt, a, b, hd_dv (by omega), hd_dv (by omega)]
    omega
theorem back_data {X : List Int} (hl : X.length ≤ 16777216) (hb : ∀ i, 0 ≤ X.getD i 0 ∧ X.getD i 0 < 256) : pdE ⟨([48, 120] ++ hexB X).toArray⟩ = 0 ∧ pdX ⟨([48, 120] ++ hexB X).toArray⟩ = X := by
  obtain ⟨h1, h2⟩ := hex_ok hb
  have hs : (⟨([48, 120] ++ hexB X).toArray⟩ : ByteArray).size = 2 + 2 * X.length := by rw [size_list, List.length_append, hexB_len]; rfl
  have ht := front_size (hexB X)
  rw [hexB_len] at ht
  unfold pdE pdX
  rw [if_neg (by omega), if_pos h1, if_pos (by omega), if_pos ⟨by omega, h1, by omega⟩, ht, show 2 * X.length / 2 = X.length by omega]
  exact ⟨rfl, h2⟩
theorem back_hash {X : List Int} (hl : X.length = 32) (hb : ∀ i, 0 ≤ X.getD i 0 ∧ X.getD i 0 < 256) : phE ⟨([48, 120] ++ hexB X).toArray⟩ = 0 ∧ phX ⟨([48, 120] ++ hexB X).toArray⟩ = X := by
  obtain ⟨h1, h2⟩ := hex_ok hb
  have ht := front_size (hexB X)
  rw [hexB_len, hl] at ht
  rw [hl] at h2
  unfold phE phX
  rw [if_pos ⟨h1, ht⟩, if_pos ⟨h1, ht⟩]
  exact ⟨rfl, h2⟩
theorem qtx_at (n : Int) {i j : Nat} (h : j < i) : (qtx n i).getD j 0 = hd (qdg n (hiD n - j)) := by
  unfold qtx; rw [List.getD, List.getElem?_map, List.getElem?_range h]; rfl
theorem dN_back {n : Int} (hn : Num n) : ∀ i, i ≤ hiD n + 1 → dN (tl ⟨([48, 120] ++ qtx n (hiD n + 1)).toArray⟩) i = n / 16 ^ (hiD n + 1 - i)
  | 0, _ => by rw [dN, Nat.sub_zero, num_top hn]
  | i + 1, hi => by
    have ih := dN_back hn i (by omega)
    have c := qdg_lt n (hiD n - i)
    rw [dN, ih, front_bt, qtx_at n (by omega), hd_dv c, show hiD n + 1 - i = hiD n - i + 1 by omega, show hiD n + 1 - (i + 1) = hiD n - i by omega, Int.pow_succ, ← Int.ediv_ediv_of_nonneg (Int.le_of_lt (Int.pow_pos (by decide)))]
    unfold qdg
    omega
theorem back_quan {n : Int} (hn : Num n) {m : Nat} (hm : n < 16 ^ m) (m1 : 1 ≤ m) : pqE m ⟨([48, 120] ++ qtx n (hiD n + 1)).toArray⟩ = 0 ∧ pqN m ⟨([48, 120] ++ qtx n (hiD n + 1)).toArray⟩ = n := by
  have ht := front_size (qtx n (hiD n + 1))
  rw [qtx_len] at ht
  have hk : hiD n + 1 ≤ m := by
    rcases qdg_top hn with h | h
    · omega
    · by_cases k : hiD n + 1 ≤ m
      · exact k
      · have : n / 16 ^ hiD n = 0 := Int.ediv_eq_zero_of_lt hn.1 (Int.lt_of_lt_of_le hm (by
          have := Nat.pow_le_pow_right (show 0 < 16 by decide) (show m ≤ hiD n by omega)
          exact_mod_cast this))
        exfalso
        apply h
        unfold qdg
        rw [this]; rfl
  have e0 : pqE m ⟨([48, 120] ++ qtx n (hiD n + 1)).toArray⟩ = 0 := by
    refine pqE_zero.2 ⟨front_ok fun j hj => ?_, by omega, fun h => ?_, by omega⟩
    · rw [qtx_len] at hj
      rw [qtx_at n hj, hd_dv (qdg_lt _ _)]; omega
    · rw [ht, front_bt, qtx_at n (by omega), Nat.sub_zero] at h
      have := dv_zero.2 h.2
      rw [hd_dv (qdg_lt _ _)] at this
      rcases qdg_top hn with x | x <;> omega
  refine ⟨e0, ?_⟩
  have := dN_back hn (hiD n + 1) (Nat.le_refl _)
  unfold pqN
  rw [if_pos e0, ht, this, Nat.sub_self, Int.pow_zero, Int.ediv_one]
end Go.Proofs.YtidchaaahgnabaaDoor

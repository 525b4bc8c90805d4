import Derived.Test.YtidchaaahgnabaaDoorHyA
import Derived.Test.YtidchaaahgnabaaDoorHxT
/- Layer 8: what is read is, in small letters, what is written of it. -/
namespace Go.Proofs.YtidchaaahgnabaaDoor
open Go.RowKit Go.Sort
theorem extU {A B : List UInt8} (h : A.length = B.length) (e : ∀ t, t < A.length → A.getD t 0 = B.getD t 0) : A = B := by
  apply List.ext_getElem h
  intro j h1 h2
  have := e j h1
  rw [List.getD, List.getElem?_eq_getElem h1, List.getD, List.getElem?_eq_getElem h2] at this
  exact this
theorem lw_ck1 {k : Nat} (h : k < 16) (x : Int) : lw (ck1 (hd k) x) = hd k := by
  have all : ∀ k : Fin 16, lw (hd k.val) = hd k.val ∧ (smB ((hd k.val).toNat : Int) = true → lw (hd k.val - 32) = hd k.val) := by decide +kernel
  obtain ⟨a, b⟩ := all ⟨k, h⟩
  unfold ck1
  split
  · rename_i c; exact b c.1
  · exact a
theorem hexB_at1 {X : List Int} (hb : ∀ i, 0 ≤ X.getD i 0 ∧ X.getD i 0 < 256) {j : Nat} (hj : j < 2 * X.length) : ∃ k, k < 16 ∧ (hexB X).getD j 0 = hd k := by
  obtain ⟨a, b⟩ := hexB_at X (j / 2) (by omega)
  have c := hb (j / 2)
  by_cases e : j % 2 = 0
  · rw [show 2 * (j / 2) = j by omega] at a
    exact ⟨_, by omega, a⟩
  · rw [show 2 * (j / 2) + 1 = j by omega] at b
    exact ⟨_, by omega, b⟩
theorem front_at {L : List UInt8} {j : Nat} (h : 2 ≤ j) : ([48, 120] ++ L).getD j 0 = L.getD (j - 2) 0 := by
  rw [List.getD, List.getElem?_append_right (by exact h)]; rfl
theorem front_low {L : List UInt8} {j : Nat} (h : j < 2) : ([48, 120] ++ L).getD j 0 = ([48, 120] : List UInt8).getD j 0 := by
  rw [List.getD, List.getElem?_append_left (by exact h)]; rfl
theorem low_ckS {A : List Int} (hA : A.length = 20) (hb : ∀ i, 0 ≤ A.getD i 0 ∧ A.getD i 0 < 256) : lowT (ckS A) = [48, 120] ++ hexB A := by
  refine extU (by rw [lowT, List.length_map, ckS_len, List.length_append, hexB_len, hA]; rfl) fun j hj => ?_
  rw [lowT, List.length_map, ckS_len] at hj
  rw [lowT_at (by rw [ckS_len]; exact hj), ckS_at A hj, tx]
  by_cases h2 : 2 ≤ j
  · obtain ⟨k, k16, e⟩ := hexB_at1 hb (j := j - 2) (by omega)
    rw [if_pos ⟨h2, by omega⟩, front_at h2, e, lw_ck1 k16]
  · rw [if_neg (fun x => h2 x.1), front_low (by omega)]
    have : j = 0 ∨ j = 1 := by omega
    rcases this with rfl | rfl <;> decide
theorem text_len (t : ByteArray) : t.data.toList.length = t.size := by rw [Array.length_toList]; rfl
theorem hex_pk {t : ByteArray} {n : Nat} (ht : t.size = 2 * n) (hg : dgs t) : hexB (pk t n) = lowT t.data.toList := by
  refine extU (by rw [hexB_len, pk_len, lowT, List.length_map, text_len, ht]) fun j hj => ?_
  rw [hexB_len, pk_len] at hj
  obtain ⟨a, b⟩ := hexB_at (pk t n) (j / 2) (by rw [pk_len]; omega)
  have e : (pk t n).getD (j / 2) 0 = 16 * dv (bt t (2 * (j / 2))) + dv (bt t (2 * (j / 2) + 1)) := by
    unfold pk; rw [List.getD, List.getElem?_map, List.getElem?_range (by omega)]; rfl
  have c1 := hg (2 * (j / 2)) (by omega)
  have c2 := hg (2 * (j / 2) + 1) (by omega)
  have d1 := dv_low (bt t (2 * (j / 2)))
  have d2 := dv_low (bt t (2 * (j / 2) + 1))
  rw [e] at a b
  rw [show (16 * dv (bt t (2 * (j / 2))) + dv (bt t (2 * (j / 2) + 1))) / 16 = dv (bt t (2 * (j / 2))) by omega] at a
  rw [show (16 * dv (bt t (2 * (j / 2))) + dv (bt t (2 * (j / 2) + 1))) % 16 = dv (bt t (2 * (j / 2) + 1)) by omega] at b
  rw [lowT_at (by rw [text_len]; omega)]
  by_cases q : j % 2 = 0
  · rw [show 2 * (j / 2) = j by omega] at a c1
    rw [a]; exact hd_lw _ c1
  · rw [show 2 * (j / 2) + 1 = j by omega] at b c2
    rw [b]; exact hd_lw _ c2
theorem bt_eq {s : ByteArray} {i : Nat} {u : UInt8} (h : bt s i = (u.toNat : Int)) : s.data.toList.getD i 0 = u := by
  unfold bt at h
  exact UInt8.toNat_inj.1 (by omega)
theorem okP_text {s : ByteArray} (h : okP s) : s.data.toList = [48, 120] ++ (tl s).data.toList := by
  obtain ⟨h2, hf, _⟩ := h
  obtain ⟨f0, f1⟩ := (frB_bt h2).1 hf
  refine extU (by rw [text_len, List.length_append, text_len, tl_size]; show _ = 2 + _; omega) fun j hj => ?_
  by_cases k : 2 ≤ j
  · rw [front_at k]
    apply bt_eq
    have := tl_bt s (j - 2)
    rw [show j - 2 + 2 = j by omega] at this
    rw [← this]; rfl
  · rw [front_low (by omega)]
    have : j = 0 ∨ j = 1 := by omega
    rcases this with rfl | rfl
    · exact bt_eq f0
    · exact bt_eq f1
theorem low_front (L : List UInt8) : lowT ([48, 120] ++ L) = [48, 120] ++ lowT L := by
  show lw 48 :: lw 120 :: lowT L = 48 :: 120 :: lowT L
  rw [show lw 48 = 48 by decide, show lw 120 = 120 by decide]
theorem low_text {s : ByteArray} (h : okP s) : lowT s.data.toList = [48, 120] ++ lowT (tl s).data.toList := by
  conv => lhs; rw [okP_text h]
  exact low_front _
theorem one_data {s : ByteArray} (e : pdE s = 0) : [48, 120] ++ hexB (pdX s) = lowT s.data.toList ∧ (pdX s).length ≤ 16777216 := by
  unfold pdE at e
  by_cases h1 : 33554434 < s.size
  · rw [if_pos h1] at e; cases e
  · rw [if_neg h1] at e
    by_cases h2 : okP s
    · rw [if_pos h2] at e
      by_cases h3 : (tl s).size % 2 = 0
      · have ex : pdX s = pk (tl s) ((tl s).size / 2) := by unfold pdX; rw [if_pos ⟨by omega, h2, h3⟩]
        refine ⟨by rw [ex, hex_pk (by omega) h2.2.2, low_text h2], ?_⟩
        rw [ex, pk_len, tl_size]; omega
      · rw [if_neg h3] at e; cases e
    · rw [if_neg h2] at e; cases e
theorem pdX_most (s : ByteArray) : (pdX s).length ≤ 16777216 ∧ ∀ i, 0 ≤ (pdX s).getD i 0 ∧ (pdX s).getD i 0 < 256 := by
  unfold pdX
  split
  · rename_i h
    refine ⟨by rw [pk_len, tl_size]; omega, pk_low h.2.1.2.2 (by omega)⟩
  · exact ⟨by simp, fun i => by simp⟩
/-- What is read as a quantity of at most m digits: the error, the number. -/
noncomputable def pqE (m : Nat) (s : ByteArray) : Int := open Classical in if okP s ∧ (tl s).size ≠ 0 then (if 1 < (tl s).size ∧ bt (tl s) 0 = 48 then 82 else if (tl s).size ≤ m then 0 else 83) else 80
noncomputable def pqN (m : Nat) (s : ByteArray) : Int := open Classical in if pqE m s = 0 then dN (tl s) (tl s).size else 0
theorem pqE_zero {m : Nat} {s : ByteArray} : pqE m s = 0 ↔ okP s ∧ (tl s).size ≠ 0 ∧ ¬ (1 < (tl s).size ∧ bt (tl s) 0 = 48) ∧ (tl s).size ≤ m := by
  unfold pqE
  by_cases h : okP s ∧ (tl s).size ≠ 0
  · rw [if_pos h]
    by_cases k : 1 < (tl s).size ∧ bt (tl s) 0 = 48
    · rw [if_pos k]; exact ⟨fun x => (by cases x), fun x => absurd k x.2.2.1⟩
    · rw [if_neg k]
      by_cases l : (tl s).size ≤ m
      · rw [if_pos l]; exact ⟨fun _ => ⟨h.1, h.2, k, l⟩, fun _ => rfl⟩
      · rw [if_neg l]; exact ⟨fun x => (by cases x), fun x => absurd x.2.2.2 l⟩
  · rw [if_neg h]; exact ⟨fun x => (by cases x), fun x => absurd ⟨x.1, x.2.1⟩ h⟩
theorem pqN_num {m : Nat} (hm : m ≤ 64) (s : ByteArray) : Num (pqN m s) ∧ pqN m s < 16 ^ m := by
  unfold pqN
  split
  · rename_i e
    obtain ⟨h1, _, _, h4⟩ := pqE_zero.1 e
    refine ⟨dN_num h1.2.2 (by omega), Int.lt_of_lt_of_le (dN_low h1.2.2 _ (Nat.le_refl _)).2 ?_⟩
    have := Nat.pow_le_pow_right (show 0 < 16 by decide) h4
    exact_mod_cast this
  · exact ⟨⟨by decide, by decide⟩, Int.pow_pos (by decide)⟩
theorem one_quan {m : Nat} {s : ByteArray} (e : pqE m s = 0) : [48, 120] ++ qtx (pqN m s) (hiD (pqN m s) + 1) = lowT s.data.toList := by
  obtain ⟨h1, h2, h3, _⟩ := pqE_zero.1 e
  unfold pqN
  rw [if_pos e, qtx_back h1.2.2 h2 h3, low_text h1]
theorem quan_all {s : ByteArray} (hs : s.size < 140737488355328) {m : Nat} (m1 : 1 ≤ m) (m2 : m ≤ 64) (w : World) :
    Calls Tryd.prog 44 #[.string s, .int .i64 m] w fun r w' => r = .returned (.tuple #[.agg #[.int .u64 (l0 (pqN m s)), .int .u64 (l1 (pqN m s)), .int .u64 (l2 (pqN m s)), .int .u64 (l3 (pqN m s))], .int .i64 (pqE m s)]) ∧ Below w.heap.size w w' := by
  by_cases e : pqE m s = 0
  · obtain ⟨h1, h2, h3, h4⟩ := pqE_zero.1 e
    have en : pqN m s = dN (tl s) (tl s).size := by unfold pqN; rw [if_pos e]
    rw [e, en, ← qs_lim h1.2.2 (by omega)]
    exact quan_ok hs h1 h2 h3 h4 m2 w
  · have en : pqN m s = 0 := by unfold pqN; rw [if_neg e]
    rw [en]
    by_cases h : okP s
    · by_cases h0 : (tl s).size = 0
      · have : pqE m s = 80 := by unfold pqE; rw [if_neg (fun x => x.2 h0)]
        rw [this]; exact quan_none hs h h0 w
      · by_cases hz : 1 < (tl s).size ∧ bt (tl s) 0 = 48
        · have : pqE m s = 82 := by unfold pqE; rw [if_pos ⟨h, h0⟩, if_pos hz]
          rw [this]; exact quan_zero hs h hz.1 hz.2 w
        · by_cases hw : (tl s).size ≤ m
          · exact absurd (pqE_zero.2 ⟨h, h0, hz, hw⟩) e
          · have : pqE m s = 83 := by unfold pqE; rw [if_pos ⟨h, h0⟩, if_neg hz, if_neg hw]
            rw [this]; exact quan_wide hs h (by omega) m1 (fun x => hz ⟨by omega, x⟩) w
    · have : pqE m s = 80 := by unfold pqE; rw [if_neg (fun x => h x.1)]
      rw [this]; exact quan_no hs h w
theorem pquan_all {s : ByteArray} (hs : s.size < 140737488355328) (w : World) :
    Calls Tryd.prog 27 #[.string s] w fun r w' => r = .returned (.tuple #[.agg #[.int .u64 (l0 (pqN 64 s)), .int .u64 (l1 (pqN 64 s)), .int .u64 (l2 (pqN 64 s)), .int .u64 (l3 (pqN 64 s))], .int .i64 (pqE 64 s)]) ∧ Below w.heap.size w w' :=
  pq_any (fun w => quan_all hs (by decide) (by decide) w) w
theorem l0_small {n : Int} (h0 : 0 ≤ n) (h : n < 18446744073709551616) : l0 n = n ∧ l1 n = 0 ∧ l2 n = 0 ∧ l3 n = 0 := by
  unfold l0 l1 l2 l3; omega
theorem puint_all {s : ByteArray} (hs : s.size < 140737488355328) (w : World) :
    Calls Tryd.prog 29 #[.string s] w fun r w' => r = .returned (.tuple #[.int .u64 (pqN 16 s), .int .i64 (pqE 16 s)]) ∧ Below w.heap.size w w' := by
  obtain ⟨a, b⟩ := pqN_num (m := 16) (by decide) s
  have e := (l0_small a.1 (by rw [show (18446744073709551616 : Int) = 16 ^ 16 by decide]; exact b)).1
  have h := pu_any (fun w => quan_all hs (m := 16) (by decide) (by decide) w) w
  rw [e] at h
  exact h
theorem one_uint {s : ByteArray} (e : pqE 16 s = 0) : pqE 64 s = 0 ∧ pqN 64 s = pqN 16 s := by
  obtain ⟨h1, h2, h3, h4⟩ := pqE_zero.1 e
  have e2 : pqE 64 s = 0 := pqE_zero.2 ⟨h1, h2, h3, by omega⟩
  refine ⟨e2, ?_⟩
  unfold pqN
  rw [if_pos e, if_pos e2]
theorem one_hash {s : ByteArray} (e : phE s = 0) : [48, 120] ++ hexB (phX s) = lowT s.data.toList := by
  unfold phE at e
  by_cases h : okP s ∧ (tl s).size = 64
  · have ex : phX s = pk (tl s) 32 := by unfold phX; rw [if_pos h]
    rw [ex, hex_pk (by omega) h.1.2.2, low_text h.1]
  · rw [if_neg h] at e; cases e
theorem phX_low (s : ByteArray) (i : Nat) : 0 ≤ (phX s).getD i 0 ∧ (phX s).getD i 0 < 256 := by
  unfold phX
  split
  · rename_i h; exact pk_low h.1.2.2 (by omega) i
  · rw [List.getD]
    by_cases hi : i < 32
    · rw [List.getElem?_replicate, if_pos hi]; decide
    · rw [List.getElem?_replicate, if_neg hi]; decide
theorem paX_lowb (s : ByteArray) (i : Nat) : 0 ≤ (paX s).getD i 0 ∧ (paX s).getD i 0 < 256 := by
  unfold paX
  split
  · rename_i h; exact pk_low h.1.2.2 (by omega) i
  · rw [List.getD]
    by_cases hi : i < 20
    · rw [List.getElem?_replicate, if_pos hi]; decide
    · rw [List.getElem?_replicate, if_neg hi]; decide
theorem one_addr {s : ByteArray} (e : paE s = 0) : lowT (ckS (paX s)) = lowT s.data.toList := by
  rw [low_ckS (paX_len s) (paX_lowb s)]
  unfold paE at e
  by_cases h : okP s ∧ (tl s).size = 40
  · rw [if_pos h] at e
    by_cases k : (smA (tl s) 40 && caA (tl s) 40) = false ∨ s = ⟨(ckS (pk (tl s) 20)).toArray⟩
    · have ex : paX s = pk (tl s) 20 := by unfold paX; rw [if_pos ⟨h.1, h.2, k⟩]
      rw [ex, hex_pk (by omega) h.1.2.2, low_text h.1]
    · rw [if_neg k] at e; cases e
  · rw [if_neg h] at e; cases e
end Go.Proofs.YtidchaaahgnabaaDoor

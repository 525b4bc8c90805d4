import Derived.Test.YtidchaaahgnabaaDoorHxC
import Derived.Maps.AppendAt
namespace Go.Proofs.YtidchaaahgnabaaDoor
open Go.RowKit Go.Sort

theorem info_int : (Tryd.prog.info? 3).map (fun i => (i.zero, i.size, i.bytes)) = some (some (.int .i64 0), 1, 8) := by kernel_rfl
theorem info_partsH {P : Program} {e : TypeId} {z : Value} {s b : Nat} (h : (P.info? e).map (fun i => (i.zero, i.size, i.bytes)) = some (some z, s, b)) : ∃ i, P.info? e = some i ∧ i.zero = some z ∧ i.size = s ∧ i.bytes = b := by
  cases hi : P.info? e with
  | none => rw [hi] at h; cases h
  | some i =>
    rw [hi] at h
    simp only [Option.map_some, Option.some.injEq, Prod.mk.injEq] at h
    exact ⟨i, rfl, h.1, h.2.1, h.2.2⟩
theorem cell_oneH (w : World) (x : Value) (t : TypeId) : ∀ (j : Nat) u, [x][j]? = some u → (w.alloc (.cells #[x] t)).cell? (Addr.add ⟨w.heap.size, 0, none⟩ j) = some u := fun j u h => by
  cases j with
  | zero =>
    simp only [List.getElem?_cons_zero, Option.some.injEq] at h
    subst h
    simp [Addr.add, go_sem]
  | succ j => simp at h
/-- A slice of the call's own memory, of these numbers. -/
def OwnI (B : Nat) (W : World) (v : Value) (L : List Int) : Prop := W.ownsRow B 3 1 v L.length (L.map (Value.int .i64))
theorem OwnI.row {B : Nat} {W : World} {v : Value} {L : List Int} (h : OwnI B W v L) : W.ownsRow B 3 1 v L.length (L.map (Value.int .i64)) := h
/-- Where it lies. -/
theorem OwnI.lies {B : Nat} {W : World} {v : Value} {L : List Int} (h : OwnI B W v L) : ∃ a g c, v = .slice a L.length c ∧ (L ≠ [] → a = some ⟨g, 0, none⟩) ∧ (∀ i, i < L.length → W.cell? ⟨g, i, none⟩ = some (.int .i64 (L.getD i 0))) ∧ (L ≠ [] → B ≤ g) := by
  obtain ⟨h1, h2⟩ := h
  rcases h2 with ⟨rfl, h0⟩ | ⟨g, cap, cur, rfl, hB, hc, hle, h63, hs, ht⟩
  · have e : L = [] := List.length_eq_zero_iff.1 h0
    subst e
    exact ⟨_, 0, 0, rfl, fun h => absurd rfl h, fun i hi => absurd hi (Nat.not_lt_zero _), fun h => absurd rfl h⟩
  · refine ⟨_, g, cap, rfl, fun _ => rfl, fun i hi => ?_, fun _ => hB⟩
    have := World.ownsRow.cellAt ⟨h1, .inr ⟨g, cap, cur, rfl, hB, hc, hle, h63, hs, ht⟩⟩ i (by omega)
    rw [this, List.getElem?_map, List.getElem?_eq_getElem hi, List.getD, List.getElem?_eq_getElem hi]
    rfl
theorem frB_bt {s : ByteArray} (h : 2 ≤ s.size) : frB s = true ↔ bt s 0 = 48 ∧ bt s 1 = 120 := by
  have p0 : 0 < s.size := by omega
  have p1 : 1 < s.size := by omega
  have e0 : (s.extract 0 2).toList = [s[0]'p0, s[1]'p1] := by
    rw [ByteArray.toList_eq]
    refine List.ext_getElem? fun i => ?_
    rw [Array.getElem?_toList, ByteArray.data_extract, Array.getElem?_extract]
    have hs : s.data.size = s.size := rfl
    match i with
    | 0 => rw [if_pos (by omega), Array.getElem?_eq_getElem (by omega)]; rfl
    | 1 => rw [if_pos (by omega), Array.getElem?_eq_getElem (by omega)]; rfl
    | i + 2 => rw [if_neg (by omega)]; rfl
  have q : ∀ (u : UInt8) (n : Nat) (hn : n < 256), u = UInt8.ofNat n ↔ (u.toNat : Int) = n := fun u n hn => by
    rw [← UInt8.toNat_inj, UInt8.toNat_ofNat', Nat.mod_eq_of_lt (by omega)]
    omega
  unfold frB
  rw [e0, beq_iff_eq, ← bt_get s 0 p0, ← bt_get s 1 p1]
  simp only [List.cons.injEq, and_true]
  exact and_congr (q _ 48 (by decide)) (q _ 120 (by decide))
/-- The values of the first n digits. -/
def dl (t : ByteArray) (n : Nat) : List Int := (List.range n).map fun j => dv (bt t j)
theorem dl_len (t : ByteArray) (n : Nat) : (dl t n).length = n := by simp [dl]
theorem dl_snoc (t : ByteArray) (n : Nat) : dl t (n + 1) = dl t n ++ [dv (bt t n)] := by simp [dl, List.range_succ]

set_option maxRecDepth 100000 in
theorem rtail_short {s : ByteArray} (h : s.size < 2) (w : World) :
    Calls Tryd.prog 42 #[.string s] w fun e w' => e = .returned (.tuple #[.slice none 0 0, .bool false]) ∧ w' = w := by
  have h' : (s.size : Int) < 2 := by omega
  go_enter Tryd.func42, Tryd.ntmps42
  go_wp2
  simp [bodyPost, results, Tryd.results42, go_sem]
set_option maxRecDepth 100000 in
theorem rtail_front {s : ByteArray} (h : ¬ s.size < 2) (hf : ¬ (bt s 0 = 48 ∧ bt s 1 = 120)) (w : World) :
    Calls Tryd.prog 42 #[.string s] w fun e w' => e = .returned (.tuple #[.slice none 0 0, .bool false]) ∧ w' = w := by
  have h' : ¬ (s.size : Int) < 2 := by omega
  have p0 : 0 < s.size := by omega
  have p1 : 1 < s.size := by omega
  have b0 := bt_get s 0 p0
  have b1 := bt_get s 1 p1
  by_cases h0 : bt s 0 = 48
  · have c0 : (((s[0]'p0).toNat : Int) != 48) = false := by rw [b0]; simp [h0]
    have c1 : (((s[1]'p1).toNat : Int) != 120) = true := by rw [b1]; simpa using fun e => hf ⟨h0, e⟩
    clear b0 b1 h0 hf
    go_enter Tryd.func42, Tryd.ntmps42
    go_wp2
    simp [bodyPost, results, Tryd.results42, go_sem]
  · have c0 : (((s[0]'p0).toNat : Int) != 48) = true := by rw [b0]; simpa using h0
    clear b0 b1 h0 hf
    go_enter Tryd.func42, Tryd.ntmps42
    go_wp2
    simp [bodyPost, results, Tryd.results42, go_sem]
set_option maxRecDepth 100000 in
set_option maxHeartbeats 4000000 in
theorem rtail_ok {s : ByteArray} (hs : s.size < 1073741824) (h : ¬ s.size < 2) (hf : bt s 0 = 48 ∧ bt s 1 = 120) (w : World) :
    Calls Tryd.prog 42 #[.string s] w fun e w' => ((dgs (tl s) ∧ ∃ v, e = .returned (.tuple #[v, .bool true]) ∧ OwnI w.heap.size w' v (dl (tl s) (tl s).size)) ∨ (¬ dgs (tl s) ∧ e = .returned (.tuple #[.slice none 0 0, .bool false]))) ∧ Below w.heap.size w w' := by
  have h' : ¬ (s.size : Int) < 2 := by omega
  have p0 : 0 < s.size := by omega
  have p1 : 1 < s.size := by omega
  have c0 : (((s[0]'p0).toNat : Int) != 48) = false := by rw [bt_get]; simp [hf.1]
  have c1 : (((s[1]'p1).toNat : Int) != 120) = false := by rw [bt_get]; simp [hf.2]
  clear hf
  obtain ⟨i0, hi, hz0, hz1, hz2⟩ := info_partsH info_int
  have HN : Hid (s.size < 1073741824) := hs
  clear hs
  go_enter Tryd.func42, Tryd.ntmps42
  go_wp2_with fail
  clear c0 c1
  go_loopg [4, 5] (s.size - 2) (fun k lv iv wr => ∃ i : Nat, k = s.size - 2 - i ∧ i ≤ s.size - 2 ∧ iv = .int .i64 ((i : Int) + 2) ∧ (∀ j, j < i → 0 ≤ dv (bt (tl s) j)) ∧ OwnI w.heap.size wr lv (dl (tl s) i) ∧ Below w.heap.size w wr)
  case atStart => exact ⟨0, rfl, Nat.zero_le _, rfl, fun j hj => absurd hj (Nat.not_lt_zero _), ⟨by simp [dl], .inl ⟨rfl, by simp [dl]⟩⟩, Below.refl _ _⟩
  case round =>
    obtain ⟨i, hk, hi9, rfl, hall, hown, B⟩ := hrel
    have HK : Hid (gk = s.size - 2 - i ∧ (∀ j, j < i → 0 ≤ dv (bt (tl s) j))) := ⟨hk, hall⟩
    have HF : Hid (OwnI w.heap.size wr u4 (dl (tl s) i) ∧ Below w.heap.size w wr) := ⟨hown, B⟩
    clear hk hall hown B
    by_cases h8 : i = s.size - 2
    · have hlt : ¬ ((i : Int) + 2 < (s.size : Int)) := by omega
      have HA : Hid (dgs (tl s) ∧ (tl s).size = i) := ⟨fun j hj => HK.out.2 j (by rw [tl_size] at hj; omega), by rw [tl_size]; omega⟩
      go_wp2
      simp [bodyPost, results, Tryd.results42, go_sem]
      exact ⟨⟨HA.out.1, by rw [HA.out.2]; exact HF.out.1⟩, HF.out.2⟩
    · have hlt : (i : Int) + 2 < (s.size : Int) := by omega
      have hb : (i : Int) < 1073741824 := by have := HN.out; omega
      have hsz : i + 2 < s.size := by omega
      have eo : ((i : Int) + 2).toNat = i + 2 := by omega
      have eb := bt_get s (i + 2) hsz
      rw [← tl_bt] at eb
      have hx := rvalue_any (bt (tl s) i)
      by_cases hd : 0 ≤ dv (bt (tl s) i)
      · have hd1 : decide (dv (bt (tl s) i) < 0) = false := decide_eq_false (by omega)
        have HD : Hid (0 ≤ dv (bt (tl s) i) ∧ dl (tl s) (i + 1) = dl (tl s) i ++ [dv (bt (tl s) i)]) := ⟨hd, dl_snoc _ _⟩
        have LR : Hid ((dl (tl s) i).length = i ∧ i < 1073741824) := ⟨dl_len _ _, by have := HN.out; omega⟩
        clear hd
        obtain ⟨x, HX⟩ : ∃ x, Hid (x = dv (bt (tl s) i)) := ⟨_, rfl⟩
        rw [← HX.out] at hd1 hx
        go_wp2_with first | ((with_reducible refine (hx _).mono ?_); rintro e1 w1 ⟨rfl, hw1⟩; (rw [hw1]); (clear hw1 w1)) | (at_builtin; go_loud (refine wpList_append_own_at _ rfl _ _ 71 rfl w.heap.size 3 i0 (.int .i64 0) 1 8 Tryd.underlying71 hi hz0 hz1 hz2 rfl (by decide) u4 _ _ rfl (HF.out.1.row.alloc _) ⟨wr.heap.size, 0, none⟩ 1 1 [.int .i64 x] rfl rfl (cell_oneH _ _ _) (fun u hu => by simp at hu; subst hu; rfl) (by unfold maxLen; have := LR.out; omega) (by have := LR.out; omega) (by have := HF.out.2.size; simp; omega) ?_); intro v' w3 hown' hgrow3 hnil3 hblk)
        have HO : Hid (OwnI w.heap.size w3 v' (dl (tl s) (i + 1)) ∧ Below w.heap.size w w3) := by
          refine ⟨?_, ?_⟩
          · rw [HD.out.2, OwnI, List.length_append, List.map_append, ← HX.out]
            exact hown'
          · exact (HF.out.2.alloc HF.out.2.size _).grown hgrow3 (by have := HF.out.2.size; simp; omega) (fun k hk => (HF.out.1.row.lt k hk).1)
        clear hown' hgrow3 hnil3 hblk
        go_roundg (s.size - 2 - (i + 1))
        case measure => have := HK.out.1; omega
        case rel => exact ⟨i + 1, rfl, by omega, by rw [Int.natCast_add]; congr 1, fun j hj => by
          by_cases hj' : j = i
          · rw [hj']; exact HD.out.1
          · exact HK.out.2 j (by omega), HO.out.1, HO.out.2⟩
      · have hd1 : decide (dv (bt (tl s) i) < 0) = true := decide_eq_true (by omega)
        have HD : Hid (¬ dgs (tl s)) := fun h => hd (h i (by rw [tl_size]; omega))
        clear hd
        obtain ⟨x, HX⟩ : ∃ x, Hid (x = dv (bt (tl s) i)) := ⟨_, rfl⟩
        rw [← HX.out] at hd1 hx
        go_wp2_with ((with_reducible refine (hx _).mono ?_); rintro e1 w1 ⟨rfl, rfl⟩)
        simp [bodyPost, results, Tryd.results42, go_sem]
        exact ⟨HD.out, HF.out.2⟩
theorem rtail_yes {s : ByteArray} (hs : s.size < 1073741824) (h : okP s) (w : World) : Calls Tryd.prog 42 #[.string s] w fun e w' => ∃ v, e = .returned (.tuple #[v, .bool true]) ∧ OwnI w.heap.size w' v (dl (tl s) (tl s).size) ∧ Below w.heap.size w w' :=
  (rtail_ok hs (by have := h.1; omega) ((frB_bt h.1).1 h.2.1) w).mono fun e w' ⟨h1, h2⟩ => by
    rcases h1 with ⟨_, v, h1, h3⟩ | ⟨h1, _⟩
    · exact ⟨v, h1, h3, h2⟩
    · exact absurd h.2.2 h1
theorem rtail_no {s : ByteArray} (hs : s.size < 1073741824) (h : ¬ okP s) (w : World) : Calls Tryd.prog 42 #[.string s] w fun e w' => e = .returned (.tuple #[.slice none 0 0, .bool false]) ∧ Below w.heap.size w w' := by
  by_cases h1 : s.size < 2
  · exact (rtail_short h1 w).mono fun e w' ⟨h2, h3⟩ => ⟨h2, by rw [h3]; exact Below.refl _ _⟩
  · by_cases h2 : bt s 0 = 48 ∧ bt s 1 = 120
    · refine (rtail_ok hs h1 h2 w).mono fun e w' ⟨h3, h4⟩ => ⟨?_, h4⟩
      rcases h3 with ⟨h3, _⟩ | ⟨_, h3⟩
      · exact absurd ⟨by omega, (frB_bt (by omega)).2 h2, h3⟩ h
      · exact h3
    · exact (rtail_front h1 h2 w).mono fun e w' ⟨h2, h3⟩ => ⟨h2, by rw [h3]; exact Below.refl _ _⟩
end Go.Proofs.YtidchaaahgnabaaDoor

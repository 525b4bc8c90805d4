import Derived.Test.YthbfefalgigbeaaDoorTsG
/- slices.EqualFunc of entries; slices.Equal of bytes. -/
namespace Go.Proofs.YthbfefalgigbeaaDoor.tq
open Go.RowKit Go.Sort
theorem wpList_worldT {P : Program} {ops : Array Oper} {Q : Exit → Act → World → Prop} {rest : List Oper} {a : Act} {w : World} (S : World → Prop) (h : S w) (k : ∀ W, S W → wpList P ops Q rest a W) : wpList P ops Q rest a w := k w h
/-- What is stored into a block that was made just now. -/
theorem stored_T {w : World} {z : List Value} {cs : List Value} {t : TypeId} (hz : z.length = cs.length) :
    (w.alloc (.cells z.toArray t)).there w.heap.size 0 cs.length ∧ ((w.alloc (.cells z.toArray t)).setCells w.heap.size 0 cs).rangeAt w.heap.size 0 cs ∧ Below w.heap.size w ((w.alloc (.cells z.toArray t)).setCells w.heap.size 0 cs) := by
  have hn : (w.alloc (.cells z.toArray t)).heap[w.heap.size]? = some (.cells z.toArray t) := by
    show (w.heap.push _)[w.heap.size]? = _
    simp
  have ht : (w.alloc (.cells z.toArray t)).there w.heap.size 0 cs.length := fun j hj => ⟨by
    rw [Nat.zero_add, cell_of_row _ _ j _ _ _ hn]; simp [hz, hj], by rw [Nat.zero_add]; exact frozen_of_row _ _ j _ _ hn⟩
  refine ⟨ht, World.rangeAt_setCells_same _ _ _ _ ht, ?_⟩
  exact below_setCells (Nat.le_refl _) cs 0 _ ((Below.refl _ _).alloc (Nat.le_refl _) _)
theorem enC_one (e : En) : ∀ u ∈ enC e, u.oneCell' = true := fun u hu => by
  unfold enC at hu
  rcases List.mem_append.1 hu with h | h
  · exact hC_one _ u h
  · simp at h; subst h; rfl
set_option maxRecDepth 100000 in
set_option maxHeartbeats 8000000 in
theorem equalE_any {a a' : Option Addr} {b o c b' o' c' : Nat} {L M : List En} (hl : L.length < 1000000000) (hk : ∀ i, i < L.length → (L.getD i zEn).ks.length < 1000000000) (w : World) (hG : EsG w a b o c L) (hG' : EsG w a' b' o' c' M) :
    Calls Tryd.prog 10 #[.slice a L.length c, .slice a' M.length c', .func (.func 11) #[] #[]] w fun e w' => e = .returned (.bool (eqL sameE zEn L M)) ∧ Below w.heap.size w w' := by
  by_cases hn : L.length = M.length
  case neg =>
    rw [eqL_len hn]
    have hn' : ¬ ((L.length : Int) = (M.length : Int)) := by omega
    clear hl hG hG' hn
    go_enter Tryd.func10, Tryd.ntmps10
    go_wp2
    simp [bodyPost, results, Tryd.results10, go_sem]
    exact Below.refl _ _
  rw [← hn]
  have HA : Hid (EsG w a b o c L ∧ EsG w a' b' o' c' M ∧ L.length = M.length) := ⟨hG, hG', hn⟩
  have n1 : (L.length : Int) < 1000000000 := by omega
  have SE : Hid (∀ i, i < L.length → ∀ W, Below w.heap.size w W → Calls Tryd.prog 11 #[.agg (enC (L.getD i zEn)).toArray, .agg (enC (M.getD i zEn)).toArray] W fun x w' => x = .returned (.bool (sameE (L.getD i zEn) (M.getD i zEn))) ∧ Below W.heap.size W w') := fun i hi W B => sameEntry_any (hk i hi) W ((hG.2.2 i hi).1.keep B) ((hG'.2.2 i (by omega)).1.keep B)
  clear hl hG hG' hn hk
  go_enter Tryd.func10, Tryd.ntmps10
  go_wp2_with fail
  go_loopg [7, 8, 9, 17] L.length (fun kk x1 x2 x3 iv wr => ∃ i : Nat, kk = L.length - i ∧ i ≤ L.length ∧ iv = .int .i64 (i : Int) ∧ (∀ j, j < i → sameE (L.getD j zEn) (M.getD j zEn) = true) ∧ Below w.heap.size w wr)
  case atStart => exact ⟨0, rfl, Nat.zero_le _, rfl, fun n hn => absurd hn (Nat.not_lt_zero _), Below.refl _ _⟩
  case round =>
    obtain ⟨i, hk, hi, rfl, ht, B⟩ := hrel
    have HK : Hid (gk = L.length - i ∧ ∀ j, j < i → sameE (L.getD j zEn) (M.getD j zEn) = true) := ⟨hk, ht⟩
    clear hk ht
    by_cases h8 : i = L.length
    · have HT : Hid (eqL sameE zEn L M = true) := eqL_yes HA.out.2.2 (by rw [← h8]; exact HK.out.2)
      subst h8
      clear HA HK SE
      go_wp2
      simp [bodyPost, results, Tryd.results10, go_sem]
      exact ⟨HT.out, B⟩
    · have hlt : i < L.length := by omega
      have hlt' : (i : Int) < (L.length : Int) := by omega
      obtain rfl : a = some ⟨b, o, none⟩ := by
        rcases HA.out.1.2.1 with h | h
        · rw [h] at hlt; exact absurd hlt (Nat.not_lt_zero _)
        · exact h
      obtain rfl : a' = some ⟨b', o', none⟩ := by
        rcases HA.out.2.1.2.1 with h | h
        · rw [HA.out.2.2, h] at hlt; exact absurd hlt (Nat.not_lt_zero _)
        · exact h
      have rb : wr.rangeAt b (o + i * 21) (enC (L.getD i zEn)) := range_keep (HA.out.1.2.2 i hlt).2 B
      have RC : Hid (w.rangeAt b' (o' + i * 21) (enC (M.getD i zEn))) := (HA.out.2.1.2.2 i (by rw [← HA.out.2.2]; exact hlt)).2
      have k1 : Hid ((enC (L.getD i zEn)).length = 21) := enC_len (HA.out.1.2.2 i hlt).1.1.1
      have k2 : Hid ((enC (M.getD i zEn)).length = 21) := enC_len (HA.out.2.1.2.2 i (by rw [← HA.out.2.2]; exact hlt)).1.1.1
      have c1o : Hid (∀ u ∈ enC (L.getD i zEn), u.oneCell' = true) := enC_one _
      have c2o : Hid (∀ u ∈ enC (M.getD i zEn), u.oneCell' = true) := enC_one _
      have CC : Hid (∀ W, Below w.heap.size w W → Calls Tryd.prog 11 #[.agg (enC (L.getD i zEn)).toArray, .agg (enC (M.getD i zEn)).toArray] W fun x w' => x = .returned (.bool (sameE (L.getD i zEn) (M.getD i zEn))) ∧ Below W.heap.size W w') := SE.out i hlt
      have NO : Hid (sameE (L.getD i zEn) (M.getD i zEn) = false → eqL sameE zEn L M = false) := fun h => eqL_no hlt h
      clear h8 hi SE
      generalize enC (L.getD i zEn) = c1 at *
      generalize enC (M.getD i zEn) = c2 at *
      obtain ⟨dd, hd⟩ : ∃ dd, sameE (L.getD i zEn) (M.getD i zEn) = dd := ⟨_, rfl⟩
      have HD : Hid (sameE (L.getD i zEn) (M.getD i zEn) = dd) := hd
      rw [hd] at CC
      clear hd
      go_wp2_with first
        | refine wpList_load_mid rfl _ _ rfl b (o + i * 21) rfl c1 _ rb Tryd.underlying38 rfl (by rw [k1.out]; exact size_en) ?_
        | ((refine wpList_store_mid rfl _ _ _ rfl wr.heap.size 0 c1.toArray rfl rfl (by show World.there _ _ _ c1.toArray.size; rw [List.size_toArray]; exact (stored_T (by rw [k1.out]; rfl)).1) (by rw [List.size_toArray, k1.out]; exact size_en) (all_oneCell_toArray c1o.out) ?_); (refine wpList_worldT (fun W => Below wr.heap.size wr W ∧ W.rangeAt wr.heap.size 0 c1) ⟨(stored_T (by rw [k1.out]; rfl)).2.2, (stored_T (by rw [k1.out]; rfl)).2.1⟩ ?_); (rintro W2 ⟨B2, r2⟩); (have BW : Below w.heap.size w W2 := B.trans (B2.mono B.size)); (have rc : W2.rangeAt b' (o' + i * 21) c2 := range_keep RC.out BW))
        | refine wpList_load_mid rfl _ _ rfl b' (o' + i * 21) rfl c2 _ rc Tryd.underlying38 rfl (by rw [k2.out]; exact size_en) ?_
        | ((refine wpList_store_mid rfl _ _ _ rfl W2.heap.size 0 c2.toArray rfl rfl (by show World.there _ _ _ c2.toArray.size; rw [List.size_toArray]; exact (stored_T (by rw [k2.out]; rfl)).1) (by rw [List.size_toArray, k2.out]; exact size_en) (all_oneCell_toArray c2o.out) ?_); (refine wpList_worldT (fun W => Below W2.heap.size W2 W ∧ W.rangeAt W2.heap.size 0 c2) ⟨(stored_T (by rw [k2.out]; rfl)).2.2, (stored_T (by rw [k2.out]; rfl)).2.1⟩ ?_); (rintro W3 ⟨B3, r3⟩); (have r4 : W3.rangeAt wr.heap.size 0 c1 := range_keep r2 B3); (have BZ : Below w.heap.size w W3 := BW.trans (B3.mono BW.size)))
        | refine wpList_load_mid rfl _ _ rfl wr.heap.size 0 rfl c1 _ r4 Tryd.underlying38 rfl (by rw [k1.out]; exact size_en) ?_
        | refine wpList_load_mid rfl _ _ rfl W2.heap.size 0 rfl c2 _ r3 Tryd.underlying38 rfl (by rw [k2.out]; exact size_en) ?_
      refine (CC.out _ BZ).mono ?_
      rintro x w5 ⟨rfl, B5⟩
      have hb : Below w.heap.size w w5 := BZ.trans (B5.mono BZ.size)
      clear B5 BZ r4 r3 r2 rc rb BW B2 B3 B
      cases dd with
      | true =>
        go_wp2
        go_roundg (L.length - (i + 1))
        case measure => have := HK.out.1; omega
        case rel => exact ⟨i + 1, rfl, hlt, by go_num, fun n hn => by
          by_cases c : n = i
          · subst c; exact HD.out
          · exact HK.out.2 n (by omega), hb⟩
      | false =>
        go_wp2
        simp [bodyPost, results, Tryd.results10, go_sem]
        exact ⟨NO.out HD.out, hb⟩
set_option maxRecDepth 100000 in
set_option maxHeartbeats 4000000 in
theorem equalB_any {a a' : Option Addr} {b o c b' o' c' : Nat} {X Z : List Int} (hl : X.length < 281474976710656) (ha : Az a b o X) (ha' : Az a' b' o' Z) (w : World) (hz : Bz w b o X) (hz' : Bz w b' o' Z) :
    Calls Tryd.prog 9 #[.slice a X.length c, .slice a' Z.length c'] w fun e w' => e = .returned (.bool (decide (X = Z))) ∧ Below w.heap.size w w' := by
  by_cases hn : X.length = Z.length
  case neg =>
    have ne : decide (X = Z) = false := decide_eq_false fun e => hn (by rw [e])
    rw [ne]
    have hn' : ¬ ((X.length : Int) = (Z.length : Int)) := by omega
    clear hl ha ha' hz hz' hn ne
    go_enter Tryd.func9, Tryd.ntmps9
    go_wp2
    simp [bodyPost, results, Tryd.results9, go_sem]
    exact Below.refl _ _
  rw [← hn]
  have HH : Hid (Az a b o X ∧ Az a' b' o' Z ∧ X.length = Z.length) := ⟨ha, ha', hn⟩
  have KL : Hid (∀ W, Below w.heap.size w W → Bz W b o X ∧ Bz W b' o' Z) := fun W B => ⟨hz.keep B, hz'.keep B⟩
  have n1 : (X.length : Int) < 281474976710656 := by omega
  clear hl ha ha' hz hz' hn
  go_enter Tryd.func9, Tryd.ntmps9
  go_wp2_with fail
  go_loopg [5, 13] X.length (fun k x9 iv wr => ∃ i : Nat, k = X.length - i ∧ i ≤ X.length ∧ iv = .int .i64 i ∧ X.take i = Z.take i ∧ Below w.heap.size w wr)
  case atStart => exact ⟨0, rfl, Nat.zero_le _, rfl, rfl, Below.refl _ _⟩
  case round =>
    obtain ⟨i, hk, hi, rfl, ht, B⟩ := hrel
    have HK : Hid (gk = X.length - i ∧ X.take i = Z.take i) := ⟨hk, ht⟩
    clear hk ht
    by_cases h8 : i = X.length
    · subst h8
      have HT : Hid (X = Z) := by
        have := HK.out.2
        rw [List.take_length, HH.out.2.2, List.take_length] at this
        exact this
      clear HH KL HK
      go_wp2
      simp [bodyPost, results, Tryd.results9, go_sem]
      exact ⟨HT.out, B⟩
    · have hlt : i < X.length := by omega
      have hlt' : (i : Int) < (X.length : Int) := by omega
      obtain ⟨g1, g2⟩ := KL.out wr B
      have c1 := g1 i hlt
      have c2 := g2 i (by rw [← HH.out.2.2]; exact hlt)
      obtain rfl := HH.out.1.cons (by omega)
      obtain rfl := HH.out.2.1.cons (by rw [← HH.out.2.2]; omega)
      clear g1 g2
      by_cases hx : X.getD i 0 = Z.getD i 0
      · have NX : Hid (X.take (i + 1) = Z.take (i + 1)) := take_same hlt (by rw [← HH.out.2.2]; exact hlt) HK.out.2 hx
        rw [← hx] at c2
        generalize X.getD i 0 = x at *
        have c1' : ∀ n, (wr.drewN n).cell? ⟨b, o + i, none⟩ = some (.int .u8 x) := fun _ => c1
        have c2' : ∀ n, (wr.drewN n).cell? ⟨b', o' + i, none⟩ = some (.int .u8 x) := fun _ => c2
        go_wp2_with fail
        refine wp_region_quiet_lit (by kernel_rfl) (by kernel_rfl) ?_
        repeat (first | go_big_quiet_skip | (go_big_quiet_want; go_big_quiet_op; go_big_quiet_on))
        refine wpQuiet_nil ?_
        rintro w' ⟨n, rfl⟩
        have BN : Hid (Below w.heap.size w (wr.drewN n)) := ⟨B.os, B.tape, B.output, B.size, B.block⟩
        clear c1 c2 c1' c2' B
        generalize wr.drewN n = w2 at *
        go_wp2
        go_roundg (X.length - (i + 1))
        case measure => have := HK.out; omega
        case rel => exact ⟨i + 1, rfl, by omega, by go_num, NX.out, BN.out⟩
      · have NX : Hid (X ≠ Z) := fun e => hx (by rw [e])
        generalize X.getD i 0 = x at *
        generalize Z.getD i 0 = z at *
        have c1' : ∀ n, (wr.drewN n).cell? ⟨b, o + i, none⟩ = some (.int .u8 x) := fun _ => c1
        have c2' : ∀ n, (wr.drewN n).cell? ⟨b', o' + i, none⟩ = some (.int .u8 z) := fun _ => c2
        have HB : Hid ((x != z) = true) := bne_iff_ne.2 hx
        clear hx
        go_wp2_with fail
        refine wp_region_quiet_lit (by kernel_rfl) (by kernel_rfl) ?_
        repeat (first | go_big_quiet_skip | (go_big_quiet_want; go_big_quiet_op; go_big_quiet_on))
        refine wpQuiet_nil ?_
        rintro w' ⟨n, rfl⟩
        have BN : Hid (Below w.heap.size w (wr.drewN n)) := ⟨B.os, B.tape, B.output, B.size, B.block⟩
        clear c1 c2 c1' c2' B
        generalize wr.drewN n = w2 at *
        rw [HB.out]
        go_wp2
        simp [bodyPost, results, Tryd.results9, go_sem]
        exact ⟨NX.out, BN.out⟩
end Go.Proofs.YthbfefalgigbeaaDoor.tq

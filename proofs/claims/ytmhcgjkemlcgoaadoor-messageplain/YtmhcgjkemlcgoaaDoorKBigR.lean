import Derived.Test.YtmhcgjkemlcgoaaDoorKBack
import Derived.Test.YtmhcgjkemlcgoaaDoorKBig
/- The document's Sum of great texts. -/
namespace Go.Proofs.YtmhcgjkemlcgoaaDoor.K
open Go.RowKit Go.Sort

set_option maxHeartbeats 4000000 in
theorem filled_some_big {ad : Addr} {bd od cd : Nat} {X : List (BitVec 8)} (f : BitVec 8) (hl : X.length < 140737488353001) (ha : X = [] ∨ ad = ⟨bd, od, none⟩) (w : World) (hX : Byo w bd od X) :
    Calls Tryd.prog 25 #[.slice (some ad) X.length cd, .int .u8 (Y f)] w fun e w' => ∃ v, e = .returned v ∧ Own w.heap.size w' v (fillL X f) ∧ Below w.heap.size w w' := by
  have hl' : (X.length : Int) < 140737488353001 := by omega
  obtain ⟨i0, hi, hz0, hz1, hz2⟩ := info_parts info_byte
  have HZ : Hid (Tryd.prog.info? 5 = some i0 ∧ i0.zero = some (.int .u8 0) ∧ i0.size = 1 ∧ i0.bytes = 1) := ⟨hi, hz0, hz1, hz2⟩
  have HA : Hid ((∀ j u, (byts X)[j]? = some u → w.cell? (ad.add j) = some u) ∧ X.length < 140737488353001) := by
    refine ⟨fun j u hu => ?_, hl⟩
    unfold byts at hu
    rw [List.getElem?_map] at hu
    obtain ⟨x, hx, rfl⟩ := Option.map_eq_some_iff.1 hu
    have hj : j < X.length := (List.getElem?_eq_some_iff.1 hx).1
    rcases ha with h | h
    · rw [h] at hj; simp at hj
    · rw [h, Addr.add_mid, hX j hj]
      simp [List.getD, hx]
  clear ha hX hl hi hz0 hz1 hz2
  go_enter Tryd.func25, Tryd.ntmps25
  go_wp2_with (first
    | (at_builtin; refine wpList_append_own_at _ rfl _ _ 22 rfl w.heap.size 5 i0 (.int .u8 0) 1 1 Tryd.underlying22 HZ.out.1 HZ.out.2.1 HZ.out.2.2.1 HZ.out.2.2.2 rfl (by decide) (.slice none 0 0) 0 [] rfl (World.ownsRow_nil _ _ _ _) ad X.length cd (byts X) rfl (by rw [byts_len, Nat.mul_one]) HA.out.1 (fun u hu => by obtain ⟨x, _, rfl⟩ := List.mem_map.1 hu; rfl) (by unfold maxLen; have := HA.out.2; omega) (by have := HA.out.2; omega) (Nat.le_refl _) ?_; intro v1 w1 hown1 hgrow1 hnil1 hblk1; have I1 : Hid (Own w.heap.size w1 v1 X ∧ Below w.heap.size w w1) := ⟨by rw [Nat.zero_add, List.nil_append] at hown1; exact hown1, (Below.refl _ _).grown hgrow1 (Nat.le_refl _) (fun k hk => by cases hk)⟩; clear hown1 hgrow1 hnil1 hblk1)
    | (at_builtin; refine wpList_append_own_at _ rfl _ _ 22 rfl w.heap.size 5 i0 (.int .u8 0) 1 1 Tryd.underlying22 HZ.out.1 HZ.out.2.1 HZ.out.2.2.1 HZ.out.2.2.2 rfl (by decide) v1 _ _ rfl (I1.out.1.row.alloc _) ⟨w1.heap.size, 0, none⟩ 1 1 [.int .u8 (Y f)] rfl rfl (cell_one_new _ _ _) (fun u hu => by simp at hu; subst hu; rfl) (by unfold maxLen; have := HA.out.2; omega) (by have := HA.out.2; omega) (by have := I1.out.2.size; simp; omega) ?_; intro v2 w2 hown2 hgrow2 hnil2 hblk2; have I2 : Hid (Own w.heap.size w2 v2 (X ++ [f]) ∧ Below w.heap.size w w2) := ⟨by rw [Own, List.length_append, ← byts_snoc]; exact hown2, (I1.out.2.alloc I1.out.2.size _).grown hgrow2 (by have := I1.out.2.size; simp; omega) (fun k hk => (I1.out.1.row.lt k hk).1)⟩; clear hown2 hgrow2 hnil2 hblk2))
  clear I1
  go_loopg [5] (padN X.length) (fun k lv wr => ∃ j : Nat, k = padN X.length - j ∧ j ≤ padN X.length ∧ Own w.heap.size wr lv (X ++ f :: List.replicate j 0) ∧ Below w.heap.size w wr)
  case atStart => exact ⟨0, rfl, Nat.zero_le _, I2.out⟩
  case round =>
    clear I2
    obtain ⟨j, hk, hj, hown, hB⟩ := hrel
    obtain ⟨Z, kZ⟩ : ∃ Z, Z = X ++ f :: List.replicate j 0 := ⟨_, rfl⟩
    rw [← kZ] at hown
    have lZ : Z.length = X.length + 1 + j := by rw [kZ, List.length_append, List.length_cons, List.length_replicate]; omega
    obtain ⟨g, c, ev, hc⟩ := own_form hown (by omega)
    subst ev
    have HF : Hid (Own w.heap.size wr (.slice (some ⟨g, 0, none⟩) Z.length c) Z ∧ Below w.heap.size w wr ∧ Z = X ++ f :: List.replicate j 0 ∧ Z.length = X.length + 1 + j ∧ Z.length ≤ c ∧ gk = padN X.length - j ∧ j ≤ padN X.length) := ⟨hown, hB, kZ, lZ, hc, hk, hj⟩
    have zb : (Z.length : Int) < 140737488354001 := by have := HA.out.2; unfold padN at hj; omega
    clear hk hj hown hB kZ lZ hc
    by_cases h8 : j = padN X.length
    · have q2 : ((Z.length : Int) % 136 == 0) = true := beq_iff_eq.2 (by have := HF.out; unfold padN at h8; omega)
      have q3 : ((Z.length : Int) % 136 != 0) = false := by rw [bne, q2]; rfl
      have q4 : (Z.length : Int) % 136 = 0 := beq_iff_eq.1 q2
      have H8 : Hid (j = padN X.length) := h8
      clear h8 q4
      obtain ⟨m, em⟩ : ∃ m : Nat, (Z.length : Int) - 1 = (m : Int) := ⟨Z.length - 1, by have := HF.out; omega⟩
      have EM : Hid (m = X.length + padN X.length) := by have h : m = X.length + padN X.length := (by have := HF.out; have := H8.out; omega); exact h
      have m1 : m < Z.length := by omega
      have gz : wr.cell? ⟨g, m, none⟩ = some (.int .u8 (Y (Z.getD m 0))) := by
        rw [HF.out.1.row.cellAt m (by omega)]
        simp [byts, List.getD, m1]
      have fz := HF.out.1.row.frozenAt m
      obtain ⟨z, kz⟩ : ∃ z, z = Z.getD m 0 := ⟨_, rfl⟩
      rw [← kz] at gz
      have y128 : Y 128 = 128 := by rw [Y_eq]; rfl
      have yo : bits .or .u8 (Y z) 128 = Y (z ||| 128) := by rw [← y128]; exact Y_or z 128
      have FIN : Hid (Z.set m (z ||| 128) = fillL X f) := by
        rw [fillL, ← H8.out, ← HF.out.2.2.1, H8.out, ← EM.out, kz]
        exact rfl
      have KZ : Hid (z = Z.getD m 0) := kz
      clear kz y128
      go_wp2
      go_ret
      refine ⟨_, rfl, ?_, HF.out.2.1.setCell (HF.out.1.row.lt g rfl).1 _⟩
      rw [← FIN.out, Own, List.length_set, ← byts_set]
      exact (HF.out.1.row.stored m _).1
    · have q2 : ((Z.length : Int) % 136 == 0) = false := beq_eq_false_iff_ne.2 (by have := HF.out; unfold padN at *; omega)
      have q3 : ((Z.length : Int) % 136 != 0) = true := by rw [bne, q2]; rfl
      have HJ : Hid (j < padN X.length) := by have h : j < padN X.length := (by have := HF.out; omega); exact h
      have y0 : Hid (Y 0 = 0) := Y_zero
      clear h8
      go_wp2_with (at_builtin; refine wpList_append_own_at _ rfl _ _ 22 rfl w.heap.size 5 i0 (.int .u8 0) 1 1 Tryd.underlying22 HZ.out.1 HZ.out.2.1 HZ.out.2.2.1 HZ.out.2.2.2 rfl (by decide) (.slice (some ⟨g, 0, none⟩) Z.length c) _ _ rfl (HF.out.1.row.alloc _) ⟨wr.heap.size, 0, none⟩ 1 1 [.int .u8 0] rfl rfl (cell_one_new _ _ _) (fun u hu => by simp at hu; subst hu; rfl) (by unfold maxLen; have := HF.out; have := HA.out.2; unfold padN at *; omega) (by have := HF.out; have := HA.out.2; unfold padN at *; omega) (by have := HF.out.2.1.size; simp; omega) ?_; intro v3 w3 hown3 hgrow3 hnil3 hblk3; have I3 : Hid (Own w.heap.size w3 v3 (Z ++ [0]) ∧ Below w.heap.size w w3) := ⟨by rw [Own, List.length_append, ← byts_snoc, y0.out]; exact hown3, (HF.out.2.1.alloc HF.out.2.1.size _).grown hgrow3 (by have := HF.out.2.1.size; simp; omega) (fun k hk => (HF.out.1.row.lt k hk).1)⟩; clear hown3 hgrow3 hnil3 hblk3)
      go_roundg (padN X.length - (j + 1))
      case measure => have := HF.out; have := HJ.out; omega
      case rel =>
        refine ⟨j + 1, rfl, by have := HJ.out; omega, ?_, I3.out.2⟩
        have h := I3.out.1
        rw [HF.out.2.2.1, List.append_assoc, List.cons_append, ← List.replicate_succ'] at h
        exact h

set_option maxHeartbeats 4000000 in
theorem filled_none_big (f : BitVec 8) (w : World) :
    Calls Tryd.prog 25 #[.slice none 0 0, .int .u8 (Y f)] w fun e w' => ∃ v, e = .returned v ∧ Own w.heap.size w' v (fillL [] f) ∧ Below w.heap.size w w' := by
  obtain ⟨X, kX⟩ : ∃ X : List (BitVec 8), X = [] := ⟨_, rfl⟩
  have KX : Hid (X = []) := kX
  rw [← kX]
  have x0 : X.length = 0 := by rw [kX]; rfl
  have X0 : Hid (X.length = 0) := x0
  clear kX x0
  obtain ⟨i0, hi, hz0, hz1, hz2⟩ := info_parts info_byte
  have HZ : Hid (Tryd.prog.info? 5 = some i0 ∧ i0.zero = some (.int .u8 0) ∧ i0.size = 1 ∧ i0.bytes = 1) := ⟨hi, hz0, hz1, hz2⟩
  have HA : Hid (True ∧ X.length < 140737488353001) := ⟨trivial, by rw [X0.out]; decide⟩
  clear hi hz0 hz1 hz2
  go_enter Tryd.func25, Tryd.ntmps25
  go_wp2_with (at_builtin; refine wpList_append_own_at _ rfl _ _ 22 rfl w.heap.size 5 i0 (.int .u8 0) 1 1 Tryd.underlying22 HZ.out.1 HZ.out.2.1 HZ.out.2.2.1 HZ.out.2.2.2 rfl (by decide) (.slice none 0 0) 0 [] rfl (World.ownsRow_nil _ _ _ _) ⟨w.heap.size, 0, none⟩ 1 1 [.int .u8 (Y f)] rfl rfl (cell_one_new _ _ _) (fun u hu => by simp at hu; subst hu; rfl) (by unfold maxLen; omega) (by omega) (by simp) ?_; intro v2 w2 hown2 hgrow2 hnil2 hblk2; have I2 : Hid (Own w.heap.size w2 v2 (X ++ [f]) ∧ Below w.heap.size w w2) := ⟨by rw [KX.out]; rw [Nat.zero_add, List.nil_append] at hown2; exact hown2, ((Below.refl _ _).alloc (Nat.le_refl _) _).grown hgrow2 (by simp) (fun k hk => by cases hk)⟩; clear hown2 hgrow2 hnil2 hblk2)
  go_loopg [5] (padN X.length) (fun k lv wr => ∃ j : Nat, k = padN X.length - j ∧ j ≤ padN X.length ∧ Own w.heap.size wr lv (X ++ f :: List.replicate j 0) ∧ Below w.heap.size w wr)
  case atStart => exact ⟨0, rfl, Nat.zero_le _, I2.out⟩
  case round =>
    clear I2
    obtain ⟨j, hk, hj, hown, hB⟩ := hrel
    obtain ⟨Z, kZ⟩ : ∃ Z, Z = X ++ f :: List.replicate j 0 := ⟨_, rfl⟩
    rw [← kZ] at hown
    have lZ : Z.length = X.length + 1 + j := by rw [kZ, List.length_append, List.length_cons, List.length_replicate]; omega
    obtain ⟨g, c, ev, hc⟩ := own_form hown (by omega)
    subst ev
    have HF : Hid (Own w.heap.size wr (.slice (some ⟨g, 0, none⟩) Z.length c) Z ∧ Below w.heap.size w wr ∧ Z = X ++ f :: List.replicate j 0 ∧ Z.length = X.length + 1 + j ∧ Z.length ≤ c ∧ gk = padN X.length - j ∧ j ≤ padN X.length) := ⟨hown, hB, kZ, lZ, hc, hk, hj⟩
    have zb : (Z.length : Int) < 140737488354001 := by have := HA.out.2; unfold padN at hj; omega
    clear hk hj hown hB kZ lZ hc
    by_cases h8 : j = padN X.length
    · have q2 : ((Z.length : Int) % 136 == 0) = true := beq_iff_eq.2 (by have := HF.out; unfold padN at h8; omega)
      have q3 : ((Z.length : Int) % 136 != 0) = false := by rw [bne, q2]; rfl
      have q4 : (Z.length : Int) % 136 = 0 := beq_iff_eq.1 q2
      have H8 : Hid (j = padN X.length) := h8
      clear h8 q4
      obtain ⟨m, em⟩ : ∃ m : Nat, (Z.length : Int) - 1 = (m : Int) := ⟨Z.length - 1, by have := HF.out; omega⟩
      have EM : Hid (m = X.length + padN X.length) := by have h : m = X.length + padN X.length := (by have := HF.out; have := H8.out; omega); exact h
      have m1 : m < Z.length := by omega
      have gz : wr.cell? ⟨g, m, none⟩ = some (.int .u8 (Y (Z.getD m 0))) := by
        rw [HF.out.1.row.cellAt m (by omega)]
        simp [byts, List.getD, m1]
      have fz := HF.out.1.row.frozenAt m
      obtain ⟨z, kz⟩ : ∃ z, z = Z.getD m 0 := ⟨_, rfl⟩
      rw [← kz] at gz
      have y128 : Y 128 = 128 := by rw [Y_eq]; rfl
      have yo : bits .or .u8 (Y z) 128 = Y (z ||| 128) := by rw [← y128]; exact Y_or z 128
      have FIN : Hid (Z.set m (z ||| 128) = fillL X f) := by
        rw [fillL, ← H8.out, ← HF.out.2.2.1, H8.out, ← EM.out, kz]
        exact rfl
      have KZ : Hid (z = Z.getD m 0) := kz
      clear kz y128
      go_wp2
      go_ret
      refine ⟨_, rfl, ?_, HF.out.2.1.setCell (HF.out.1.row.lt g rfl).1 _⟩
      rw [← FIN.out, Own, List.length_set, ← byts_set]
      exact (HF.out.1.row.stored m _).1
    · have q2 : ((Z.length : Int) % 136 == 0) = false := beq_eq_false_iff_ne.2 (by have := HF.out; unfold padN at *; omega)
      have q3 : ((Z.length : Int) % 136 != 0) = true := by rw [bne, q2]; rfl
      have HJ : Hid (j < padN X.length) := by have h : j < padN X.length := (by have := HF.out; omega); exact h
      have y0 : Hid (Y 0 = 0) := Y_zero
      clear h8
      go_wp2_with (at_builtin; refine wpList_append_own_at _ rfl _ _ 22 rfl w.heap.size 5 i0 (.int .u8 0) 1 1 Tryd.underlying22 HZ.out.1 HZ.out.2.1 HZ.out.2.2.1 HZ.out.2.2.2 rfl (by decide) (.slice (some ⟨g, 0, none⟩) Z.length c) _ _ rfl (HF.out.1.row.alloc _) ⟨wr.heap.size, 0, none⟩ 1 1 [.int .u8 0] rfl rfl (cell_one_new _ _ _) (fun u hu => by simp at hu; subst hu; rfl) (by unfold maxLen; have := HF.out; have := HA.out.2; unfold padN at *; omega) (by have := HF.out; have := HA.out.2; unfold padN at *; omega) (by have := HF.out.2.1.size; simp; omega) ?_; intro v3 w3 hown3 hgrow3 hnil3 hblk3; have I3 : Hid (Own w.heap.size w3 v3 (Z ++ [0]) ∧ Below w.heap.size w w3) := ⟨by rw [Own, List.length_append, ← byts_snoc, y0.out]; exact hown3, (HF.out.2.1.alloc HF.out.2.1.size _).grown hgrow3 (by have := HF.out.2.1.size; simp; omega) (fun k hk => (HF.out.1.row.lt k hk).1)⟩; clear hown3 hgrow3 hnil3 hblk3)
      go_roundg (padN X.length - (j + 1))
      case measure => have := HF.out; have := HJ.out; omega
      case rel =>
        refine ⟨j + 1, rfl, by have := HJ.out; omega, ?_, I3.out.2⟩
        have h := I3.out.1
        rw [HF.out.2.2.1, List.append_assoc, List.cons_append, ← List.replicate_succ'] at h
        exact h

set_option maxRecDepth 100000 in
set_option maxHeartbeats 4000000 in
theorem rdigest_of_big {av : Value} {X : List (BitVec 8)} (f : BitVec 8) (hl : X.length < 140737488353001) (w : World) (hfill : ∀ W, Below w.heap.size w W → Calls Tryd.prog 25 #[av, .int .u8 (Y f)] W fun e w' => ∃ v, e = .returned v ∧ Own W.heap.size w' v (fillL X f) ∧ Below W.heap.size W w') (ht : Tab w 3 turnsN) (hm : Lns w 0 marksN) :
    Calls Tryd.prog 19 #[av, .int .u8 (Y f)] w fun e w' => e = .returned (.agg (byts (hashL (absb (List.replicate 25 0) 0 (fillL X f)))).toArray) ∧ Below w.heap.size w w' := by
  have HH : Hid (Tab w 3 turnsN ∧ Lns w 0 marksN ∧ X.length < 140737488353001) := ⟨ht, hm, hl⟩
  have FI : Hid (∀ W, Below w.heap.size w W → Calls Tryd.prog 25 #[av, .int .u8 (Y f)] W fun e w' => ∃ v, e = .returned v ∧ Own W.heap.size w' v (fillL X f) ∧ Below W.heap.size W w') := hfill
  clear ht hm hl hfill
  go_enter Tryd.func19, Tryd.ntmps19
  go_wp2_with fail
  refine calls_world (fun W => Below w.heap.size w W ∧ Hsh W w.heap.size (List.replicate 32 0)) ⟨(Below.refl _ _).alloc (Nat.le_refl _) _, Hsh.zeros _ rfl⟩ ?_
  rintro W1 ⟨B1, hR1⟩
  refine (FI.out _ B1).mono ?_
  rintro e w2 ⟨v, rfl, hown, hb⟩
  obtain ⟨Fl, kF⟩ : ∃ Fl, Fl = fillL X f := ⟨_, rfl⟩
  rw [← kF] at hown
  have lF : Fl.length = X.length + padN X.length + 1 := by rw [kF, fill_len]
  obtain ⟨g, c, ev, hc⟩ := own_form hown (by omega)
  subst ev
  have I2 : Hid (Below w.heap.size w w2 ∧ Hsh w2 w.heap.size (List.replicate 32 0) ∧ Byo w2 g 0 Fl ∧ g < w2.heap.size ∧ w.heap.size < g + 1 ∧ g ≠ w.heap.size) := by
    have hg := hown.row.lt g rfl
    refine ⟨B1.trans (hb.mono B1.size), hR1.keep hb, fun i hi => ?_, hg.2, by have := B1.size; omega, by have := hR1.lt; omega⟩
    rw [Nat.zero_add, hown.row.cellAt i (by omega)]
    simp [byts, List.getD, hi]
  have HF : Hid (Fl = fillL X f ∧ Fl.length = X.length + padN X.length + 1 ∧ X.length < 140737488353001) := ⟨kF, lF, HH.out.2.2⟩
  obtain ⟨Q, hQ⟩ : ∃ Q, Fl.length = 136 * Q := ⟨(X.length + padN X.length + 1) / 136, by rw [lF]; unfold padN; omega⟩
  have HQ : Hid (Fl.length = 136 * Q) := hQ
  have fb : (Fl.length : Int) < 140737488354001 := by have := HF.out; unfold padN at lF; omega
  clear kF lF hown hb hc B1 hR1 hQ W1
  go_wp2_with fail
  refine wp_world (fun W => Below w.heap.size w W ∧ Hsh W w.heap.size (List.replicate 32 0) ∧ Byo W g 0 Fl ∧ Arr W w2.heap.size (List.replicate 25 0)) ⟨I2.out.1.alloc I2.out.1.size _, I2.out.2.1.alloc _, I2.out.2.2.1.keep ((Below.refl _ _).alloc (Nat.le_refl _) _), Arr.zeros25 rfl⟩ ?_
  rintro W3 hh
  have I3 : Hid (Below w.heap.size w W3 ∧ Hsh W3 w.heap.size (List.replicate 32 0) ∧ Byo W3 g 0 Fl ∧ Arr W3 w2.heap.size (List.replicate 25 0)) := hh
  have NN : Hid (w2.heap.size ≠ w.heap.size ∧ w2.heap.size ≠ g ∧ w.heap.size ≤ w2.heap.size) := ⟨by have := I2.out.2.1.lt; omega, by have := I2.out.2.2.2.1; omega, I2.out.1.size⟩
  clear hh I2
  generalize w2.heap.size = ba at *
  go_loopg [7] Q (fun k iv wr => ∃ q : Nat, k = Q - q ∧ q ≤ Q ∧ iv = .int .i64 ((136 * q : Nat) : Int) ∧ Below w.heap.size w wr ∧ Hsh wr w.heap.size (List.replicate 32 0) ∧ Byo wr g 0 Fl ∧ Arr wr ba (absb (List.replicate 25 0) 0 (Fl.take (136 * q))))
  case atStart => exact ⟨0, rfl, Nat.zero_le _, rfl, I3.out⟩
  case round =>
    clear I3
    obtain ⟨q, hk, hq, rfl, hf⟩ := hrel
    have HK : Hid (gk = Q - q ∧ q ≤ Q) := ⟨hk, hq⟩
    have HI : Hid (Below w.heap.size w wr ∧ Hsh wr w.heap.size (List.replicate 32 0) ∧ Byo wr g 0 Fl ∧ Arr wr ba (absb (List.replicate 25 0) 0 (Fl.take (136 * q)))) := hf
    clear hk hq hf
    by_cases h8 : q = Q
    · subst h8
      obtain ⟨D, kD⟩ : ∃ D, D = absb (List.replicate 25 0) 0 (fillL X f) := ⟨_, rfl⟩
      have I5 : Hid (Below w.heap.size w wr ∧ Hsh wr w.heap.size (List.replicate 32 0) ∧ Arr wr ba D) := by
        have h := HI.out
        rw [List.take_of_length_le (by rw [HQ.out]; exact Nat.le_refl _), HF.out.1, ← kD] at h
        exact ⟨h.1, h.2.1, h.2.2.2⟩
      have KD : Hid (D = absb (List.replicate 25 0) 0 (fillL X f)) := kD
      have e5 : 136 * (q : Int) = (Fl.length : Int) := by have := HQ.out; omega
      clear kD HI
      go_wp2_with fail
      refine wp_world (fun W => Below w.heap.size w W ∧ Hsh W w.heap.size (List.replicate 32 0) ∧ Arr W ba D ∧ Hsh W wr.heap.size (List.replicate 32 0)) ⟨I5.out.1.alloc I5.out.1.size _, I5.out.2.1.alloc _, I5.out.2.2.alloc _, Hsh.zeros _ rfl⟩ ?_
      rintro W6 hh
      have I6 : Hid (Below w.heap.size w W6 ∧ Hsh W6 w.heap.size (List.replicate 32 0) ∧ Arr W6 ba D ∧ Hsh W6 wr.heap.size (List.replicate 32 0)) := hh
      have N6 : Hid (wr.heap.size ≠ w.heap.size ∧ wr.heap.size ≠ ba ∧ w.heap.size ≤ wr.heap.size) := ⟨by have := I5.out.2.1.lt; omega, by have := I5.out.2.2.lt; omega, I5.out.1.size⟩
      clear hh I5 e5
      generalize wr.heap.size = bh at *
      go_loopg [10] 32 (fun k iv wr => ∃ (i : Nat) (M : List (BitVec 8)), k = 32 - i ∧ i ≤ 32 ∧ iv = .int .i64 i ∧ (∀ t, t < i → M.getD t 0 = down (D.getD (t / 8) 0) (t % 8 * 8)) ∧ Below w.heap.size w wr ∧ Hsh wr w.heap.size (List.replicate 32 0) ∧ Arr wr ba D ∧ Hsh wr bh M)
      case atStart => exact ⟨0, _, rfl, by decide, rfl, fun t h => absurd h (Nat.not_lt_zero _), I6.out⟩
      case round =>
        clear I6
        obtain ⟨i, M, hk, hi, rfl, up, hf⟩ := hrel
        have HK3 : Hid (gk = 32 - i) := hk
        have HI : Hid (Below w.heap.size w wr ∧ Hsh wr w.heap.size (List.replicate 32 0) ∧ Arr wr ba D ∧ Hsh wr bh M) := hf
        have UP : Hid (∀ t, t < i → M.getD t 0 = down (D.getD (t / 8) 0) (t % 8 * 8)) := up
        clear hk hf up
        by_cases h8 : i = 32
        · subst h8
          have EL : Hid (M = hashL (absb (List.replicate 25 0) 0 (fillL X f))) := by rw [← KD.out]; exact hash_ext HI.out.2.2.2.1 UP.out
          have rb := HI.out.2.2.2.range
          have sz : ((byts M).toArray).size = 32 := by simp [byts_len, HI.out.2.2.2.1]
          have tr : wr.there w.heap.size 0 ((byts M).toArray).size := by rw [sz]; exact HI.out.2.1.there
          have oc := one_byts M
          generalize hM : byts M = N at *
          have HM : Hid (N.length = 32) := by rw [← hM, byts_len]; exact HI.out.2.2.2.1
          go_wp2_with (first | refine wpList_load_mid rfl 27 _ rfl bh 0 rfl N _ rb Tryd.underlying27 rfl (by rw [HM.out]; kernel_rfl) ?_ | refine wpList_store_mid rfl 27 _ _ rfl w.heap.size 0 _ rfl rfl tr (by rw [sz]; kernel_rfl) oc ?_)
          have ld := run_loadVar_mid (P := Tryd.prog) (wr.setCells w.heap.size 0 N) w.heap.size 0 27 N _ (World.rangeAt_setCells_same _ _ _ _ (by simpa using tr)) Tryd.underlying27 rfl (by rw [HM.out]; kernel_rfl)
          refine bodyPost_ret (v := .agg N.toArray) ?_ rfl ⟨by rw [← hM, EL.out], below_setCells (Nat.le_refl _) N 0 wr HI.out.1⟩
          simp [results, Tryd.results19, Act.put, asAddr, ld]
        · have hi' : (i : Int) < 32 := by omega
          have e1 : ((i : Int) / 8).toNat = i / 8 := by omega
          have e2 : (8 * ((i : Int) % 8)).toNat = 8 * (i % 8) := by omega
          have gc := HI.out.2.2.1.2.1 (i / 8) (by rw [HI.out.2.2.1.1]; omega)
          have gs := HI.out.2.2.2.2.1 i (by omega)
          have fs := HI.out.2.2.2.2.2 i (by omega)
          obtain ⟨z, kz⟩ : ∃ z, z = D.getD (i / 8) 0 := ⟨_, rfl⟩
          rw [← kz] at gc
          have KZ : Hid (down z (8 * (i % 8)) = down (D.getD (i / 8) 0) (i % 8 * 8)) := by rw [kz, Nat.mul_comm 8]; exact rfl
          clear kz
          have v0 := V_lo z; have v1 := V_hi z
          have vd := Y_down z (8 * (i % 8))
          go_wp2
          go_roundg (32 - (i + 1))
          case measure => have := HK3.out; omega
          case rel =>
            refine ⟨i + 1, M.set i (down z (8 * (i % 8))), rfl, by omega, by go_num, fun t ht => ?_, HI.out.1.setCell N6.out.2.2 _, HI.out.2.1.other N6.out.1 _, HI.out.2.2.1.other N6.out.2.1 _, HI.out.2.2.2.set i (by omega) _⟩
            by_cases e : t = i
            · subst e; rw [← KZ.out]; simp [List.getD, HI.out.2.2.2.1, show t < 32 by omega]
            · rw [← UP.out t (by omega)]; simp [List.getD, List.getElem?_set_ne (Ne.symm e)]
    · have hlt : 136 * q < Fl.length := by have := HQ.out; have := HK.out; omega
      obtain ⟨A, kA⟩ : ∃ A, A = absb (List.replicate 25 0) 0 (Fl.take (136 * q)) := ⟨_, rfl⟩
      obtain ⟨Bk, kB⟩ : ∃ Bk, Bk = (Fl.drop (136 * q)).take 136 := ⟨_, rfl⟩
      have lB : Hid (Bk.length = 136 ∧ 136 * q + 136 ≤ Fl.length ∧ 136 * q < Fl.length) := by
        have h1 : 136 * q + 136 ≤ Fl.length := by have := HQ.out; have := HK.out; omega
        exact ⟨by rw [kB, List.length_take, List.length_drop]; omega, h1, hlt⟩
      have FIN : Hid (absb (List.replicate 25 0) 0 (Fl.take (136 * (q + 1))) = perm (mixs A 0 Bk)) := by
        rw [show 136 * (q + 1) = 136 * q + 136 by omega, List.take_add, absb_app, ← kA, ← kB, List.length_take, Nat.min_eq_left (by omega), Nat.zero_add, absb_piece _ _ _ (by rw [lB.out.1]; decide) (by rw [lB.out.1]; omega), lB.out.1, turn, if_pos (by omega), show 136 * q % 136 = 0 by omega]
        exact rfl
      have I5 : Hid (Below w.heap.size w wr ∧ Hsh wr w.heap.size (List.replicate 32 0) ∧ Byo wr g 0 Fl ∧ Arr wr ba A) := by rw [kA]; exact HI.out
      have BF : Hid (∀ k, k < 136 → Bk.getD k 0 = Fl.getD (136 * q + k) 0) := by
        intro k hk
        rw [kB]
        simp [List.getD, hk]
      clear kA kB HI h8
      have hlt' : 136 * (q : Int) < (Fl.length : Int) := by omega
      go_wp2_with fail
      go_loopg [8] 136 (fun k iv wr => ∃ i : Nat, k = 136 - i ∧ i ≤ 136 ∧ iv = .int .i64 i ∧ Below w.heap.size w wr ∧ Hsh wr w.heap.size (List.replicate 32 0) ∧ Byo wr g 0 Fl ∧ Arr wr ba (mixs A 0 (Bk.take i)))
      case atStart => exact ⟨0, rfl, by decide, rfl, I5.out⟩
      case round =>
        clear I5
        obtain ⟨i, hk, hi, rfl, hf⟩ := hrel
        have HK2 : Hid (gk = 136 - i) := hk
        have HI : Hid (Below w.heap.size w wr ∧ Hsh wr w.heap.size (List.replicate 32 0) ∧ Byo wr g 0 Fl ∧ Arr wr ba (mixs A 0 (Bk.take i))) := hf
        clear hk hf
        by_cases h9 : i = 136
        · subst h9
          obtain ⟨C, kC⟩ : ∃ C, C = mixs A 0 Bk := ⟨_, rfl⟩
          have I6 : Hid (Below w.heap.size w wr ∧ Hsh wr w.heap.size (List.replicate 32 0) ∧ Byo wr g 0 Fl ∧ Arr wr ba C) := by
            have h := HI.out
            rw [List.take_of_length_le (by rw [lB.out.1]; exact Nat.le_refl _), ← kC] at h
            exact h
          have FIN2 : Hid (absb (List.replicate 25 0) 0 (Fl.take (136 * (q + 1))) = perm C) := by rw [FIN.out, kC]; exact rfl
          clear kC HI FIN BF
          have HM : Hid ((lanes C).length = 25) := by rw [lanes_len]; exact I6.out.2.2.2.1
          have rb := I6.out.2.2.2.2.1.range
          go_wp2_with (refine wpList_load_mid rfl 47 _ rfl ba 0 rfl (lanes C) _ rb Tryd.underlying47 rfl (by rw [HM.out]; kernel_rfl) ?_)
          refine (rperm_any I6.out.2.2.2.1 _ (HH.out.1.keep I6.out.1) (HH.out.2.1.keep I6.out.1)).mono ?_
          rintro e w5 ⟨rfl, hb⟩
          have I7 : Hid (Below w.heap.size w w5 ∧ Hsh w5 w.heap.size (List.replicate 32 0) ∧ Byo w5 g 0 Fl ∧ Arr w5 ba C) := ⟨I6.out.1.trans (hb.mono I6.out.1.size), I6.out.2.1.keep hb, I6.out.2.2.1.keep hb, I6.out.2.2.2.keep hb⟩
          obtain ⟨P, kP⟩ : ∃ P, P = perm C := ⟨_, rfl⟩
          have lP : Hid (P.length = 25) := by rw [kP]; exact perm_len I6.out.2.2.2.1
          rw [← kP]
          have KP : Hid (P = perm C) := kP
          clear hb I6 rb HM kP
          have sz := lanes_size lP.out
          have tr : w5.there ba 0 ((lanes P).toArray).size := by rw [sz]; exact I7.out.2.2.2.there
          have oc := one_lanes P
          have qb : 136 * (q : Int) + 136 ≤ (Fl.length : Int) := by have := lB.out; omega
          go_wp2_with (refine wpList_store_mid rfl 47 _ _ rfl ba 0 _ rfl rfl tr (by rw [sz]; kernel_rfl) oc ?_)
          go_roundg (Q - (q + 1))
          case measure => have := HK.out; have := HQ.out; have := lB.out; omega
          case rel =>
            refine ⟨q + 1, rfl, by have := HK.out; have := HQ.out; have := lB.out; omega, by go_num, below_setCells NN.out.2.2 _ 0 _ I7.out.1, I7.out.2.1.otherCells NN.out.1 _, I7.out.2.2.1.farCells NN.out.2.1 _, ?_⟩
            rw [FIN2.out, ← KP.out]
            exact I7.out.2.2.2.stored lP.out
        · have hi' : (i : Int) < 136 := by omega
          have ii : i < 136 := by omega
          obtain ⟨C, kC⟩ : ∃ C, C = mixs A 0 (Bk.take i) := ⟨_, rfl⟩
          have I6 : Hid (Below w.heap.size w wr ∧ Hsh wr w.heap.size (List.replicate 32 0) ∧ Byo wr g 0 Fl ∧ Arr wr ba C) := by rw [kC]; exact HI.out
          obtain ⟨y, ky⟩ : ∃ y, y = Fl.getD (136 * q + i) 0 := ⟨_, rfl⟩
          have NX : Hid (mixs A 0 (Bk.take (i + 1)) = mixL C i y) := by rw [mixs_next (by rw [lB.out.1]; exact ii), ← kC, Nat.zero_add, BF.out i ii, ky]; exact rfl
          have gy : wr.cell? ⟨g, 136 * q + i, none⟩ = some (.int .u8 (Y y)) := by
            have h := I6.out.2.2.1 (136 * q + i) (by have := lB.out; omega)
            rw [Nat.zero_add] at h
            rw [ky]; exact h
          have gc := I6.out.2.2.2.2.1 (i / 8) (by rw [I6.out.2.2.2.1]; omega)
          have fc := I6.out.2.2.2.2.2 (i / 8) (by omega)
          obtain ⟨z, kz⟩ : ∃ z, z = C.getD (i / 8) 0 := ⟨_, rfl⟩
          rw [← kz] at gc
          have ML : Hid (mixL C i y = C.set (i / 8) (z ^^^ up y (8 * (i % 8)))) := by rw [mixL, kz, Nat.mul_comm 8]; exact rfl
          have j1 : 136 * q + i < Fl.length := by have := lB.out; omega
          have y0 := Y_lo y; have y1 := Y_hi y
          have e1 : ((i : Int) / 8).toNat = i / 8 := by omega
          have e2 : (8 * ((i : Int) % 8)).toNat = 8 * (i % 8) := by omega
          have e3 : (136 * (q : Int) + (i : Int)).toNat = 136 * q + i := by omega
          have qb : (136 * (q : Int) + (i : Int)) < (Fl.length : Int) := by omega
          have v1 := V_up y (8 * (i % 8))
          have v2 := V_xor z (up y (8 * (i % 8)))
          clear kC ky kz HI
          go_wp2_with fail
          refine region_tail 20 (by kernel_rfl) (by kernel_rfl) ?_
          simp only [List.take_succ_cons, List.take_zero, List.drop_succ_cons, List.drop_zero]
          repeat (first | go_big_quiet_skip | (go_big_quiet_want; go_big_quiet_op; go_big_quiet_on))
          refine wpQuiet_nil ?_
          go_wp2
          go_roundg (136 - (i + 1))
          case measure => have := HK2.out; omega
          case rel =>
            refine ⟨i + 1, rfl, by omega, by go_num, I6.out.1.drew.setCell NN.out.2.2 _, I6.out.2.1.drew.other NN.out.1 _, I6.out.2.2.1.drew.far NN.out.2.1, ?_⟩
            rw [NX.out, ML.out]
            exact I6.out.2.2.2.drew.set (i / 8) (by omega) _

/-- The document's Digest, with the filling's first byte, of a slice: where there are bytes, it says where they lie. -/
theorem rdigest_any_big {a : Option Addr} {bd od cd : Nat} {X : List (BitVec 8)} {n : Int} (k : Int) (hn : Y (fstB k) = n) (hl : X.length < 140737488353001) (ha : At a bd od X) (hnil : a = none → cd = 0) (w : World) (hX : Byo w bd od X) (ht : Tab w 3 turnsN) (hm : Lns w 0 marksN) :
    Calls Tryd.prog 19 #[.slice a X.length cd, .int .u8 n] w fun e w' => e = .returned (digV k X) ∧ Below w.heap.size w w' := by
  subst hn
  have e : digV k X = .agg (byts (hashL (absb (List.replicate 25 0) 0 (fillL X (fstB k))))).toArray := by
    rw [fill_fin (absb_len (by simp)) k X rfl]
    rfl
  rw [e]
  cases a with
  | none =>
    have hx : X = [] := by
      rcases ha with h | h
      · exact h
      · cases h
    subst hx
    rw [hnil rfl]
    exact rdigest_of_big (fstB k) hl w (fun W _ => filled_none_big (fstB k) W) ht hm
  | some ad =>
    refine rdigest_of_big (fstB k) hl w (fun W hW => filled_some_big (fstB k) hl (bd := bd) (od := od) ?_ W (hX.keep hW)) ht hm
    rcases ha with h | h
    · exact .inl h
    · exact .inr (Option.some.inj h)

set_option maxHeartbeats 4000000 in
theorem joined_any_big {a : Option Addr} {bp op cp : Nat} {PS : List Part} (hs : (catX PS).length < 140737488353001) (hn : PS.length ≤ 140737488353001) (ha : PS = [] ∨ a = some ⟨bp, op, none⟩) (hz : ∀ p ∈ PS, p.a = none → p.c = 0) (w : World) (hP : Prts w bp op PS) :
    Calls Tryd.prog 20 #[.slice a PS.length cp] w fun e w' => ∃ v, e = .returned v ∧ Own w.heap.size w' v (catX PS) ∧ Below w.heap.size w w' := by
  obtain ⟨i0, hi, hz0, hz1, hz2⟩ := info_parts info_byte
  have HZ : Hid (Tryd.prog.info? 5 = some i0 ∧ i0.zero = some (.int .u8 0) ∧ i0.size = 1 ∧ i0.bytes = 1) := ⟨hi, hz0, hz1, hz2⟩
  have HA : Hid (Prts w bp op PS ∧ (PS = [] ∨ a = some ⟨bp, op, none⟩) ∧ (catX PS).length < 140737488353001 ∧ (∀ p ∈ PS, p.a = none → p.c = 0)) := ⟨hP, ha, hs, hz⟩
  have nb : (PS.length : Int) ≤ 140737488353001 := by omega
  clear hP ha hs hi hz0 hz1 hz2 hn hz
  go_enter Tryd.func20, Tryd.ntmps20
  go_wp2_with fail
  go_loopg [3, 4] PS.length (fun k lv iv wr => ∃ i : Nat, k = PS.length - i ∧ i ≤ PS.length ∧ iv = .int .i64 i ∧ Own w.heap.size wr lv (catX (PS.take i)) ∧ Below w.heap.size w wr)
  case atStart => exact ⟨0, rfl, Nat.zero_le _, rfl, ⟨by simp [byts, catX], .inl ⟨rfl, by simp [catX]⟩⟩, Below.refl _ _⟩
  case round =>
    obtain ⟨i, hk, hi9, rfl, hown, hB⟩ := hrel
    have HK : Hid (gk = PS.length - i) := hk
    have HF : Hid (Own w.heap.size wr u3 (catX (PS.take i)) ∧ Below w.heap.size w wr) := ⟨hown, hB⟩
    clear hk hown hB
    by_cases h8 : i = PS.length
    · subst h8
      have HR : Hid (PS.take PS.length = PS) := List.take_length
      go_wp2
      go_ret
      exact ⟨_, rfl, by have h := HF.out.1; rw [HR.out] at h; exact h, HF.out.2⟩
    · have hlt : i < PS.length := by omega
      have hib : (i : Int) < 140737488353001 := by omega
      have ea : a = some ⟨bp, op, none⟩ := by
        rcases HA.out.2.1 with h | h
        · rw [h] at hlt; simp at hlt
        · exact h
      subst ea
      obtain ⟨p, kp⟩ : ∃ p, p = PS.getD i .none := ⟨_, rfl⟩
      have hm : p ∈ PS := by rw [kp, List.getD, List.getElem?_eq_getElem hlt]; exact List.getElem_mem hlt
      have g0 : wr.cell? ⟨bp, op + i, none⟩ = some (.slice p.a p.X.length p.c) := by
        have h := (HA.out.1 i hlt).1
        rw [HF.out.2.cell (p := ⟨bp, op + i, none⟩) (World.block_lt_of_cell? w _ h), h, ← kp]
        rfl
      have OK : Hid (At p.a p.b p.o p.X ∧ Byo wr p.b p.o p.X ∧ (p.a = none → p.c = 0)) := by
        have h := (HA.out.1 i hlt).2
        rw [← kp] at h
        exact ⟨h.1, fun j hj => by rw [HF.out.2.cell (p := ⟨p.b, p.o + j, none⟩) (World.block_lt_of_cell? w _ (h.2.2 j hj))]; exact h.2.2 j hj, HA.out.2.2.2 p hm⟩
      have NX : Hid (catX (PS.take (i + 1)) = catX (PS.take i) ++ p.X) := by rw [kp]; exact catX_next hlt
      have LN : Hid ((catX (PS.take i)).length + p.X.length < 140737488353001) := by
        have h1 := catX_le (PS := PS) (i + 1)
        rw [NX.out, List.length_append] at h1
        have := HA.out.2.2.1
        have h : (catX (PS.take i)).length + p.X.length < 140737488353001 := by omega
        exact h
      clear kp hm
      obtain ⟨pa, pb, po, pc, pX⟩ := p
      cases pa with
      | none =>
        have e0 : pX = [] := by
          rcases OK.out.1 with h | h
          · exact h
          · cases h
        have e1 : pc = 0 := OK.out.2.2 rfl
        subst e0
        subst e1
        have NX2 : Hid (catX (PS.take (i + 1)) = catX (PS.take i)) := by rw [NX.out]; exact List.append_nil _
        clear NX
        dsimp only [List.length_nil] at g0
        have HF2 := HF
        obtain ⟨C, kC⟩ : ∃ C, C = catX (PS.take i) := ⟨_, rfl⟩
        rw [← kC] at HF NX2 LN
        clear kC HF2
        have e : u3 = .slice none 0 0 ∨ ∃ g c, u3 = .slice (some ⟨g, 0, none⟩) C.length c ∧ C.length ≤ c := by
          rcases HF.out.1.2 with ⟨e, _⟩ | ⟨g, cap, _, e, _, _, hle, _⟩
          · exact .inl e
          · exact .inr ⟨g, cap, e, hle⟩
        rcases e with rfl | ⟨g, c, rfl, hc⟩
        · go_wp2
          go_roundg (PS.length - (i + 1))
          case measure => have := HK.out; omega
          case rel => exact ⟨i + 1, rfl, by omega, by go_num, by rw [NX2.out]; exact HF.out.1, HF.out.2⟩
        · go_wp2
          go_roundg (PS.length - (i + 1))
          case measure => have := HK.out; omega
          case rel => exact ⟨i + 1, rfl, by omega, by go_num, by rw [NX2.out]; exact HF.out.1, HF.out.2⟩
      | some ad =>
        have nw : Hid (∀ j u, (byts pX)[j]? = some u → wr.cell? (ad.add j) = some u) := by
          intro j u hu
          unfold byts at hu
          rw [List.getElem?_map] at hu
          obtain ⟨x, hx, rfl⟩ := Option.map_eq_some_iff.1 hu
          have hj : j < pX.length := (List.getElem?_eq_some_iff.1 hx).1
          rcases OK.out.1 with h | h
          · have h' : pX = [] := h
            rw [h'] at hj; simp at hj
          · have h' : ad = ⟨pb, po, none⟩ := Option.some.inj h
            have hc := OK.out.2.1 j hj
            rw [h', Addr.add_mid, hc]
            simp [List.getD, hx]
        dsimp only at g0 NX LN
        go_wp2_with (at_builtin; refine wpList_append_own_at _ rfl _ _ 22 rfl w.heap.size 5 i0 (.int .u8 0) 1 1 Tryd.underlying22 HZ.out.1 HZ.out.2.1 HZ.out.2.2.1 HZ.out.2.2.2 rfl (by decide) u3 _ _ rfl HF.out.1.row ad pX.length pc (byts pX) rfl (by rw [byts_len, Nat.mul_one]) nw.out (fun u hu => by obtain ⟨x, _, rfl⟩ := List.mem_map.1 hu; rfl) (by unfold maxLen; have := LN.out; omega) (by have := LN.out; omega) HF.out.2.size ?_; intro v' w3 hown3 hgrow3 hnil3 hblk3; have I3 : Hid (Own w.heap.size w3 v' (catX (PS.take i) ++ pX) ∧ Below w.heap.size w w3) := ⟨by rw [Own, List.length_append]; rw [show byts (catX (PS.take i) ++ pX) = byts (catX (PS.take i)) ++ byts pX from List.map_append]; exact hown3, HF.out.2.grown hgrow3 HF.out.2.size (fun k hk => (HF.out.1.row.lt k hk).1)⟩; clear hown3 hgrow3 hnil3 hblk3)
        go_roundg (PS.length - (i + 1))
        case measure => have := HK.out; omega
        case rel => exact ⟨i + 1, rfl, by omega, by go_num, by rw [NX.out]; exact I3.out.1, I3.out.2⟩

set_option maxHeartbeats 4000000 in
theorem rsum_any_big {a : Option Addr} {bp op cp : Nat} {PS : List Part} (hs : (catX PS).length < 140737488353001) (hn : PS.length ≤ 140737488353001) (ha : PS = [] ∨ a = some ⟨bp, op, none⟩) (hz : ∀ p ∈ PS, p.a = none → p.c = 0) (w : World) (hP : Prts w bp op PS) (ht : Tab w 3 turnsN) (hm : Lns w 0 marksN) :
    Calls Tryd.prog 15 #[.slice a PS.length cp] w fun e w' => e = .returned (digV 0 (catX PS)) ∧ Below w.heap.size w w' := by
  have HH : Hid (Prts w bp op PS ∧ Tab w 3 turnsN ∧ Lns w 0 marksN) := ⟨hP, ht, hm⟩
  have HC : Hid ((catX PS).length < 140737488353001 ∧ PS.length ≤ 140737488353001 ∧ (PS = [] ∨ a = some ⟨bp, op, none⟩) ∧ (∀ p ∈ PS, p.a = none → p.c = 0)) := ⟨hs, hn, ha, hz⟩
  clear hP ht hm hs ha hn hz
  go_enter Tryd.func15, Tryd.ntmps15
  go_wp2_with fail
  refine calls_world (fun W => Below w.heap.size w W ∧ Hsh W w.heap.size (List.replicate 32 0)) ⟨(Below.refl _ _).alloc (Nat.le_refl _) _, Hsh.zeros _ rfl⟩ ?_
  rintro W ⟨B, hR⟩
  have PP : Prts W bp op PS := fun i hi => by
    obtain ⟨h1, h2, h3, h4⟩ := HH.out.1 i hi
    exact ⟨by rw [B.cell (p := ⟨bp, op + i, none⟩) (World.block_lt_of_cell? w _ h1)]; exact h1, h2, h3, fun j hj => by rw [B.cell (World.block_lt_of_cell? w _ (h4 j hj))]; exact h4 j hj⟩
  refine (joined_any_big HC.out.1 HC.out.2.1 HC.out.2.2.1 HC.out.2.2.2 _ PP).mono ?_
  rintro e w5 ⟨v, rfl, ho, hb⟩
  obtain ⟨a2, g, c, rfl, hat, hc0, hby⟩ := own_arg ho
  have H5 : Hid (Below w.heap.size w w5 ∧ Hsh w5 w.heap.size (List.replicate 32 0) ∧ At a2 g 0 (catX PS) ∧ (a2 = none → c = 0) ∧ Byo w5 g 0 (catX PS)) := ⟨B.trans (hb.mono B.size), hR.keep hb, hat, hc0, hby⟩
  clear hb B hR PP ho hat hc0 hby
  go_wp2_with fail
  refine (rdigest_any_big 0 (by rw [Y_eq]; rfl) HC.out.1 H5.out.2.2.1 H5.out.2.2.2.1 _ H5.out.2.2.2.2 (HH.out.2.1.keep H5.out.1) (HH.out.2.2.keep H5.out.1)).mono ?_
  rintro e w6 ⟨rfl, hb⟩
  have H6 : Hid (Below w.heap.size w w6 ∧ Hsh w6 w.heap.size (List.replicate 32 0)) := ⟨H5.out.1.trans (hb.mono H5.out.1.size), H5.out.2.1.keep hb⟩
  clear hb H5
  rw [digV]
  have oc := one_byts (hashL (finL 0 (absb (List.replicate 25 0) 0 (catX PS)) (catX PS).length))
  have lN : (byts (hashL (finL 0 (absb (List.replicate 25 0) 0 (catX PS)) (catX PS).length))).length = 32 := by rw [byts_len, hashL_len]
  generalize hN : byts (hashL (finL 0 (absb (List.replicate 25 0) 0 (catX PS)) (catX PS).length)) = N at *
  have EN : Hid (byts (hashL (finL 0 (absb (List.replicate 25 0) 0 (catX PS)) (catX PS).length)) = N) := hN
  clear hN
  have sz : (N.toArray).size = 32 := by simp [lN]
  have tr : w6.there w.heap.size 0 (N.toArray).size := by rw [sz]; exact H6.out.2.there
  have HN : Hid (N.length = 32) := lN
  clear lN
  go_wp2_with (refine wpList_store_mid rfl 27 _ _ rfl w.heap.size 0 _ rfl rfl tr (by rw [sz]; kernel_rfl) oc ?_)
  have ld := run_loadVar_mid (P := Tryd.prog) (w6.setCells w.heap.size 0 N) w.heap.size 0 27 N _ (World.rangeAt_setCells_same _ _ _ _ (by simpa using tr)) Tryd.underlying27 rfl (by rw [HN.out]; kernel_rfl)
  refine bodyPost_ret (v := .agg N.toArray) ?_ rfl ⟨by rw [digV, EN.out], below_setCells (Nat.le_refl _) N 0 w6 H6.out.1⟩
  simp [results, Tryd.results15, Act.put, asAddr, ld]
end Go.Proofs.YtmhcgjkemlcgoaaDoor.K

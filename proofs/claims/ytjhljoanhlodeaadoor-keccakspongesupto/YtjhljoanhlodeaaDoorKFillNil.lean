import Derived.Test.YtjhljoanhlodeaaDoorKFilled
namespace Go.Proofs.YtjhljoanhlodeaaDoor
open Go.RowKit Go.Sort

set_option maxHeartbeats 4000000 in
theorem filled_none (f : BitVec 8) (w : World) :
    Calls Tryd.prog 27 #[.slice none 0 0, .int .u8 (Y f)] w fun e w' => ∃ v, e = .returned v ∧ Own w.heap.size w' v (fillL [] f) ∧ Below w.heap.size w w' := by
  obtain ⟨X, kX⟩ : ∃ X : List (BitVec 8), X = [] := ⟨_, rfl⟩
  have KX : Hid (X = []) := kX
  rw [← kX]
  have x0 : X.length = 0 := by rw [kX]; rfl
  have X0 : Hid (X.length = 0) := x0
  clear kX x0
  obtain ⟨i0, hi, hz0, hz1, hz2⟩ := info_parts info_byte
  have HZ : Hid (Tryd.prog.info? 5 = some i0 ∧ i0.zero = some (.int .u8 0) ∧ i0.size = 1 ∧ i0.bytes = 1) := ⟨hi, hz0, hz1, hz2⟩
  have HA : Hid (True ∧ X.length < 1073741824) := ⟨trivial, by rw [X0.out]; decide⟩
  clear hi hz0 hz1 hz2
  go_enter Tryd.func27, Tryd.ntmps27
  go_wp2_with (at_builtin; refine wpList_append_own_at _ rfl _ _ 30 rfl w.heap.size 5 i0 (.int .u8 0) 1 1 Tryd.underlying30 HZ.out.1 HZ.out.2.1 HZ.out.2.2.1 HZ.out.2.2.2 rfl (by decide) (.slice none 0 0) 0 [] rfl (World.ownsRow_nil _ _ _ _) ⟨w.heap.size, 0, none⟩ 1 1 [.int .u8 (Y f)] rfl rfl (cell_one_new _ _ _) (fun u hu => by simp at hu; subst hu; rfl) (by unfold maxLen; omega) (by omega) (by simp) ?_; intro v2 w2 hown2 hgrow2 hnil2 hblk2; have I2 : Hid (Own w.heap.size w2 v2 (X ++ [f]) ∧ Below w.heap.size w w2) := ⟨by rw [KX.out]; rw [Nat.zero_add, List.nil_append] at hown2; exact hown2, ((Below.refl _ _).alloc (Nat.le_refl _) _).grown hgrow2 (by simp) (fun k hk => by cases hk)⟩; clear hown2 hgrow2 hnil2 hblk2)
  go_loopg [5] (padN X.length) (fun k lv wr => ∃ j : Nat, k = padN X.length - j ∧ j ≤ padN X.length ∧ Own w.heap.size wr lv (X ++ f :: List.replicate j 0) ∧ Below w.heap.size w wr)
  case atStart => exact ⟨0, rfl, Nat.zero_le _, I2.out⟩
  case round =>
    clear I2
    obtain ⟨j, hk, hj, hown, hB⟩ := hrel
    obtain ⟨Z, kZ⟩ : ∃ Z, Z = X ++ f :: List.replicate j 0 := ⟨_, rfl⟩
    rw [← kZ] at hown
    have lZ : Z.length = X.length + 1 + j := by rw [kZ, List.length_append, List.length_cons, List.length_replicate]; omega
    obtain ⟨g, c, ev, hc⟩ := own_form hown (by omega)
    subst ev
    have HF : Hid (Own w.heap.size wr (.slice (some ⟨g, 0, none⟩) Z.length c) Z ∧ Below w.heap.size w wr ∧ Z = X ++ f :: List.replicate j 0 ∧ Z.length = X.length + 1 + j ∧ Z.length ≤ c ∧ gk = padN X.length - j ∧ j ≤ padN X.length) := ⟨hown, hB, kZ, lZ, hc, hk, hj⟩
    have zb : (Z.length : Int) < 1073742824 := by have := HA.out.2; unfold padN at hj; omega
    clear hk hj hown hB kZ lZ hc
    by_cases h8 : j = padN X.length
    · have q2 : ((Z.length : Int) % 136 == 0) = true := beq_iff_eq.2 (by have := HF.out; unfold padN at h8; omega)
      have q3 : ((Z.length : Int) % 136 != 0) = false := by rw [bne, q2]; rfl
      have q4 : (Z.length : Int) % 136 = 0 := beq_iff_eq.1 q2
      have H8 : Hid (j = padN X.length) := h8
      clear h8 q4
      obtain ⟨m, em⟩ : ∃ m : Nat, (Z.length : Int) - 1 = (m : Int) := ⟨Z.length - 1, by have := HF.out; omega⟩
      have EM : Hid (m = X.length + padN X.length) := by have h : m = X.length + padN X.length := (by have := HF.out; have := H8.out; omega); exact h
      have m1 : m < Z.length := by omega
      have gz : wr.cell? ⟨g, m, none⟩ = some (.int .u8 (Y (Z.getD m 0))) := by
        rw [HF.out.1.row.cellAt m (by omega)]
        simp [byts, List.getD, m1]
      have fz := HF.out.1.row.frozenAt m
      obtain ⟨z, kz⟩ : ∃ z, z = Z.getD m 0 := ⟨_, rfl⟩
      rw [← kz] at gz
      have y128 : Y 128 = 128 := by rw [Y_eq]; rfl
      have yo : bits .or .u8 (Y z) 128 = Y (z ||| 128) := by rw [← y128]; exact Y_or z 128
      have FIN : Hid (Z.set m (z ||| 128) = fillL X f) := by
        rw [fillL, ← H8.out, ← HF.out.2.2.1, H8.out, ← EM.out, kz]
        exact rfl
      have KZ : Hid (z = Z.getD m 0) := kz
      clear kz y128
      go_wp2
      go_ret
      refine ⟨_, rfl, ?_, HF.out.2.1.setCell (HF.out.1.row.lt g rfl).1 _⟩
      rw [← FIN.out, Own, List.length_set, ← byts_set]
      exact (HF.out.1.row.stored m _).1
    · have q2 : ((Z.length : Int) % 136 == 0) = false := beq_eq_false_iff_ne.2 (by have := HF.out; unfold padN at *; omega)
      have q3 : ((Z.length : Int) % 136 != 0) = true := by rw [bne, q2]; rfl
      have HJ : Hid (j < padN X.length) := by have h : j < padN X.length := (by have := HF.out; omega); exact h
      have y0 : Hid (Y 0 = 0) := Y_zero
      clear h8
      go_wp2_with (at_builtin; refine wpList_append_own_at _ rfl _ _ 30 rfl w.heap.size 5 i0 (.int .u8 0) 1 1 Tryd.underlying30 HZ.out.1 HZ.out.2.1 HZ.out.2.2.1 HZ.out.2.2.2 rfl (by decide) (.slice (some ⟨g, 0, none⟩) Z.length c) _ _ rfl (HF.out.1.row.alloc _) ⟨wr.heap.size, 0, none⟩ 1 1 [.int .u8 0] rfl rfl (cell_one_new _ _ _) (fun u hu => by simp at hu; subst hu; rfl) (by unfold maxLen; have := HF.out; have := HA.out.2; unfold padN at *; omega) (by have := HF.out; have := HA.out.2; unfold padN at *; omega) (by have := HF.out.2.1.size; simp; omega) ?_; intro v3 w3 hown3 hgrow3 hnil3 hblk3; have I3 : Hid (Own w.heap.size w3 v3 (Z ++ [0]) ∧ Below w.heap.size w w3) := ⟨by rw [Own, List.length_append, ← byts_snoc, y0.out]; exact hown3, (HF.out.2.1.alloc HF.out.2.1.size _).grown hgrow3 (by have := HF.out.2.1.size; simp; omega) (fun k hk => (HF.out.1.row.lt k hk).1)⟩; clear hown3 hgrow3 hnil3 hblk3)
      go_roundg (padN X.length - (j + 1))
      case measure => have := HF.out; have := HJ.out; omega
      case rel =>
        refine ⟨j + 1, rfl, by have := HJ.out; omega, ?_, I3.out.2⟩
        have h := I3.out.1
        rw [HF.out.2.2.1, List.append_assoc, List.cons_append, ← List.replicate_succ'] at h
        exact h


end Go.Proofs.YtjhljoanhlodeaaDoor

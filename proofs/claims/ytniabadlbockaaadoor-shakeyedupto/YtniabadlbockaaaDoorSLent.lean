import Derived.Test.YtniabadlbockaaaDoorSCopied
namespace Go.Proofs.YtniabadlbockaaaDoor
open Go.RowKit Go.Sort

set_option maxHeartbeats 4000000 in
theorem lent_any {a : Option Addr} {bd od cd : Nat} {X : List (BitVec 8)} (hl : X.length < 1073741000) (ha : At a bd od X) (w : World) (hX : Byo w bd od X) :
    Calls Tryd.prog 24 #[.slice a X.length cd] w fun e w' => ∃ g c, e = .returned (.slice (some ⟨g, 0, none⟩) X.length c) ∧ X.length ≤ c ∧ w.heap.size ≤ g ∧ g < w'.heap.size ∧ Byo w' g 0 X ∧ Below w.heap.size w w' := by
  have hl' : (X.length : Int) < 1073741000 := by omega
  obtain ⟨i0, hi, hz0, hz1, hz2⟩ := info_parts info_byte
  have HL : Hid (X.length < 1073741000) := hl
  go_enter Tryd.func24, Tryd.ntmps24
  go_wp2_with fail
  refine (copied_any (by omega) ha _ hX).mono ?_
  rintro e w1 ⟨v1, rfl, o1, b1⟩
  have H1 : Hid (Own w.heap.size w1 v1 X ∧ Below w.heap.size w w1) := ⟨o1, b1⟩
  have y5 : Hid (Y 165 = 165) := by rw [Y_eq]; rfl
  clear o1 b1 ha hX hl
  go_wp2_with fail
  go_loopg [3, 4] 70 (fun k lv iv wr => ∃ i : Nat, k = 70 - i ∧ i ≤ 70 ∧ iv = .int .i64 i ∧ Own w.heap.size wr lv (X ++ List.replicate i 165) ∧ Below w.heap.size w wr)
  case atStart => exact ⟨0, rfl, by decide, rfl, by rw [List.replicate_zero, List.append_nil]; exact H1.out.1, H1.out.2⟩
  case round =>
    clear H1
    obtain ⟨i, hk, hi9, rfl, hown, B⟩ := hrel
    have HK : Hid (gk = 70 - i) := hk
    have HF : Hid (Own w.heap.size wr u3 (X ++ List.replicate i 165) ∧ Below w.heap.size w wr) := ⟨hown, B⟩
    clear hk hown B
    by_cases h8 : i = 70
    · subst h8
      obtain ⟨T, kT⟩ : ∃ T, T = X ++ List.replicate 70 165 := ⟨_, rfl⟩
      rw [← kT] at HF
      have lT : T.length = X.length + 70 := by rw [kT]; simp
      have KT : Hid (T = X ++ List.replicate 70 165) := kT
      clear kT
      obtain ⟨g, c, ev, hc⟩ := own_form HF.out.1 (by omega)
      subst ev
      have c1 : X.length ≤ c := by omega
      have c2 : (X.length : Int) ≤ (c : Int) := by omega
      have LT : Hid (T.length = X.length + 70) := lT
      clear lT hc
      go_wp2
      go_ret
      refine ⟨g, c, rfl, c1, (HF.out.1.row.lt g rfl).1, (HF.out.1.row.lt g rfl).2, fun i hi => ?_, HF.out.2⟩
      rw [Nat.zero_add, HF.out.1.row.cellAt i (by have := LT.out; omega), KT.out, byts, List.getElem?_map, List.getElem?_append_left hi]
      simp [List.getD, hi]
    · have hlt' : (i : Int) < 70 := by omega
      have NX : Hid (X ++ List.replicate (i + 1) 165 = (X ++ List.replicate i 165) ++ [165]) := by rw [List.replicate_succ', List.append_assoc]; exact rfl
      have LR : Hid ((X ++ List.replicate i (165 : BitVec 8)).length < 1073741824) := by
        have h : (X ++ List.replicate i (165 : BitVec 8)).length < 1073741824 := by rw [List.length_append, List.length_replicate]; have := HL.out; omega
        exact h
      go_wp2_with ((at_builtin; go_loud (refine wpList_append_own_at _ rfl _ _ 24 rfl w.heap.size 5 i0 (.int .u8 0) 1 1 Tryd.underlying24 hi hz0 hz1 hz2 rfl (by decide) u3 _ _ rfl (HF.out.1.row.alloc _) ⟨wr.heap.size, 0, none⟩ 1 1 [.int .u8 165] rfl rfl (cell_one_new _ _ _) (fun u hu => by simp at hu; subst hu; rfl) (by unfold maxLen; have := LR.out; omega) (by have := LR.out; omega) (by have := HF.out.2.size; simp; omega) ?_); intro v' w3 hown' hgrow3 hnil3 hblk))
      have HO : Hid (Own w.heap.size w3 v' (X ++ List.replicate (i + 1) 165) ∧ Below w.heap.size w w3) := by
        refine ⟨?_, ?_⟩
        · rw [NX.out, Own, List.length_append, ← byts_snoc, y5.out]
          exact hown'
        · exact (HF.out.2.alloc HF.out.2.size _).grown hgrow3 (by have := HF.out.2.size; simp; omega) (fun k hk => (HF.out.1.row.lt k hk).1)
      clear hown' hgrow3 hnil3 hblk
      go_roundg (70 - (i + 1))
      case measure => have := HK.out; omega
      case rel => exact ⟨i + 1, rfl, by omega, by go_num, HO.out⟩

end Go.Proofs.YtniabadlbockaaaDoor

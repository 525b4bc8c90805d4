import Derived.Test.YtallcfijdjdciaaDoorSCopied
import Derived.Test.YtallcfijdjdciaaDoorTail
import Derived.Laws.OwnMore
namespace Go.Proofs.YtallcfijdjdciaaDoor
open Go.RowKit Go.Sort

/-- Bytes in a block, from its start on, that may be written. -/
def Gb (W : World) (g : Nat) (T : List (BitVec 8)) : Prop := Byo W g 0 T ∧ Loose W g T.length
theorem Gb.keep {W w1 : World} {g : Nat} {T : List (BitVec 8)} (h : Gb W g T) (hl : g < W.heap.size) (hb : Below W.heap.size W w1) : Gb w1 g T := ⟨h.1.keep hb, h.2.keep hb hl⟩
theorem Gb.set {W : World} {g i : Nat} {T : List (BitVec 8)} (h : Gb W g T) (hi : i < T.length) (x : BitVec 8) : Gb (W.setCell ⟨g, i, none⟩ (.int .u8 (Y x))) g (T.set i x) := by
  refine ⟨fun j hj => ?_, by rw [List.length_set]; exact h.2.set _ _⟩
  rw [List.length_set] at hj
  rw [Nat.zero_add]
  have hi0 := h.1 i hi
  rw [Nat.zero_add] at hi0
  by_cases e : i = j
  · subst e
    rw [World.cell?_setCell_same _ _ _ hi0]
    simp [List.getD, hi]
  · have ne : (⟨g, i, none⟩ : Addr) ≠ ⟨g, j, none⟩ := by first | (simp; done) | (simp; omega)
    have hj0 := h.1 j hj
    rw [Nat.zero_add] at hj0
    rw [World.cell?_setCell_other _ _ _ _ ne, hj0]
    simp [List.getD, List.getElem?_set_ne e]
theorem Gb.front {W : World} {g : Nat} {X Z : List (BitVec 8)} (h : Gb W g (X ++ Z)) : Byo W g 0 X := fun i hi => by
  have := h.1 i (by rw [List.length_append]; omega)
  rw [this, List.getD, List.getElem?_append_left hi, ← List.getD]

set_option maxHeartbeats 4000000 in
theorem lentR_any {a : Option Addr} {bd od cd : Nat} {X : List (BitVec 8)} (hl : X.length < 1073741000) (ha : At a bd od X) (w : World) (hX : Byo w bd od X) :
    Calls Tryd.prog 15 #[.slice a X.length cd] w fun e w' => ∃ g c, e = .returned (.slice (some ⟨g, 0, none⟩) X.length c) ∧ X.length + 70 ≤ c ∧ w.heap.size ≤ g ∧ g < w'.heap.size ∧ Gb w' g (X ++ List.replicate 70 165) ∧ Below w.heap.size w w' := by
  have hl' : (X.length : Int) < 1073741000 := by omega
  obtain ⟨i0, hi, hz0, hz1, hz2⟩ := info_parts info_byte
  have HL : Hid (X.length < 1073741000) := hl
  go_enter Tryd.func15, Tryd.ntmps15
  go_wp2_with fail
  refine (copied_any (by omega) ha _ hX).mono ?_
  rintro e w1 ⟨v1, rfl, o1, b1⟩
  have H1 : Hid (Own w.heap.size w1 v1 X ∧ Below w.heap.size w w1) := ⟨o1, b1⟩
  have y5 : Hid (Y 165 = 165) := by rw [Y_eq]; rfl
  clear o1 b1 ha hX hl
  go_wp2_with fail
  go_loopg [3, 4] 70 (fun k lv iv wr => ∃ i : Nat, k = 70 - i ∧ i ≤ 70 ∧ iv = .int .i64 i ∧ Own w.heap.size wr lv (X ++ List.replicate i 165) ∧ Below w.heap.size w wr)
  case atStart => exact ⟨0, rfl, by decide, rfl, by rw [List.replicate_zero, List.append_nil]; exact H1.out.1, H1.out.2⟩
  case round =>
    clear H1
    obtain ⟨i, hk, hi9, rfl, hown, B⟩ := hrel
    have HK : Hid (gk = 70 - i) := hk
    have HF : Hid (Own w.heap.size wr u3 (X ++ List.replicate i 165) ∧ Below w.heap.size w wr) := ⟨hown, B⟩
    clear hk hown B
    by_cases h8 : i = 70
    · subst h8
      obtain ⟨T, kT⟩ : ∃ T, T = X ++ List.replicate 70 165 := ⟨_, rfl⟩
      rw [← kT] at HF
      have lT : T.length = X.length + 70 := by rw [kT]; simp
      have KT : Hid (T = X ++ List.replicate 70 165) := kT
      clear kT
      obtain ⟨g, c, ev, hc⟩ := own_form HF.out.1 (by omega)
      subst ev
      have c1 : X.length + 70 ≤ c := by omega
      have c2 : (X.length : Int) ≤ (c : Int) := by omega
      have LT : Hid (T.length = X.length + 70) := lT
      have C1 : Hid (X.length + 70 ≤ c) := c1
      clear lT hc c1
      go_wp2
      go_ret
      refine ⟨g, c, rfl, C1.out, (HF.out.1.row.lt g rfl).1, (HF.out.1.row.lt g rfl).2, ?_, HF.out.2⟩
      rw [← KT.out]
      have hr := HF.out.1.row
      refine ⟨fun i hi => ?_, fun i hi => World.ownsRow.frozenAt hr i⟩
      rw [Nat.zero_add, hr.cellAt i (by omega), byts, List.getElem?_map, List.getElem?_eq_getElem hi]
      simp [List.getD, hi]
    · have hlt' : (i : Int) < 70 := by omega
      have NX : Hid (X ++ List.replicate (i + 1) 165 = (X ++ List.replicate i 165) ++ [165]) := by rw [List.replicate_succ', List.append_assoc]; exact rfl
      have LR : Hid ((X ++ List.replicate i (165 : BitVec 8)).length < 1073741824) := by
        have h : (X ++ List.replicate i (165 : BitVec 8)).length < 1073741824 := by rw [List.length_append, List.length_replicate]; have := HL.out; omega
        exact h
      go_wp2_with ((at_builtin; go_loud (refine wpList_append_own_at _ rfl _ _ 34 rfl w.heap.size 5 i0 (.int .u8 0) 1 1 Tryd.underlying34 hi hz0 hz1 hz2 rfl (by decide) u3 _ _ rfl (HF.out.1.row.alloc _) ⟨wr.heap.size, 0, none⟩ 1 1 [.int .u8 165] rfl rfl (cell_one_new _ _ _) (fun u hu => by simp at hu; subst hu; rfl) (by unfold maxLen; have := LR.out; omega) (by have := LR.out; omega) (by have := HF.out.2.size; simp; omega) ?_); intro v' w3 hown' hgrow3 hnil3 hblk))
      have HO : Hid (Own w.heap.size w3 v' (X ++ List.replicate (i + 1) 165) ∧ Below w.heap.size w w3) := by
        refine ⟨?_, ?_⟩
        · rw [NX.out, Own, List.length_append, ← byts_snoc, y5.out]
          exact hown'
        · exact (HF.out.2.alloc HF.out.2.size _).grown hgrow3 (by have := HF.out.2.size; simp; omega) (fun k hk => (HF.out.1.row.lt k hk).1)
      clear hown' hgrow3 hnil3 hblk
      go_roundg (70 - (i + 1))
      case measure => have := HK.out; omega
      case rel => exact ⟨i + 1, rfl, by omega, by go_num, HO.out⟩

theorem room_at (X : List (BitVec 8)) {i : Nat} (h : i < X.length) : (X ++ List.replicate 70 165).getD i 0 = X.getD i 0 := by
  rw [List.getD, List.getElem?_append_left h, List.getD]
theorem room_past (X : List (BitVec 8)) {i : Nat} (h : X.length ≤ i) (h2 : i < X.length + 70) : (X ++ List.replicate 70 165).getD i 0 = 165 := by
  rw [List.getD, List.getElem?_append_right h, List.getElem?_replicate, if_pos (by omega)]; rfl

set_option maxHeartbeats 4000000 in
theorem still_any {a : Option Addr} {g bd od cd cg : Nat} {X : List (BitVec 8)} (hl : X.length < 1073741824) (hcg : X.length + 70 ≤ cg) (ha : At a bd od X) (w : World) (hG : Byo w g 0 (X ++ List.replicate 70 165)) (hX : Byo w bd od X) :
    Calls Tryd.prog 18 #[.slice (some ⟨g, 0, none⟩) X.length cg, .slice a X.length cd] w fun e w' => e = .returned (.bool true) ∧ Below w.heap.size w w' := by
  have hl' : (X.length : Int) < 1073741824 := by omega
  have hcg' : (X.length : Int) + 70 ≤ (cg : Int) := by omega
  have y165 : Y 165 = 165 := by rw [Y_eq]; rfl
  have HA : Hid (At a bd od X ∧ Byo w bd od X ∧ X.length < 1073741824 ∧ Y 165 = 165 ∧ Byo w g 0 (X ++ List.replicate 70 165)) := ⟨ha, hX, hl, y165, hG⟩
  clear ha hX hl y165 hG
  go_enter Tryd.func18, Tryd.ntmps18
  go_wp2_with fail
  go_loopg [6] (X.length + 70) (fun k iv wr => ∃ i : Nat, k = X.length + 70 - i ∧ i ≤ X.length + 70 ∧ iv = .int .i64 i ∧ Below w.heap.size w wr)
  case atStart => exact ⟨0, rfl, by omega, rfl, Below.refl _ _⟩
  case round =>
    obtain ⟨i, hk, hi, rfl, B⟩ := hrel
    have HK : Hid (gk = X.length + 70 - i) := hk
    have HF : Hid (Below w.heap.size w wr) := B
    clear hk B
    by_cases h8 : i = X.length + 70
    · subst h8
      go_wp2
      go_ret
      exact ⟨rfl, HF.out⟩
    · have ii : i < X.length + 70 := by omega
      have gg := HA.out.2.2.2.2 i (by rw [List.length_append, List.length_replicate]; omega)
      rw [Nat.zero_add] at gg
      rw [← HF.out.cell (p := ⟨g, i, none⟩) (World.block_lt_of_cell? w _ gg)] at gg
      by_cases h9 : i < X.length
      · have ea : a = some ⟨bd, od, none⟩ := by
          rcases HA.out.1 with h | h
          · rw [h] at h9; simp at h9
          · exact h
        subst ea
        have gx := HA.out.2.1 i h9
        rw [← HF.out.cell (p := ⟨bd, od + i, none⟩) (World.block_lt_of_cell? w _ gx)] at gx
        rw [room_at X h9] at gg
        generalize X.getD i 0 = x at *
        have hi2 : (i : Int) < (X.length : Int) := by omega
        have hi3 : (i : Int) < (X.length : Int) + 70 := by omega
        go_wp2_with fail
        have gG := fun d os => cell_regrown gg d os
        have gX := fun d os => cell_regrown gx d os
        have hi4 : ¬ ((X.length : Int) ≤ (i : Int)) := by omega
        refine wp_region_quiet_below (by kernel_rfl) (by kernel_rfl) ?_
        repeat (first | go_big_quiet_skip | (go_big_quiet_want; go_big_quiet_op; go_big_quiet_on))
        refine wpQuiet_nil ?_
        rintro w1 ⟨p, rfl⟩
        have hb := below_regrown wr p.d p.os
        generalize grow (redrawn wr p.d) p.os = w1 at *
        have H1 : Hid (Below w.heap.size w w1) := HF.out.trans (hb.mono HF.out.size)
        clear hb
        go_wp2
        go_roundg (X.length + 70 - (i + 1))
        case measure => have := HK.out; omega
        case rel => exact ⟨i + 1, rfl, by omega, by go_num, H1.out⟩
      · rw [room_past X (by omega) ii, HA.out.2.2.2.1] at gg
        have hi2 : (X.length : Int) ≤ (i : Int) := by omega
        have hi3 : (i : Int) < (X.length : Int) + 70 := by omega
        go_wp2_with fail
        have gG := fun d os => cell_regrown gg d os
        refine wp_region_quiet_below (by kernel_rfl) (by kernel_rfl) ?_
        repeat (first | go_big_quiet_skip | (go_big_quiet_want; go_big_quiet_op; go_big_quiet_on))
        refine wpQuiet_nil ?_
        rintro w1 ⟨p, rfl⟩
        have hb := below_regrown wr p.d p.os
        generalize grow (redrawn wr p.d) p.os = w1 at *
        have H1 : Hid (Below w.heap.size w w1) := HF.out.trans (hb.mono HF.out.size)
        clear hb
        go_wp2
        go_roundg (X.length + 70 - (i + 1))
        case measure => have := HK.out; omega
        case rel => exact ⟨i + 1, rfl, by omega, by go_num, H1.out⟩

end Go.Proofs.YtallcfijdjdciaaDoor

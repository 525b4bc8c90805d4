import Derived.Test.YtjhljoanhlodeaaDoorKRSums
namespace Go.Proofs.YtjhljoanhlodeaaDoor
open Go.RowKit Go.Sort

theorem room_at (X : List (BitVec 8)) {i : Nat} (h : i < X.length) : (X ++ List.replicate 200 195).getD i 0 = X.getD i 0 := by
  rw [List.getD, List.getElem?_append_left h, List.getD]
theorem room_past (X : List (BitVec 8)) {i : Nat} (h : X.length ≤ i) (h2 : i < X.length + 200) : (X ++ List.replicate 200 195).getD i 0 = 195 := by
  rw [List.getD, List.getElem?_append_right h, List.getElem?_replicate, if_pos (by omega)]; rfl

set_option maxHeartbeats 4000000 in
theorem still_any {a : Option Addr} {g bd od cd : Nat} {X : List (BitVec 8)} (hl : X.length < 1073741824) (ha : At a bd od X) (w : World) (hG : Byo w g 0 (X ++ List.replicate 200 195)) (hX : Byo w bd od X) :
    Calls Tryd.prog 16 #[.slice (some ⟨g, 0, none⟩) X.length (X.length + 200), .slice a X.length cd] w fun e w' => e = .returned (.bool true) ∧ Below w.heap.size w w' := by
  have hl' : (X.length : Int) < 1073741824 := by omega
  have y195 : Y 195 = 195 := by rw [Y_eq]; rfl
  have HA : Hid (At a bd od X ∧ Byo w bd od X ∧ X.length < 1073741824 ∧ Y 195 = 195 ∧ Byo w g 0 (X ++ List.replicate 200 195)) := ⟨ha, hX, hl, y195, hG⟩
  clear ha hX hl y195 hG
  go_enter Tryd.func16, Tryd.ntmps16
  go_wp2_with fail
  go_loopg [6] (X.length + 200) (fun k iv wr => ∃ i : Nat, k = X.length + 200 - i ∧ i ≤ X.length + 200 ∧ iv = .int .i64 i ∧ Below w.heap.size w wr)
  case atStart => exact ⟨0, rfl, by omega, rfl, Below.refl _ _⟩
  case round =>
    obtain ⟨i, hk, hi, rfl, B⟩ := hrel
    have HK : Hid (gk = X.length + 200 - i) := hk
    have HF : Hid (Below w.heap.size w wr) := B
    clear hk B
    by_cases h8 : i = X.length + 200
    · subst h8
      go_wp2
      go_ret
      exact ⟨rfl, HF.out⟩
    · have ii : i < X.length + 200 := by omega
      have gg := HA.out.2.2.2.2 i (by rw [List.length_append, List.length_replicate]; omega)
      rw [Nat.zero_add] at gg
      rw [← HF.out.cell (p := ⟨g, i, none⟩) (World.block_lt_of_cell? w _ gg)] at gg
      by_cases h9 : i < X.length
      · have ea : a = some ⟨bd, od, none⟩ := by
          rcases HA.out.1 with h | h
          · rw [h] at h9; simp at h9
          · exact h
        subst ea
        have gx := HA.out.2.1 i h9
        rw [← HF.out.cell (p := ⟨bd, od + i, none⟩) (World.block_lt_of_cell? w _ gx)] at gx
        rw [room_at X h9] at gg
        generalize X.getD i 0 = x at *
        have hi2 : (i : Int) < (X.length : Int) := by omega
        have hi3 : (i : Int) < (X.length : Int) + 200 := by omega
        go_wp2_with fail
        have gG := fun d os => cell_regrown gg d os
        have gX := fun d os => cell_regrown gx d os
        have hi4 : ¬ ((X.length : Int) ≤ (i : Int)) := by omega
        refine wp_region_quiet_below (by kernel_rfl) (by kernel_rfl) ?_
        repeat (first | go_big_quiet_skip | (go_big_quiet_want; go_big_quiet_op; go_big_quiet_on))
        refine wpQuiet_nil ?_
        rintro w1 ⟨p, rfl⟩
        have hb := below_regrown wr p.d p.os
        generalize grow (redrawn wr p.d) p.os = w1 at *
        have H1 : Hid (Below w.heap.size w w1) := HF.out.trans (hb.mono HF.out.size)
        clear hb
        go_wp2
        go_roundg (X.length + 200 - (i + 1))
        case measure => have := HK.out; omega
        case rel => exact ⟨i + 1, rfl, by omega, by go_num, H1.out⟩
      · rw [room_past X (by omega) ii, HA.out.2.2.2.1] at gg
        have hi2 : (X.length : Int) ≤ (i : Int) := by omega
        have hi3 : (i : Int) < (X.length : Int) + 200 := by omega
        go_wp2_with fail
        have gG := fun d os => cell_regrown gg d os
        refine wp_region_quiet_below (by kernel_rfl) (by kernel_rfl) ?_
        repeat (first | go_big_quiet_skip | (go_big_quiet_want; go_big_quiet_op; go_big_quiet_on))
        refine wpQuiet_nil ?_
        rintro w1 ⟨p, rfl⟩
        have hb := below_regrown wr p.d p.os
        generalize grow (redrawn wr p.d) p.os = w1 at *
        have H1 : Hid (Below w.heap.size w w1) := HF.out.trans (hb.mono HF.out.size)
        clear hb
        go_wp2
        go_roundg (X.length + 200 - (i + 1))
        case measure => have := HK.out; omega
        case rel => exact ⟨i + 1, rfl, by omega, by go_num, H1.out⟩

end Go.Proofs.YtjhljoanhlodeaaDoor

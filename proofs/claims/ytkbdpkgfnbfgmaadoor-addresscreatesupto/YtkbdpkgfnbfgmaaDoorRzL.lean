import Derived.Test.YtkbdpkgfnbfgmaaDoorRyC
import Derived.Deep.AppendLies
/- Layer 9: copied, lent, still. -/
namespace Go.Proofs.YtkbdpkgfnbfgmaaDoor
open Go.RowKit Go.Sort
theorem rep_snoc (k : Nat) (x : Int) : List.replicate k x ++ [x] = List.replicate (k + 1) x := by rw [List.replicate_succ']
theorem getD_app {P Q : List Int} {i : Nat} (h : i < P.length) : (P ++ Q).getD i 0 = P.getD i 0 := by
  rw [List.getD, List.getElem?_append_left h, ← List.getD]
set_option maxRecDepth 100000 in
set_option maxHeartbeats 4000000 in
theorem ecopied_any {a : Option Addr} {bd od cd : Nat} {X : List Int} (hl : X.length < 140737488355000) (ha : Az a bd od X) (w : World) (hX : Bz w bd od X) :
    Calls Tryd.prog 10 #[.slice a X.length cd] w fun e w' => ∃ v, e = .returned v ∧ OwnB w.heap.size w' v X ∧ Below w.heap.size w w' := by
  have hl' : (X.length : Int) < 140737488355000 := by omega
  obtain ⟨i0, hi, hz0, hz1, hz2⟩ := info_parts info_byte
  have HA : Hid (Az a bd od X ∧ Bz w bd od X ∧ X.length < 140737488355000) := ⟨ha, hX, hl⟩
  clear ha hX hl
  go_enter Tryd.func10, Tryd.ntmps10
  go_wp2_with fail
  go_loopg [3, 4] X.length (fun k lv iv wr => ∃ i : Nat, k = X.length - i ∧ i ≤ X.length ∧ iv = .int .i64 i ∧ OwnB w.heap.size wr lv (X.take i) ∧ Below w.heap.size w wr)
  case atStart => exact ⟨0, rfl, Nat.zero_le _, rfl, OwnB.nil _ _, Below.refl _ _⟩
  case round =>
    obtain ⟨i, hk, hi9, rfl, hown, B⟩ := hrel
    have HK : Hid (gk = X.length - i) := hk
    have HF : Hid (OwnB w.heap.size wr u3 (X.take i) ∧ Below w.heap.size w wr) := ⟨hown, B⟩
    clear hk hown B
    by_cases h8 : i = X.length
    · subst h8
      have HR : Hid (X.take X.length = X) := List.take_length
      go_wp2
      simp [bodyPost, results, Tryd.results10, go_sem]
      exact ⟨by have h := HF.out.1; rw [HR.out] at h; exact h, HF.out.2⟩
    · have hlt : i < X.length := by omega
      have hlt' : (i : Int) < (X.length : Int) := by omega
      have ea : a = some ⟨bd, od, none⟩ := HA.out.1.cons (by omega)
      subst ea
      have gx : wr.cell? ⟨bd, od + i, none⟩ = some (.int .u8 (X.getD i 0)) := by
        have h := HA.out.2.1 i (by omega)
        rw [HF.out.2.cell (p := ⟨bd, od + i, none⟩) (World.block_lt_of_cell? w _ h)]; exact h
      have NX : Hid (X.take (i + 1) = X.take i ++ [X.getD i 0]) := take_snocI hlt
      have LR : Hid ((X.take i).length = i ∧ i < 140737488355000) := ⟨by rw [List.length_take]; omega, by have := HA.out; omega⟩
      generalize X.getD i 0 = x at *
      go_wp2_with ((at_builtin; go_loud (refine wpList_append_own_at _ rfl _ _ 27 rfl w.heap.size 5 i0 (.int .u8 0) 1 1 Tryd.underlying27 hi hz0 hz1 hz2 rfl (by decide) u3 _ _ rfl (HF.out.1.alloc _).row ⟨wr.heap.size, 0, none⟩ 1 1 [.int .u8 x] rfl rfl (cell_one_new _ _ _) (fun u hu => by simp at hu; subst hu; rfl) (by unfold maxLen; have := LR.out; omega) (by have := LR.out; omega) (by have := HF.out.2.size; simp; omega) ?_); intro v' w3 hown' hgrow3 hnil3 hblk))
      have HO : Hid (OwnB w.heap.size w3 v' (X.take (i + 1)) ∧ Below w.heap.size w w3) := by
        refine ⟨?_, ?_⟩
        · rw [NX.out, OwnB, List.length_append, List.map_append]
          exact hown'
        · exact (HF.out.2.alloc HF.out.2.size _).grown hgrow3 (by have := HF.out.2.size; simp; omega) (fun k hk => (HF.out.1.row.lt k hk).1)
      clear hown' hgrow3 hnil3 hblk
      go_roundg (X.length - (i + 1))
      case measure => have := HK.out; omega
      case rel => exact ⟨i + 1, rfl, by omega, by go_num, HO.out⟩
def lentE (X : List Int) : List Int := X ++ List.replicate 70 165
theorem lentE_len (X : List Int) : (lentE X).length = X.length + 70 := by simp [lentE]
theorem lentE_at (X : List Int) {i : Nat} (h : i < X.length) : (lentE X).getD i 0 = X.getD i 0 := by
  rw [lentE, getD_app h]
theorem lentE_past (X : List Int) {i : Nat} (h : X.length ≤ i) (h2 : i < X.length + 70) : (lentE X).getD i 0 = 165 := by
  rw [lentE, List.getD, List.getElem?_append_right h, List.getElem?_replicate, if_pos (by omega)]; rfl
set_option maxRecDepth 100000 in
set_option maxHeartbeats 4000000 in
theorem elent_any {a : Option Addr} {bd od cd : Nat} {X : List Int} (hl : X.length ≤ 140737488351232) (ha : Az a bd od X) (w : World) (hX : Bz w bd od X) :
    Calls Tryd.prog 4 #[.slice a X.length cd] w fun e w' => ∃ g cap, e = .returned (.slice (some ⟨g, 0, none⟩) X.length cap) ∧ OwnB w.heap.size w' (.slice (some ⟨g, 0, none⟩) (X.length + 70) cap) (lentE X) ∧ Below w.heap.size w w' := by
  have hc := ecopied_any (cd := cd) (by omega) ha w hX
  obtain ⟨i0, hi, hz0, hz1, hz2⟩ := info_parts info_byte
  obtain ⟨m, em⟩ : ∃ m, m = X.length := ⟨_, rfl⟩
  have HA : Hid (X.length = m ∧ m ≤ 140737488351232) := ⟨em.symm, by omega⟩
  rw [← em] at hc ⊢
  clear ha hX hl em
  go_enter Tryd.func4, Tryd.ntmps4
  go_wp2_with fail
  with_reducible refine hc.mono ?_
  rintro e w1 ⟨v1, rfl, o1, B1⟩
  clear hc
  go_wp2_with fail
  go_loopg [3, 4] 70 (fun k lv iv wr => ∃ i : Nat, k = 70 - i ∧ i ≤ 70 ∧ iv = .int .i64 i ∧ OwnB w.heap.size wr lv (X ++ List.replicate i 165) ∧ Below w.heap.size w wr)
  case atStart => exact ⟨0, rfl, by decide, rfl, by simpa using o1, B1⟩
  case round =>
    clear o1 B1
    obtain ⟨i, hk, hi9, rfl, hown, B⟩ := hrel
    have HK : Hid (gk = 70 - i) := hk
    by_cases h8 : i = 70
    · subst h8
      have el : (X ++ List.replicate 70 165).length = m + 70 := by rw [List.length_append, HA.out.1, List.length_replicate]
      have h9 : OwnB w.heap.size wr u3 (lentE X) := hown
      obtain ⟨g, cap, e3, hb, hlt⟩ := World.ownsRow.form hown (by omega)
      have e3' : u3 = .slice (some ⟨g, 0, none⟩) (m + 70) cap := by rw [e3, el]
      have hcap : m + 70 ≤ cap := by
        obtain ⟨a', g', c', e4, h4, _⟩ := h9.lies
        rw [e3'] at e4
        injection e4 with _ _ e5
        rw [lentE_len, HA.out.1] at h4
        omega
      subst e3'
      have HF : Hid (OwnB w.heap.size wr (.slice (some ⟨g, 0, none⟩) (m + 70) cap) (lentE X) ∧ Below w.heap.size w wr) := ⟨h9, B⟩
      clear hown h9 B e3 hb hlt hk el
      have c1 : (m : Int) ≤ (cap : Int) := by omega
      have c2 : (m : Int) + 70 ≤ (cap : Int) := by omega
      go_wp2
      simp [bodyPost, results, Tryd.results4, go_sem]
      exact ⟨g, cap, ⟨rfl, rfl⟩, HF.out⟩
    · have HF : Hid (OwnB w.heap.size wr u3 (X ++ List.replicate i 165) ∧ Below w.heap.size w wr) := ⟨hown, B⟩
      clear hown B hk
      have hlt' : (i : Int) < 70 := by omega
      have LR : Hid ((X ++ List.replicate i (165 : Int)).length = m + i ∧ m + i < 140737488355000) := ⟨by rw [List.length_append, HA.out.1, List.length_replicate], by have := HA.out; omega⟩
      go_wp2_with ((at_builtin; (refine wpList_append_own_at _ rfl _ _ 27 rfl w.heap.size 5 i0 (.int .u8 0) 1 1 Tryd.underlying27 hi hz0 hz1 hz2 rfl (by decide) u3 _ _ rfl (HF.out.1.alloc _).row ⟨wr.heap.size, 0, none⟩ 1 1 [.int .u8 165] rfl rfl (cell_one_new _ _ _) (fun u hu => by simp at hu; subst hu; rfl) (by unfold maxLen; have := LR.out; omega) (by have := LR.out; omega) (by have := HF.out.2.size; simp; omega) ?_); intro v' w3 hown' hgrow3 hnil3 hblk))
      have HO : Hid (OwnB w.heap.size w3 v' (X ++ List.replicate (i + 1) 165) ∧ Below w.heap.size w w3) := by
        refine ⟨?_, ?_⟩
        · rw [← rep_snoc, ← List.append_assoc, OwnB, List.length_append, List.map_append]
          exact hown'
        · exact (HF.out.2.alloc HF.out.2.size _).grown hgrow3 (by have := HF.out.2.size; simp; omega) (fun k hk => (HF.out.1.row.lt k hk).1)
      clear hown' hgrow3 hnil3 hblk
      go_roundg (70 - (i + 1))
      case measure => have := HK.out; omega
      case rel => exact ⟨i + 1, rfl, by omega, by go_num, HO.out⟩
set_option maxRecDepth 100000 in
set_option maxHeartbeats 4000000 in
theorem estill_any {a : Option Addr} {g cap bd od cd : Nat} {X : List Int} (hl : X.length < 140737488355328) (ha : Az a bd od X) (w : World) (hc : X.length + 70 ≤ cap) (hG : Bz w g 0 (lentE X)) (hX : Bz w bd od X) :
    Calls Tryd.prog 9 #[.slice (some ⟨g, 0, none⟩) X.length cap, .slice a X.length cd] w fun e w' => e = .returned (.bool true) ∧ Below w.heap.size w w' := by
  have hl' : (X.length : Int) < 140737488355328 := by omega
  have hc1 : (X.length : Int) + 70 ≤ (cap : Int) := by omega
  have HA : Hid (Az a bd od X ∧ Bz w bd od X ∧ X.length < 140737488355328 ∧ Bz w g 0 (lentE X)) := ⟨ha, hX, hl, hG⟩
  clear ha hX hl hG
  go_enter Tryd.func9, Tryd.ntmps9
  go_wp2_with fail
  go_loopg [6] (X.length + 70) (fun k iv wr => ∃ i : Nat, k = X.length + 70 - i ∧ i ≤ X.length + 70 ∧ iv = .int .i64 i ∧ Below w.heap.size w wr)
  case atStart => exact ⟨0, rfl, by omega, rfl, Below.refl _ _⟩
  case round =>
    obtain ⟨i, hk, hi, rfl, B⟩ := hrel
    have HK : Hid (gk = X.length + 70 - i) := hk
    have HF : Hid (Below w.heap.size w wr) := B
    clear hk B
    by_cases h8 : i = X.length + 70
    · subst h8
      go_wp2
      simp [bodyPost, results, Tryd.results9, go_sem]
      exact HF.out
    · have ii : i < X.length + 70 := by omega
      have gg := HA.out.2.2.2 i (by rw [lentE_len]; omega)
      rw [Nat.zero_add] at gg
      rw [← HF.out.cell (p := ⟨g, i, none⟩) (World.block_lt_of_cell? w _ gg)] at gg
      by_cases h9 : i < X.length
      · obtain rfl := HA.out.1.cons (by omega)
        have gx := HA.out.2.1 i h9
        rw [← HF.out.cell (p := ⟨bd, od + i, none⟩) (World.block_lt_of_cell? w _ gx)] at gx
        rw [lentE_at X h9] at gg
        generalize X.getD i 0 = x at *
        have hi2 : (i : Int) < (X.length : Int) := by omega
        have hi3 : (i : Int) < (X.length : Int) + 70 := by omega
        go_wp2_with fail
        have gG := fun d os => cell_regrown gg d os
        have gX := fun d os => cell_regrown gx d os
        have hi4 : ¬ ((X.length : Int) ≤ (i : Int)) := by omega
        refine wp_region_quiet_below (by kernel_rfl) (by kernel_rfl) ?_
        repeat (first | go_big_quiet_skip | (go_big_quiet_want; go_big_quiet_op; go_big_quiet_on))
        refine wpQuiet_nil ?_
        rintro w1 ⟨p, rfl⟩
        have hb := below_regrown wr p.d p.os
        generalize grow (redrawn wr p.d) p.os = w1 at *
        have H1 : Hid (Below w.heap.size w w1) := HF.out.trans (hb.mono HF.out.size)
        clear hb
        go_wp2
        go_roundg (X.length + 70 - (i + 1))
        case measure => have := HK.out; omega
        case rel => exact ⟨i + 1, rfl, by omega, by go_num, H1.out⟩
      · rw [lentE_past X (by omega) ii] at gg
        have hi2 : (X.length : Int) ≤ (i : Int) := by omega
        have hi3 : (i : Int) < (X.length : Int) + 70 := by omega
        go_wp2_with fail
        have gG := fun d os => cell_regrown gg d os
        refine wp_region_quiet_below (by kernel_rfl) (by kernel_rfl) ?_
        repeat (first | go_big_quiet_skip | (go_big_quiet_want; go_big_quiet_op; go_big_quiet_on))
        refine wpQuiet_nil ?_
        rintro w1 ⟨p, rfl⟩
        have hb := below_regrown wr p.d p.os
        generalize grow (redrawn wr p.d) p.os = w1 at *
        have H1 : Hid (Below w.heap.size w w1) := HF.out.trans (hb.mono HF.out.size)
        clear hb
        go_wp2
        go_roundg (X.length + 70 - (i + 1))
        case measure => have := HK.out; omega
        case rel => exact ⟨i + 1, rfl, by omega, by go_num, H1.out⟩
end Go.Proofs.YtkbdpkgfnbfgmaaDoor

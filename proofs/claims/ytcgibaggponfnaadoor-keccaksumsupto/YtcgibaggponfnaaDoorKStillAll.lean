import Derived.Test.YtcgibaggponfnaaDoorKLentAll
namespace Go.Proofs.YtcgibaggponfnaaDoor
open Go.RowKit Go.Sort

set_option maxHeartbeats 4000000 in
theorem stillAll_any {a : Option Addr} {bp op cp B G ge : Nat} {gs : List Nat} {PS : List Part} (hs : (catX PS).length < 1073741824) (hn : PS.length ≤ 1073741824) (ha : PS = [] ∨ a = some ⟨bp, op, none⟩) (w : World) (hP : Prts w bp op PS) (hg : gs.length = PS.length) (hL : Lent w B G (PS.map (·.X)) gs) (g1 : w.cell? ⟨G, PS.length, none⟩ = some (.slice (some ⟨ge, 0, none⟩) 1 1)) (g2 : w.cell? ⟨ge, 0, none⟩ = some (.int .u8 195)) :
    Calls Tryd.prog 23 #[.slice (some ⟨G, 0, none⟩) PS.length (PS.length + 1), .slice a PS.length cp] w fun e w' => e = .returned (.bool true) ∧ Below w.heap.size w w' := by
  have HA : Hid (Prts w bp op PS ∧ (PS = [] ∨ a = some ⟨bp, op, none⟩) ∧ (catX PS).length < 1073741824 ∧ PS.length ≤ 1073741824 ∧ gs.length = PS.length ∧ Lent w B G (PS.map (·.X)) gs) := ⟨hP, ha, hs, hn, hg, hL⟩
  have nb : (PS.length : Int) ≤ 1073741824 := by omega
  have q1 := fun d os => cell_regrown g1 d os
  have q2 := fun d os => cell_regrown g2 d os
  clear hP ha hs hn hg hL
  go_enter Tryd.func23, Tryd.ntmps23
  go_wp2_with fail
  clear q1 q2 g1 g2
  go_loopg [6] PS.length (fun k iv wr => ∃ i : Nat, k = PS.length - i ∧ i ≤ PS.length ∧ iv = .int .i64 i ∧ Below w.heap.size w wr)
  case atStart => exact ⟨0, rfl, Nat.zero_le _, rfl, Below.refl _ _⟩
  case round =>
    obtain ⟨i, hk, hi9, rfl, hB⟩ := hrel
    have HK : Hid (gk = PS.length - i) := hk
    have HF : Hid (Below w.heap.size w wr) := hB
    clear hk hB
    by_cases h8 : i = PS.length
    · subst h8
      go_wp2
      go_ret
      exact ⟨rfl, HF.out⟩
    · have hlt : i < PS.length := by omega
      have ea : a = some ⟨bp, op, none⟩ := by
        rcases HA.out.2.1 with h | h
        · rw [h] at hlt; simp at hlt
        · exact h
      subst ea
      obtain ⟨p, kp⟩ : ∃ p, p = PS.getD i .none := ⟨_, rfl⟩
      have ex : (PS.map (·.X)).getD i [] = p.X := by rw [kp]; simp [List.getD, hlt]
      have g0 : wr.cell? ⟨bp, op + i, none⟩ = some (.slice p.a p.X.length p.c) := by
        have h := (HA.out.1 i hlt).1
        rw [HF.out.cell (p := ⟨bp, op + i, none⟩) (World.block_lt_of_cell? w _ h), h, ← kp]
        rfl
      have hl := HA.out.2.2.2.2.2 i (by have := HA.out.2.2.2.2.1; omega)
      rw [ex] at hl
      have g3 := cell_keep HF.out hl.1
      have OK : Hid (At p.a p.b p.o p.X ∧ Byo wr p.b p.o p.X ∧ p.X.length < 1073741824 ∧ Byo wr (gs.getD i 0) 0 (p.X ++ List.replicate 200 195)) := by
        have h := (HA.out.1 i hlt).2
        rw [← kp] at h
        refine ⟨h.1, h.2.2.keep HF.out, ?_, hl.2.2.1.1.keep HF.out⟩
        have h1 := catX_le (PS := PS) (i + 1)
        rw [catX_next hlt, List.length_append, ← kp] at h1
        have := HA.out.2.2.1
        omega
      clear kp hl ex
      generalize gs.getD i 0 = g at *
      go_wp2_with fail
      have r0 := fun d os => cell_regrown g0 d os
      have r3 := fun d os => cell_regrown g3 d os
      have S0 : Hid (∀ d os, Calls Tryd.prog 41 #[.slice (some ⟨g, 0, none⟩) p.X.length (p.X.length + 200), .slice p.a p.X.length p.c] (grow (redrawn wr d) os) fun e w' => e = .returned (.bool true) ∧ Below (grow (redrawn wr d) os).heap.size (grow (redrawn wr d) os) w') := fun d os =>
        still_any OK.out.2.2.1 OK.out.1 _ (OK.out.2.2.2.keep (below_regrown wr d os)) (OK.out.2.1.keep (below_regrown wr d os))
      refine wp_region_quiet_below (by kernel_rfl) (by kernel_rfl) ?_
      repeat
        first
          | go_big_quiet_skip
          | (go_big_quiet_want; go_big_quiet_op; go_big_quiet_on)
          | (go_big_quiet_want
             go_big_quiet_op
             apply Exists.intro
             refine ⟨fun p => ?_, ?_⟩
             · (go_at_call 41; exact Calls.regrown_of (S0.out _ _))
             go_big_quiet_on)
      refine wpQuiet_nil ?_
      rintro w5 ⟨q, rfl⟩
      have hb := below_regrown wr q.d q.os
      generalize grow (redrawn wr q.d) q.os = w5 at *
      have I5 : Hid (Below w.heap.size w w5) := HF.out.trans (hb.mono HF.out.size)
      clear hb S0
      go_wp2
      go_roundg (PS.length - (i + 1))
      case measure => have := HK.out; omega
      case rel => exact ⟨i + 1, rfl, by omega, by go_num, I5.out⟩

end Go.Proofs.YtcgibaggponfnaaDoor

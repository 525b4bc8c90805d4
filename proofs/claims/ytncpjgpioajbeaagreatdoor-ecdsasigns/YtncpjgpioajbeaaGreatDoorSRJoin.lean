import Derived.Test.YtncpjgpioajbeaaGreatDoorSCopied
namespace Go.Proofs.YtncpjgpioajbeaaGreatDoor.S
open Go.RowKit Go.Sort

set_option maxHeartbeats 4000000 in
theorem rjoined_any {a : Option Addr} {bp op cp : Nat} {PS : List Part} (hs : (catX PS).length < 1073741824) (hn : PS.length ≤ 1073741824) (ha : PS = [] ∨ a = some ⟨bp, op, none⟩) (w : World) (hP : Prts w bp op PS) :
    Calls Tryz.prog 136 #[.slice a PS.length cp] w fun e w' => ∃ v, e = .returned v ∧ Own w.heap.size w' v (catX PS) ∧ Below w.heap.size w w' := by
  obtain ⟨i0, hi, hz0, hz1, hz2⟩ := info_parts info_byte
  have HZ : Hid (Tryz.prog.info? 5 = some i0 ∧ i0.zero = some (.int .u8 0) ∧ i0.size = 1 ∧ i0.bytes = 1) := ⟨hi, hz0, hz1, hz2⟩
  have HA : Hid (Prts w bp op PS ∧ (PS = [] ∨ a = some ⟨bp, op, none⟩) ∧ (catX PS).length < 1073741824) := ⟨hP, ha, hs⟩
  have nb : (PS.length : Int) ≤ 1073741824 := by omega
  clear hP ha hs hi hz0 hz1 hz2 hn
  go_enter Tryz.func136, Tryz.ntmps136
  go_wp2_with fail
  go_loopg [3, 4] PS.length (fun k lv iv wr => ∃ i : Nat, k = PS.length - i ∧ i ≤ PS.length ∧ iv = .int .i64 i ∧ Own w.heap.size wr lv (catX (PS.take i)) ∧ Below w.heap.size w wr)
  case atStart => exact ⟨0, rfl, Nat.zero_le _, rfl, own_nil, Below.refl _ _⟩
  case round =>
    obtain ⟨i, hk, hi9, rfl, hown, hB⟩ := hrel
    have HK : Hid (gk = PS.length - i) := hk
    have HF : Hid (Own w.heap.size wr u3 (catX (PS.take i)) ∧ Below w.heap.size w wr) := ⟨hown, hB⟩
    clear hk hown hB
    by_cases h8 : i = PS.length
    · subst h8
      have HR : Hid (PS.take PS.length = PS) := List.take_length
      go_wp2
      go_ret
      exact ⟨_, rfl, by have h := HF.out.1; rw [HR.out] at h; exact h, HF.out.2⟩
    · have hlt : i < PS.length := by omega
      have hlt' : (i : Int) < (PS.length : Int) := by omega
      have ea : a = some ⟨bp, op, none⟩ := by
        rcases HA.out.2.1 with h | h
        · rw [h] at hlt; simp at hlt
        · exact h
      subst ea
      obtain ⟨p, kp⟩ : ∃ p, p = PS.getD i .none := ⟨_, rfl⟩
      have GP : Hid (∀ W, Below w.heap.size w W → W.cell? ⟨bp, op + i, none⟩ = some (.slice p.a p.X.length p.c)) := by
        intro W hB
        have h := (HA.out.1 i hlt).1
        rw [hB.cell (p := ⟨bp, op + i, none⟩) (World.block_lt_of_cell? w _ h), h, ← kp]
        rfl
      have OK : Hid (At p.a p.b p.o p.X ∧ Byo w p.b p.o p.X) := by
        have h := (HA.out.1 i hlt).2
        rw [← kp] at h
        exact ⟨h.1, h.2.2⟩
      have NX : Hid (catX (PS.take (i + 1)) = catX (PS.take i) ++ p.X) := by rw [kp]; exact catX_next hlt
      have LN : Hid ((catX (PS.take i)).length + p.X.length < 1073741824) := by
        have h1 := catX_le (PS := PS) (i + 1)
        rw [NX.out, List.length_append] at h1
        have := HA.out.2.2
        have h : (catX (PS.take i)).length + p.X.length < 1073741824 := by omega
        exact h
      clear kp
      have lp : (p.X.length : Int) < 1073741824 := by have := LN.out; omega
      obtain ⟨C, kC⟩ : ∃ C, C = catX (PS.take i) := ⟨_, rfl⟩
      rw [← kC] at HF NX LN
      clear kC
      obtain ⟨pa, pb, po, pc, pX⟩ := p
      dsimp only at GP OK NX LN lp
      go_wp2_with fail
      go_loopg [3, 5] pX.length (fun g lv kv wr => ∃ k : Nat, g = pX.length - k ∧ k ≤ pX.length ∧ kv = .int .i64 k ∧ Own w.heap.size wr lv (C ++ pX.take k) ∧ Below w.heap.size w wr)
      case atStart => exact ⟨0, rfl, Nat.zero_le _, rfl, by rw [List.take_zero, List.append_nil]; exact HF.out.1, HF.out.2⟩
      case round =>
        clear HF
        obtain ⟨k, hk, hk9, rfl, hown, hB⟩ := hrel
        rename_i v3
        have HK2 : Hid (gk = pX.length - k) := hk
        have HF : Hid (Own w.heap.size wr u3 (C ++ pX.take k) ∧ Below w.heap.size w wr) := ⟨hown, hB⟩
        clear hk hown hB
        have g0 := GP.out _ HF.out.2
        by_cases h9 : k = pX.length
        · subst h9
          have HR : Hid (pX.take pX.length = pX) := List.take_length
          go_wp2
          go_roundg (PS.length - (i + 1))
          case measure => have := HK.out; omega
          case rel => exact ⟨i + 1, rfl, by omega, by go_num, by have h := HF.out.1; rw [HR.out, ← NX.out] at h; exact h, HF.out.2⟩
        · have klt : k < pX.length := by omega
          have klt' : (k : Int) < (pX.length : Int) := by omega
          have ea : pa = some ⟨pb, po, none⟩ := by
            rcases OK.out.1 with h | h
            · rw [h] at klt; simp at klt
            · exact h
          subst ea
          have gx : wr.cell? ⟨pb, po + k, none⟩ = some (.int .u8 (Y (pX.getD k 0))) := by
            have h := OK.out.2 k klt
            rw [HF.out.2.cell (p := ⟨pb, po + k, none⟩) (World.block_lt_of_cell? w _ h)]; exact h
          have NK : Hid (C ++ pX.take (k + 1) = (C ++ pX.take k) ++ [pX.getD k 0]) := by rw [take_snoc klt, List.append_assoc]; exact rfl
          have LR : Hid ((C ++ pX.take k).length < 1073741824) := by
            have h : (C ++ pX.take k).length < 1073741824 := by rw [List.length_append, List.length_take]; have := LN.out; omega
            exact h
          generalize pX.getD k 0 = x at *
          go_wp2_with ((at_builtin; go_loud (refine wpList_append_own_at _ rfl _ _ 76 rfl w.heap.size 5 i0 (.int .u8 0) 1 1 Tryz.underlying76 HZ.out.1 HZ.out.2.1 HZ.out.2.2.1 HZ.out.2.2.2 rfl (by decide) u3 _ _ rfl (HF.out.1.row.alloc _) ⟨wr.heap.size, 0, none⟩ 1 1 [.int .u8 (Y x)] rfl rfl (cell_one_new _ _ _) (fun u hu => by simp at hu; subst hu; rfl) (by unfold maxLen; have := LR.out; omega) (by have := LR.out; omega) (by have := HF.out.2.size; simp; omega) ?_); intro v' w3 hown' hgrow3 hnil3 hblk))
          have HO : Hid (Own w.heap.size w3 v' (C ++ pX.take (k + 1)) ∧ Below w.heap.size w w3) := by
            refine ⟨?_, ?_⟩
            · rw [NK.out, Own, List.length_append, ← byts_snoc]
              exact hown'
            · exact (HF.out.2.alloc HF.out.2.size _).grown hgrow3 (by have := HF.out.2.size; simp; omega) (fun k hk => (HF.out.1.row.lt k hk).1)
          clear hown' hgrow3 hnil3 hblk
          go_roundg (pX.length - (k + 1))
          case measure => have := HK2.out; omega
          case rel => exact ⟨k + 1, rfl, by omega, by go_num, HO.out⟩

end Go.Proofs.YtncpjgpioajbeaaGreatDoor.S

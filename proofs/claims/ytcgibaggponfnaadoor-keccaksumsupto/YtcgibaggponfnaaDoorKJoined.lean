import Derived.Test.YtcgibaggponfnaaDoorKRDigest
namespace Go.Proofs.YtcgibaggponfnaaDoor
open Go.RowKit Go.Sort

set_option maxHeartbeats 4000000 in
theorem joined_any {a : Option Addr} {bp op cp : Nat} {PS : List Part} (hs : (catX PS).length < 1073741824) (hn : PS.length ≤ 1073741824) (ha : PS = [] ∨ a = some ⟨bp, op, none⟩) (hz : ∀ p ∈ PS, p.a = none → p.c = 0) (w : World) (hP : Prts w bp op PS) :
    Calls Tryd.prog 40 #[.slice a PS.length cp] w fun e w' => ∃ v, e = .returned v ∧ Own w.heap.size w' v (catX PS) ∧ Below w.heap.size w w' := by
  obtain ⟨i0, hi, hz0, hz1, hz2⟩ := info_parts info_byte
  have HZ : Hid (Tryd.prog.info? 5 = some i0 ∧ i0.zero = some (.int .u8 0) ∧ i0.size = 1 ∧ i0.bytes = 1) := ⟨hi, hz0, hz1, hz2⟩
  have HA : Hid (Prts w bp op PS ∧ (PS = [] ∨ a = some ⟨bp, op, none⟩) ∧ (catX PS).length < 1073741824 ∧ (∀ p ∈ PS, p.a = none → p.c = 0)) := ⟨hP, ha, hs, hz⟩
  have nb : (PS.length : Int) ≤ 1073741824 := by omega
  clear hP ha hs hi hz0 hz1 hz2 hn hz
  go_enter Tryd.func40, Tryd.ntmps40
  go_wp2_with fail
  go_loopg [3, 4] PS.length (fun k lv iv wr => ∃ i : Nat, k = PS.length - i ∧ i ≤ PS.length ∧ iv = .int .i64 i ∧ Own w.heap.size wr lv (catX (PS.take i)) ∧ Below w.heap.size w wr)
  case atStart => exact ⟨0, rfl, Nat.zero_le _, rfl, ⟨by simp [byts, catX], .inl ⟨rfl, by simp [catX]⟩⟩, Below.refl _ _⟩
  case round =>
    obtain ⟨i, hk, hi9, rfl, hown, hB⟩ := hrel
    have HK : Hid (gk = PS.length - i) := hk
    have HF : Hid (Own w.heap.size wr u3 (catX (PS.take i)) ∧ Below w.heap.size w wr) := ⟨hown, hB⟩
    clear hk hown hB
    by_cases h8 : i = PS.length
    · subst h8
      have HR : Hid (PS.take PS.length = PS) := List.take_length
      go_wp2
      go_ret
      exact ⟨_, rfl, by have h := HF.out.1; rw [HR.out] at h; exact h, HF.out.2⟩
    · have hlt : i < PS.length := by omega
      have hib : (i : Int) < 1073741824 := by omega
      have ea : a = some ⟨bp, op, none⟩ := by
        rcases HA.out.2.1 with h | h
        · rw [h] at hlt; simp at hlt
        · exact h
      subst ea
      obtain ⟨p, kp⟩ : ∃ p, p = PS.getD i .none := ⟨_, rfl⟩
      have hm : p ∈ PS := by rw [kp, List.getD, List.getElem?_eq_getElem hlt]; exact List.getElem_mem hlt
      have g0 : wr.cell? ⟨bp, op + i, none⟩ = some (.slice p.a p.X.length p.c) := by
        have h := (HA.out.1 i hlt).1
        rw [HF.out.2.cell (p := ⟨bp, op + i, none⟩) (World.block_lt_of_cell? w _ h), h, ← kp]
        rfl
      have OK : Hid (At p.a p.b p.o p.X ∧ Byo wr p.b p.o p.X ∧ (p.a = none → p.c = 0)) := by
        have h := (HA.out.1 i hlt).2
        rw [← kp] at h
        exact ⟨h.1, fun j hj => by rw [HF.out.2.cell (p := ⟨p.b, p.o + j, none⟩) (World.block_lt_of_cell? w _ (h.2.2 j hj))]; exact h.2.2 j hj, HA.out.2.2.2 p hm⟩
      have NX : Hid (catX (PS.take (i + 1)) = catX (PS.take i) ++ p.X) := by rw [kp]; exact catX_next hlt
      have LN : Hid ((catX (PS.take i)).length + p.X.length < 1073741824) := by
        have h1 := catX_le (PS := PS) (i + 1)
        rw [NX.out, List.length_append] at h1
        have := HA.out.2.2.1
        have h : (catX (PS.take i)).length + p.X.length < 1073741824 := by omega
        exact h
      clear kp hm
      obtain ⟨pa, pb, po, pc, pX⟩ := p
      cases pa with
      | none =>
        have e0 : pX = [] := by
          rcases OK.out.1 with h | h
          · exact h
          · cases h
        have e1 : pc = 0 := OK.out.2.2 rfl
        subst e0
        subst e1
        have NX2 : Hid (catX (PS.take (i + 1)) = catX (PS.take i)) := by rw [NX.out]; exact List.append_nil _
        clear NX
        dsimp only [List.length_nil] at g0
        have HF2 := HF
        obtain ⟨C, kC⟩ : ∃ C, C = catX (PS.take i) := ⟨_, rfl⟩
        rw [← kC] at HF NX2 LN
        clear kC HF2
        have e : u3 = .slice none 0 0 ∨ ∃ g c, u3 = .slice (some ⟨g, 0, none⟩) C.length c ∧ C.length ≤ c := by
          rcases HF.out.1.2 with ⟨e, _⟩ | ⟨g, cap, _, e, _, _, hle, _⟩
          · exact .inl e
          · exact .inr ⟨g, cap, e, hle⟩
        rcases e with rfl | ⟨g, c, rfl, hc⟩
        · go_wp2
          go_roundg (PS.length - (i + 1))
          case measure => have := HK.out; omega
          case rel => exact ⟨i + 1, rfl, by omega, by go_num, by rw [NX2.out]; exact HF.out.1, HF.out.2⟩
        · go_wp2
          go_roundg (PS.length - (i + 1))
          case measure => have := HK.out; omega
          case rel => exact ⟨i + 1, rfl, by omega, by go_num, by rw [NX2.out]; exact HF.out.1, HF.out.2⟩
      | some ad =>
        have nw : Hid (∀ j u, (byts pX)[j]? = some u → wr.cell? (ad.add j) = some u) := by
          intro j u hu
          unfold byts at hu
          rw [List.getElem?_map] at hu
          obtain ⟨x, hx, rfl⟩ := Option.map_eq_some_iff.1 hu
          have hj : j < pX.length := (List.getElem?_eq_some_iff.1 hx).1
          rcases OK.out.1 with h | h
          · have h' : pX = [] := h
            rw [h'] at hj; simp at hj
          · have h' : ad = ⟨pb, po, none⟩ := Option.some.inj h
            have hc := OK.out.2.1 j hj
            rw [h', Addr.add_mid, hc]
            simp [List.getD, hx]
        dsimp only at g0 NX LN
        go_wp2_with (at_builtin; refine wpList_append_own_at _ rfl _ _ 27 rfl w.heap.size 5 i0 (.int .u8 0) 1 1 Tryd.underlying27 HZ.out.1 HZ.out.2.1 HZ.out.2.2.1 HZ.out.2.2.2 rfl (by decide) u3 _ _ rfl HF.out.1.row ad pX.length pc (byts pX) rfl (by rw [byts_len, Nat.mul_one]) nw.out (fun u hu => by obtain ⟨x, _, rfl⟩ := List.mem_map.1 hu; rfl) (by unfold maxLen; have := LN.out; omega) (by have := LN.out; omega) HF.out.2.size ?_; intro v' w3 hown3 hgrow3 hnil3 hblk3; have I3 : Hid (Own w.heap.size w3 v' (catX (PS.take i) ++ pX) ∧ Below w.heap.size w w3) := ⟨by rw [Own, List.length_append]; rw [show byts (catX (PS.take i) ++ pX) = byts (catX (PS.take i)) ++ byts pX from List.map_append]; exact hown3, HF.out.2.grown hgrow3 HF.out.2.size (fun k hk => (HF.out.1.row.lt k hk).1)⟩; clear hown3 hgrow3 hnil3 hblk3)
        go_roundg (PS.length - (i + 1))
        case measure => have := HK.out; omega
        case rel => exact ⟨i + 1, rfl, by omega, by go_num, by rw [NX.out]; exact I3.out.1, I3.out.2⟩

end Go.Proofs.YtcgibaggponfnaaDoor

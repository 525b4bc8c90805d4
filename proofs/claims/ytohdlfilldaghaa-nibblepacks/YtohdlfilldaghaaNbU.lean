import Derived.Test.YtohdlfilldaghaaNbR
/- Layer 11: the document's Key. -/
namespace Go.Proofs.Ytohdlfilldaghaa
open Go.RowKit Go.Sort

set_option maxRecDepth 100000 in
set_option maxHeartbeats 8000000 in
theorem rkey_ok {b o c : Nat} {a : Option Addr} {R : List Int} (hr : rowB R = true) (hR : ∀ x ∈ R, 0 ≤ x ∧ x ≤ 15) (he : R.length % 2 = 0) (hT : R.length < 140737488355000) (ha : Az a b o R) (w : World) (hz : Bz w b o R) :
    Calls Try.prog 16 #[.slice a R.length c] w fun e w' => ∃ v', e = .returned (.tuple #[v', .int .i64 0]) ∧ OwnB w.heap.size w' v' (joinL R) ∧ Below w.heap.size w w' := by
  obtain ⟨i0, hi, hz0, hz1, hz2⟩ := info_parts info_byte
  obtain ⟨n, en⟩ : ∃ n, n = R.length / 2 := ⟨_, rfl⟩
  have hrw := rrow_any (c := c) hT ha w hz
  rw [hr] at hrw
  have HA : Hid ((∀ x ∈ R, 0 ≤ x ∧ x ≤ 15) ∧ R.length = 2 * n ∧ n < 140737488355320 ∧ Az a b o R ∧ Bz w b o R) := ⟨hR, by omega, by omega, ha, hz⟩
  obtain ⟨m, em⟩ : ∃ m, m = R.length := ⟨_, rfl⟩
  have l1 : (m : Int) < 140737488355000 := by omega
  have pe : (m : Int) % 2 = 0 := by omega
  rw [← em] at hrw ⊢
  have HM : Hid (R.length = m ∧ m = 2 * n) := ⟨em.symm, by omega⟩
  clear hR he hT ha hz en em hr
  go_enter Try.func16, Try.ntmps16
  go_wp2_with ((with_reducible refine hrw.mono ?_); rintro e1 w9 ⟨rfl, hw9⟩; (rw [hw9]); (clear hw9 w9))
  clear hrw pe
  go_loopg [4, 5] n (fun k tv iv wr => ∃ j : Nat, k = n - j ∧ j ≤ n ∧ iv = .int .i64 ((2 * j : Nat) : Int) ∧ OwnB w.heap.size wr tv (joinL (R.take (2 * j))) ∧ Below w.heap.size w wr)
  case atStart => exact ⟨0, rfl, Nat.zero_le _, rfl, OwnB.nil _ _, Below.refl _ _⟩
  case round =>
    obtain ⟨j, hk, hj, rfl, hown, hG⟩ := hrel
    have HK : Hid (gk = n - j) := hk
    have HF : Hid (OwnB w.heap.size wr u4 (joinL (R.take (2 * j))) ∧ Below w.heap.size w wr) := ⟨hown, hG⟩
    clear hk hown hG
    by_cases h8 : j = n
    · subst h8
      have HT : Hid (R.take (2 * j) = R) := by rw [← HA.out.2.1]; exact List.take_length
      have e8 : 2 * j = m := HM.out.2.symm
      rw [HT.out] at HF
      rw [e8]
      clear e8
      go_wp2
      simp [bodyPost, results, Try.results16, go_sem]
      exact HF.out
    · have hlt : j < n := by omega
      obtain ⟨k1, ek1⟩ : ∃ k : Nat, k = 2 * j := ⟨_, rfl⟩
      obtain ⟨k2, ek2⟩ : ∃ k : Nat, k = 2 * j + 1 := ⟨_, rfl⟩
      rw [← ek1]
      have hk1 : (k1 : Int) < (m : Int) := by have := HM.out.2; omega
      have hk2 : (k2 : Int) < (m : Int) := by have := HM.out.2; omega
      have e12 : (k1 : Int) + 1 = (k2 : Int) := by omega
      have e13 : (k1 : Int) + 2 = ((2 * (j + 1) : Nat) : Int) := by omega
      obtain rfl := HA.out.2.2.2.1.cons (by rw [HA.out.2.1]; omega)
      have bB : b < w.heap.size := by have := World.block_lt_of_cell? w _ (HA.out.2.2.2.2 0 (by rw [HA.out.2.1]; omega)); simpa using this
      have ec : ∀ (W : World), Below w.heap.size w W → W.cell? ⟨b, o + k1, none⟩ = some (.int .u8 (R.getD k1 0)) ∧ W.cell? ⟨b, o + k2, none⟩ = some (.int .u8 (R.getD k2 0)) := fun W hW => by
        have q1 := HA.out.2.2.2.2 k1 (by rw [HA.out.2.1]; omega)
        have q2 := HA.out.2.2.2.2 k2 (by rw [HA.out.2.1]; omega)
        rw [hW.cell (p := ⟨b, o + k1, none⟩) bB, hW.cell (p := ⟨b, o + k2, none⟩) bB]
        exact ⟨q1, q2⟩
      have mm : ∀ k, k < R.length → 0 ≤ R.getD k 0 ∧ R.getD k 0 ≤ 15 := fun k hk => by
        rw [List.getD, List.getElem?_eq_getElem hk]
        exact HA.out.1 _ (List.getElem_mem hk)
      obtain ⟨x10, x11⟩ := mm k1 (by rw [HA.out.2.1]; omega)
      obtain ⟨x20, x21⟩ := mm k2 (by rw [HA.out.2.1]; omega)
      have NX : Hid (joinL (R.take (2 * (j + 1))) = joinL (R.take (2 * j)) ++ [16 * R.getD k1 0 + R.getD k2 0]) := by
        rw [joinL_next (by rw [HA.out.2.1]; omega), ek1, ek2]; exact rfl
      have LR : Hid ((joinL (R.take (2 * j))).length < 140737488355320) := by
        show _ < _
        rw [joinL_len, List.length_take]; have := HA.out.2.2.1; omega
      generalize R.getD k1 0 = x1 at *
      generalize R.getD k2 0 = x2 at *
      have wu1 : IntKind.u8.wrap (16 * x1) = 16 * x1 := by rw [IntKind.wrap_u8']; omega
      have wu3 : IntKind.u8.wrap (16 * x1 + x2) = 16 * x1 + x2 := by rw [IntKind.wrap_u8']; omega
      have wi2 : IntKind.i64.wrap (k2 : Int) = (k2 : Int) := by rw [IntKind.wrap_i64]; omega
      obtain ⟨ld1, ld2⟩ := ec wr HF.out.2
      have EC : Hid _ := ec
      clear mm ec hlt ek2
      have EK : Hid (k1 = 2 * j) := ek1
      clear ek1
      go_wp2_with fail
      refine wp_region_held_drew (S := fun w' => w'.cell? ⟨b, o + k1, none⟩ = some (.int .u8 x1) ∧ w'.cell? ⟨b, o + k2, none⟩ = some (.int .u8 x2)) (by kernel_rfl) ⟨ld1, ld2⟩ (fun hHeld => ?_)
      refine wpAnyH_take (i := 0) (oi := _) (v := u4) rfl (by kernel_rfl) (by kernel_rfl) (by kernel_rfl) (fun _ _ _ h => h) (Or.inl ⟨by rfl, ?_⟩) (by assumption) ?_
      · intro wq hSw; obtain ⟨hq1, hq2⟩ := hSw
        first | (go_simp; done) | (go_simp; rfl) | (go_simp; exact wu1) | (go_simp; exact wi2) | (go_simp; exact wu3) | (simp [go_sem, *]; done)
      (try simp only [Act.put, List.setIfInBounds_toArray])
      refine wpAnyH_take (i := 1) (oi := _) (v := .slice (some ⟨b, o, none⟩) m c) rfl (by kernel_rfl) (by kernel_rfl) (by kernel_rfl) (fun _ _ _ h => h) (Or.inl ⟨by rfl, ?_⟩) (by assumption) ?_
      · intro wq hSw; obtain ⟨hq1, hq2⟩ := hSw
        first | (go_simp; done) | (go_simp; rfl) | (go_simp; exact wu1) | (go_simp; exact wi2) | (go_simp; exact wu3) | (simp [go_sem, *]; done)
      (try simp only [Act.put])
      refine wpAnyH_take (i := 2) (oi := _) (v := .int .i64 (k1 : Int)) rfl (by kernel_rfl) (by kernel_rfl) (by kernel_rfl) (fun _ _ _ h => h) (Or.inl ⟨by rfl, ?_⟩) (by assumption) ?_
      · intro wq hSw; obtain ⟨hq1, hq2⟩ := hSw
        first | (go_simp; done) | (go_simp; rfl) | (go_simp; exact wu1) | (go_simp; exact wi2) | (go_simp; exact wu3) | (simp [go_sem, *]; done)
      (try simp only [Act.put])
      refine wpAnyH_take (i := 3) (oi := _) (v := .pointer (some ⟨b, o + k1, none⟩)) rfl (by kernel_rfl) (by kernel_rfl) (by kernel_rfl) (fun _ _ _ h => h) (Or.inl ⟨by rfl, ?_⟩) (by assumption) ?_
      · intro wq hSw; obtain ⟨hq1, hq2⟩ := hSw
        first | (go_simp; done) | (go_simp; rfl) | (go_simp; exact wu1) | (go_simp; exact wi2) | (go_simp; exact wu3) | (simp [go_sem, *]; done)
      (try simp only [Act.put])
      refine wpAnyH_take (i := 4) (oi := _) (v := .int .u8 x1) rfl (by kernel_rfl) (by kernel_rfl) (by kernel_rfl) (fun _ _ _ h => h) (Or.inl ⟨by rfl, ?_⟩) (by assumption) ?_
      · intro wq hSw; obtain ⟨hq1, hq2⟩ := hSw
        first | (go_simp; done) | (go_simp; rfl) | (go_simp; exact wu1) | (go_simp; exact wi2) | (go_simp; exact wu3) | (simp [go_sem, *]; done)
      (try simp only [Act.put])
      refine wpAnyH_take (i := 5) (oi := _) (v := .int .u8 (16 * x1)) rfl (by kernel_rfl) (by kernel_rfl) (by kernel_rfl) (fun _ _ _ h => h) (Or.inl ⟨by rfl, ?_⟩) (by assumption) ?_
      · intro wq hSw; obtain ⟨hq1, hq2⟩ := hSw
        first | (go_simp; done) | (go_simp; rfl) | (go_simp; exact wu1) | (go_simp; exact wi2) | (go_simp; exact wu3) | (simp [go_sem, *]; done)
      (try simp only [Act.put])
      refine wpAnyH_take (i := 6) (oi := _) (v := .slice (some ⟨b, o, none⟩) m c) rfl (by kernel_rfl) (by kernel_rfl) (by kernel_rfl) (fun _ _ _ h => h) (Or.inl ⟨by rfl, ?_⟩) (by assumption) ?_
      · intro wq hSw; obtain ⟨hq1, hq2⟩ := hSw
        first | (go_simp; done) | (go_simp; rfl) | (go_simp; exact wu1) | (go_simp; exact wi2) | (go_simp; exact wu3) | (simp [go_sem, *]; done)
      (try simp only [Act.put])
      refine wpAnyH_take (i := 7) (oi := _) (v := .int .i64 (k1 : Int)) rfl (by kernel_rfl) (by kernel_rfl) (by kernel_rfl) (fun _ _ _ h => h) (Or.inl ⟨by rfl, ?_⟩) (by assumption) ?_
      · intro wq hSw; obtain ⟨hq1, hq2⟩ := hSw
        first | (go_simp; done) | (go_simp; rfl) | (go_simp; exact wu1) | (go_simp; exact wi2) | (go_simp; exact wu3) | (simp [go_sem, *]; done)
      (try simp only [Act.put])
      refine wpAnyH_take (i := 8) (oi := _) (v := .int .i64 (k2 : Int)) rfl (by kernel_rfl) (by kernel_rfl) (by kernel_rfl) (fun _ _ _ h => h) (Or.inl ⟨by rfl, ?_⟩) (by assumption) ?_
      · intro wq hSw; obtain ⟨hq1, hq2⟩ := hSw
        first | (go_simp; done) | (go_simp; rfl) | (go_simp; exact wu1) | (go_simp; exact wi2) | (go_simp; exact wu3) | (simp [go_sem, *]; done)
      (try simp only [Act.put])
      refine wpAnyH_take (i := 9) (oi := _) (v := .pointer (some ⟨b, o + k2, none⟩)) rfl (by kernel_rfl) (by kernel_rfl) (by kernel_rfl) (fun _ _ _ h => h) (Or.inl ⟨by rfl, ?_⟩) (by assumption) ?_
      · intro wq hSw; obtain ⟨hq1, hq2⟩ := hSw
        first | (go_simp; done) | (go_simp; rfl) | (go_simp; exact wu1) | (go_simp; exact wi2) | (go_simp; exact wu3) | (simp [go_sem, *]; done)
      (try simp only [Act.put])
      refine wpAnyH_take (i := 10) (oi := _) (v := .int .u8 x2) rfl (by kernel_rfl) (by kernel_rfl) (by kernel_rfl) (fun _ _ _ h => h) (Or.inl ⟨by rfl, ?_⟩) (by assumption) ?_
      · intro wq hSw; obtain ⟨hq1, hq2⟩ := hSw
        first | (go_simp; done) | (go_simp; rfl) | (go_simp; exact wu1) | (go_simp; exact wi2) | (go_simp; exact wu3) | (simp [go_sem, *]; done)
      (try simp only [Act.put])
      refine wpAnyH_take (i := 11) (oi := _) (v := .int .u8 (16 * x1 + x2)) rfl (by kernel_rfl) (by kernel_rfl) (by kernel_rfl) (fun _ _ _ h => h) (Or.inl ⟨by rfl, ?_⟩) (by assumption) ?_
      · intro wq hSw; obtain ⟨hq1, hq2⟩ := hSw
        first | (go_simp; done) | (go_simp; rfl) | (go_simp; exact wu1) | (go_simp; exact wi2) | (go_simp; exact wu3) | (simp [go_sem, *]; done)
      (try simp only [Act.put])
      refine wpAnyH_ready (rs := [12]) (by kernel_rfl) (by simp) ?_
      refine AllReadyH.cons rfl (fun K hK => ?_) AllReadyH.nil
      go_simp
      have HB : Hid (Below wr.heap.size wr (wr.alloc (.cells #[.int .u8 (16 * x1 + x2)] 5)).drew) := ((Below.refl _ _).alloc (Nat.le_refl _) _).drew
      refine hK.out _ _ ⟨cell_keep HB.out ld1, cell_keep HB.out ld2⟩ (fun hHeld => ?_)
      clear hK K
      refine wpAnyH_ready (rs := [13]) (by kernel_rfl) (by simp) ?_
      refine AllReadyH.cons rfl (fun K hK => ?_) AllReadyH.nil
      refine step_append_lies _ rfl _ _ 22 rfl w.heap.size 5 i0 (.int .u8 0) 1 1 Try.underlying22 hi hz0 hz1 hz2 rfl (by decide) u4 _ _ rfl (HF.out.1.keep HB.out).row ⟨wr.heap.size, 0, none⟩ 1 1 [.int .u8 (16 * x1 + x2)] rfl rfl (cell_oneN _ _ _) (fun u hu => by simp at hu; subst hu; rfl) (by decide) (by unfold maxLen; have := LR.out; omega) (by have := LR.out; omega) (by have := HF.out.2.size; simp; omega) _ rfl ?_
      intro g3 cap3 w3 hown' hgrow3 hblk hlt3
      have HO : Hid (OwnB w.heap.size w3 (.slice (some ⟨g3, 0, none⟩) ((joinL (R.take (2 * j))).length + 1) cap3) (joinL (R.take (2 * (j + 1)))) ∧ Below w.heap.size w w3) := by
        refine ⟨?_, ?_⟩
        · rw [NX.out, OwnB, List.length_append (bs := [_]), List.map_append]
          exact hown'
        · exact (HF.out.2.trans (HB.out.mono (by have := HF.out.2.size; omega))).grown hgrow3 (by have := HF.out.2.size; simp; omega) (fun k hk => (HF.out.1.lt k hk).1)
      refine hK.out _ _ (EC.out w3 HO.out.2) (fun hHeld => ?_)
      clear hK K hown' hgrow3 hblk hlt3
      generalize Value.slice (some ⟨g3, 0, none⟩) ((joinL (R.take (2 * j))).length + 1) cap3 = v' at *
      refine wpAnyH_take (i := 14) (oi := _) (v := v') rfl (by kernel_rfl) (by kernel_rfl) (by kernel_rfl) (fun _ _ _ h => h) (Or.inl ⟨by rfl, ?_⟩) (by assumption) ?_
      · intro wq hSw
        first | (go_simp; done) | (go_simp; rfl) | (go_simp; exact wu1) | (go_simp; exact wi2) | (go_simp; exact wu3) | (simp [go_sem, *]; done)
      (try simp only [Act.put])
      refine wpAnyH_done (by kernel_rfl) ?_ _
      go_wp2
      go_roundg (n - (j + 1))
      case measure => have := HK.out; omega
      case rel => exact ⟨j + 1, rfl, by omega, by go_num, HO.out.1, HO.out.2⟩
set_option maxRecDepth 100000 in
theorem rkey_any {b o c : Nat} {a : Option Addr} {X : List Int} (hX : Bys X) (hl : X.length < 140737488355000) (ha : Az a b o X) (w : World) (hz : Bz w b o X) :
    Calls Try.prog 16 #[.slice a X.length c] w fun e w' => ∃ v, e = .returned (.tuple #[v, .int .i64 (keyE X)]) ∧ OwnB w.heap.size w' v (keyX X) ∧ Below w.heap.size w w' := by
  have hr := rrow_any (c := c) hl ha w hz
  unfold keyE keyX
  by_cases h2 : rowB X = false
  · rw [if_pos (.inr h2), if_pos (.inr h2)]
    rw [h2] at hr
    clear hl ha hz hX h2
    go_enter Try.func16, Try.ntmps16
    go_wp2_with ((with_reducible refine hr.mono ?_); rintro e1 w9 ⟨rfl, hw9⟩; (rw [hw9]); (clear hw9 w9))
    simp [bodyPost, results, Try.results16, go_sem]
    exact ⟨OwnB.nil _ _, Below.refl _ _⟩
  · have h2' : rowB X = true := by simpa using h2
    by_cases h1 : X.length % 2 = 1
    · rw [if_pos (.inl h1), if_pos (.inl h1)]
      rw [h2'] at hr
      have p1 : (X.length : Int) % 2 = 1 := by omega
      clear hl ha hz hX h1 h2 h2'
      go_enter Try.func16, Try.ntmps16
      go_wp2_with ((with_reducible refine hr.mono ?_); rintro e1 w9 ⟨rfl, hw9⟩; (rw [hw9]); (clear hw9 w9))
      simp [bodyPost, results, Try.results16, go_sem]
      exact ⟨OwnB.nil _ _, Below.refl _ _⟩
    · rw [if_neg (by simp [h1, h2]), if_neg (by simp [h1, h2])]
      exact rkey_ok h2' ((rowB_iff hX).1 h2') (by omega) hl ha w hz
end Go.Proofs.Ytohdlfilldaghaa

import Derived.Test.YtidchaaahgnabaaDoorHxG
import Derived.Deep.RegionHeld
import Derived.Deep.AppendLies
namespace Go.Proofs.YtidchaaahgnabaaDoor
open Go.RowKit Go.Sort

theorem OwnB.made (W : World) (n : Nat) {B : Nat} (hB : B ≤ W.heap.size) (hn : n ≤ maxLen) : OwnB B (W.alloc (.cells (madeCells #[.int .u8 0] n) 5)) (.slice (some ⟨W.heap.size, 0, none⟩) n n) (List.replicate n 0) := by
  have h := World.ownsRow_lit (base := B) (e := 5) (size := 1) W (madeCells #[.int .u8 0] n) n hB hn (by rw [size_madeCells, Nat.mul_one])
  rw [toList_madeCells_one] at h
  rw [OwnB, List.length_replicate, List.map_replicate]
  exact h
set_option maxRecDepth 100000 in
set_option maxHeartbeats 4000000 in
theorem packed_any {a : Option Addr} {g c n : Nat} {t : ByteArray} (ht : t.size = 2 * n) (hn : n < 1073741824) (hd : dgs t) (ha : t.size ≠ 0 → a = some ⟨g, 0, none⟩) (w : World) (hD : Dl w g t) :
    Calls Tryd.prog 43 #[.slice a t.size c] w fun e w' => ∃ v, e = .returned v ∧ OwnB w.heap.size w' v (pk t n) ∧ Below w.heap.size w w' := by
  obtain ⟨i0, hi, hz0, hz1, hz2⟩ := info_partsH info_byteH
  have HA : Hid (dgs t ∧ t.size = 2 * n ∧ n < 1073741824 ∧ (t.size ≠ 0 → a = some ⟨g, 0, none⟩) ∧ Dl w g t) := ⟨hd, ht, hn, ha, hD⟩
  rw [ht]
  obtain ⟨m, em⟩ : ∃ m : Nat, m = 2 * n := ⟨_, rfl⟩
  rw [← em]
  have HM : Hid (m = 2 * n) := em
  clear hd ht hn ha hD em
  go_enter Tryd.func43, Tryd.ntmps43
  go_wp2_with fail
  go_loopg [3, 4] n (fun k lv iv wr => ∃ i : Nat, k = n - i ∧ i ≤ n ∧ iv = .int .i64 (2 * (i : Int)) ∧ OwnB w.heap.size wr lv (pk t i) ∧ Below w.heap.size w wr)
  case atStart => exact ⟨0, rfl, Nat.zero_le _, rfl, OwnB.nil _ _, Below.refl _ _⟩
  case round =>
    obtain ⟨i, hk, hi9, rfl, hown, B⟩ := hrel
    have HK : Hid (gk = n - i) := hk
    have HF : Hid (OwnB w.heap.size wr u3 (pk t i) ∧ Below w.heap.size w wr) := ⟨hown, B⟩
    clear hk hown B
    have ib : (i : Int) ≤ 1073741824 := by have := HA.out; omega
    by_cases h8 : i = n
    · subst h8
      have hlt : ¬ (2 * (i : Int) + 1 < (m : Int)) := by have := HM.out; omega
      go_wp2
      go_ret
      exact ⟨_, rfl, HF.out.1, HF.out.2⟩
    · have em : m = 2 * n := HM.out
      have hlt : 2 * (i : Int) + 1 < (m : Int) := by omega
      obtain rfl := HA.out.2.2.2.1 (by have := HA.out.2.1; omega)
      obtain ⟨k1, ek1⟩ : ∃ k : Nat, k = 2 * i := ⟨_, rfl⟩
      obtain ⟨k2, ek2⟩ : ∃ k : Nat, k = 2 * i + 1 := ⟨_, rfl⟩
      have s1 : k1 < m := by omega
      have s2 : k2 < m := by omega
      have e1 : 2 * (i : Int) = (k1 : Int) := by omega
      have e2 : (k1 : Int) + 1 = (k2 : Int) := by omega
      have b1 : (k1 : Int) ≤ 2147483648 := by omega
      have hq : ∀ k, k < m → 0 ≤ dv (bt t k) ∧ w.cell? ⟨g, k, none⟩ = some (.int .i64 (dv (bt t k))) := fun k hk => ⟨HA.out.1 k (by rw [HA.out.2.1]; omega), HA.out.2.2.2.2 k (by rw [HA.out.2.1]; omega)⟩
      have cw : ∀ k, k < m → wr.cell? ⟨g, k, none⟩ = some (.int .i64 (dv (bt t k))) := fun k hk => by
        rw [HF.out.2.cell (p := ⟨g, k, none⟩) (World.block_lt_of_cell? _ _ (hq k hk).2)]
        exact (hq k hk).2
      have ld1 := cw k1 s1
      have ld2 := cw k2 s2
      have v0 := (hq k1 s1).1
      have y0 := (hq k2 s2).1
      have v1 := (dv_low (bt t k1)).2
      have y1 := (dv_low (bt t k2)).2
      have HN : Hid (pk t (i + 1) = pk t i ++ [16 * dv (bt t k1) + dv (bt t k2)]) := by rw [ek1, ek2]; exact pk_snoc t i
      have LR : Hid ((pk t i).length = i ∧ i < 1073741824) := ⟨pk_len _ _, by have := HA.out.2.2.1; omega⟩
      clear cw hq ek1 ek2 hlt em
      obtain ⟨x1, HX1⟩ : ∃ x, Hid (x = dv (bt t k1)) := ⟨_, rfl⟩
      obtain ⟨x2, HX2⟩ : ∃ x, Hid (x = dv (bt t k2)) := ⟨_, rfl⟩
      rw [← HX1.out] at ld1 v0 v1 HN
      rw [← HX2.out] at ld2 y0 y1 HN
      have w1 : IntKind.i64.wrap ((k1 : Int) + 1) = (k2 : Int) := by rw [IntKind.wrap_i64]; omega
      have w2 : IntKind.i64.wrap (16 * x1) = 16 * x1 := by rw [IntKind.wrap_i64]; omega
      have w3 : IntKind.i64.wrap (16 * x1 + x2) = 16 * x1 + x2 := by rw [IntKind.wrap_i64]; omega
      have w4 : IntKind.u8.wrap (16 * x1 + x2) = 16 * x1 + x2 := by rw [IntKind.wrap_u8']; exact Int.emod_eq_of_lt (by omega) (by omega)
      have w5 : IntKind.i64.wrap (k2 : Int) = (k2 : Int) := by rw [IntKind.wrap_i64]; omega
      have t1 : (k1 : Int) < (m : Int) := by omega
      have t2 : (k2 : Int) < (m : Int) := by omega
      go_wp2_with fail
      refine wp_region_held_drew (S := fun w' => w'.cell? ⟨g, k1, none⟩ = some (.int .i64 x1) ∧ w'.cell? ⟨g, k2, none⟩ = some (.int .i64 x2)) (by kernel_rfl) ⟨ld1, ld2⟩ (fun hHeld => ?_)
      refine wpAnyH_take (i := 0) (oi := _) (v := u3) rfl (by kernel_rfl) (by kernel_rfl) (by kernel_rfl) (fun _ _ _ h => h) (Or.inl ⟨by rfl, ?_⟩) (by assumption) ?_
      · intro wq hSw; obtain ⟨hq1, hq2⟩ := hSw
        first | (go_simp; done) | (go_simp; rfl) | (simp [go_sem, *]; done)
      (try simp only [Act.put, List.setIfInBounds_toArray])
      refine wpAnyH_take (i := 1) (oi := _) (v := .slice (some ⟨g, 0, none⟩) m c) rfl (by kernel_rfl) (by kernel_rfl) (by kernel_rfl) (fun _ _ _ h => h) (Or.inl ⟨by rfl, ?_⟩) (by assumption) ?_
      · intro wq hSw; obtain ⟨hq1, hq2⟩ := hSw
        first | (go_simp; done) | (go_simp; rfl) | (simp [go_sem, *]; done)
      (try simp only [Act.put])
      refine wpAnyH_take (i := 2) (oi := _) (v := .int .i64 (k1 : Int)) rfl (by kernel_rfl) (by kernel_rfl) (by kernel_rfl) (fun _ _ _ h => h) (Or.inl ⟨by rfl, ?_⟩) (by assumption) ?_
      · intro wq hSw; obtain ⟨hq1, hq2⟩ := hSw
        first | (go_simp; done) | (go_simp; rfl) | (simp [go_sem, *]; done)
      (try simp only [Act.put])
      refine wpAnyH_take (i := 3) (oi := _) (v := .pointer (some ⟨g, k1, none⟩)) rfl (by kernel_rfl) (by kernel_rfl) (by kernel_rfl) (fun _ _ _ h => h) (Or.inl ⟨by rfl, ?_⟩) (by assumption) ?_
      · intro wq hSw; obtain ⟨hq1, hq2⟩ := hSw
        first | (go_simp; done) | (go_simp; rfl) | (simp [go_sem, *]; done)
      (try simp only [Act.put])
      refine wpAnyH_take (i := 4) (oi := _) (v := .int .i64 x1) rfl (by kernel_rfl) (by kernel_rfl) (by kernel_rfl) (fun _ _ _ h => h) (Or.inl ⟨by rfl, ?_⟩) (by assumption) ?_
      · intro wq hSw; obtain ⟨hq1, hq2⟩ := hSw
        first | (go_simp; done) | (go_simp; rfl) | (simp [go_sem, *]; done)
      (try simp only [Act.put])
      refine wpAnyH_take (i := 5) (oi := _) (v := .int .i64 (16 * x1)) rfl (by kernel_rfl) (by kernel_rfl) (by kernel_rfl) (fun _ _ _ h => h) (Or.inl ⟨by rfl, ?_⟩) (by assumption) ?_
      · intro wq hSw; obtain ⟨hq1, hq2⟩ := hSw
        first | (go_simp; done) | (go_simp; rfl) | (simp [go_sem, *]; done)
      (try simp only [Act.put])
      refine wpAnyH_take (i := 6) (oi := _) (v := .slice (some ⟨g, 0, none⟩) m c) rfl (by kernel_rfl) (by kernel_rfl) (by kernel_rfl) (fun _ _ _ h => h) (Or.inl ⟨by rfl, ?_⟩) (by assumption) ?_
      · intro wq hSw; obtain ⟨hq1, hq2⟩ := hSw
        first | (go_simp; done) | (go_simp; rfl) | (simp [go_sem, *]; done)
      (try simp only [Act.put])
      refine wpAnyH_take (i := 7) (oi := _) (v := .int .i64 (k1 : Int)) rfl (by kernel_rfl) (by kernel_rfl) (by kernel_rfl) (fun _ _ _ h => h) (Or.inl ⟨by rfl, ?_⟩) (by assumption) ?_
      · intro wq hSw; obtain ⟨hq1, hq2⟩ := hSw
        first | (go_simp; done) | (go_simp; rfl) | (simp [go_sem, *]; done)
      (try simp only [Act.put])
      refine wpAnyH_take (i := 8) (oi := _) (v := .int .i64 (k2 : Int)) rfl (by kernel_rfl) (by kernel_rfl) (by kernel_rfl) (fun _ _ _ h => h) (Or.inl ⟨by rfl, ?_⟩) (by assumption) ?_
      · intro wq hSw; obtain ⟨hq1, hq2⟩ := hSw
        first | (go_simp; done) | (go_simp; rfl) | (simp [go_sem, *]; done)
      (try simp only [Act.put])
      refine wpAnyH_take (i := 9) (oi := _) (v := .pointer (some ⟨g, k2, none⟩)) rfl (by kernel_rfl) (by kernel_rfl) (by kernel_rfl) (fun _ _ _ h => h) (Or.inl ⟨by rfl, ?_⟩) (by assumption) ?_
      · intro wq hSw; obtain ⟨hq1, hq2⟩ := hSw
        first | (go_simp; done) | (go_simp; rfl) | (simp [go_sem, *]; done)
      (try simp only [Act.put])
      refine wpAnyH_take (i := 10) (oi := _) (v := .int .i64 x2) rfl (by kernel_rfl) (by kernel_rfl) (by kernel_rfl) (fun _ _ _ h => h) (Or.inl ⟨by rfl, ?_⟩) (by assumption) ?_
      · intro wq hSw; obtain ⟨hq1, hq2⟩ := hSw
        first | (go_simp; done) | (go_simp; rfl) | (simp [go_sem, *]; done)
      (try simp only [Act.put])
      refine wpAnyH_take (i := 11) (oi := _) (v := .int .i64 (16 * x1 + x2)) rfl (by kernel_rfl) (by kernel_rfl) (by kernel_rfl) (fun _ _ _ h => h) (Or.inl ⟨by rfl, ?_⟩) (by assumption) ?_
      · intro wq hSw; obtain ⟨hq1, hq2⟩ := hSw
        first | (go_simp; done) | (go_simp; rfl) | (simp [go_sem, *]; done)
      (try simp only [Act.put])
      refine wpAnyH_take (i := 12) (oi := _) (v := .int .u8 (16 * x1 + x2)) rfl (by kernel_rfl) (by kernel_rfl) (by kernel_rfl) (fun _ _ _ h => h) (Or.inl ⟨by rfl, ?_⟩) (by assumption) ?_
      · intro wq hSw; obtain ⟨hq1, hq2⟩ := hSw
        first | (go_simp; done) | (go_simp; rfl) | (simp [go_sem, *]; done)
      (try simp only [Act.put])
      refine wpAnyH_ready (rs := [13]) (by kernel_rfl) (by simp) ?_
      refine AllReadyH.cons rfl (fun K hK => ?_) AllReadyH.nil
      go_simp
      have HB : Hid (Below wr.heap.size wr (wr.alloc (.cells #[.int .u8 (16 * x1 + x2)] 5)).drew) := ((Below.refl _ _).alloc (Nat.le_refl _) _).drew
      refine hK.out _ _ ⟨cellK HB.out ld1, cellK HB.out ld2⟩ (fun hHeld => ?_)
      clear hK K
      refine wpAnyH_ready (rs := [14]) (by kernel_rfl) (by simp) ?_
      refine AllReadyH.cons rfl (fun K hK => ?_) AllReadyH.nil
      refine step_append_lies _ rfl _ _ 30 rfl w.heap.size 5 i0 (.int .u8 0) 1 1 Tryd.underlying30 hi hz0 hz1 hz2 rfl (by decide) u3 _ _ rfl (HF.out.1.keep HB.out).row ⟨wr.heap.size, 0, none⟩ 1 1 [.int .u8 (16 * x1 + x2)] rfl rfl (cell_oneH _ _ _) (fun u hu => by simp at hu; subst hu; rfl) (by decide) (by unfold maxLen; have := LR.out; omega) (by have := LR.out; omega) (by have := HF.out.2.size; simp; omega) _ rfl ?_
      intro g3 cap3 w3 hown' hgrow3 hblk hlt3
      have HO : Hid (OwnB w.heap.size w3 (.slice (some ⟨g3, 0, none⟩) ((pk t i).length + 1) cap3) (pk t (i + 1)) ∧ Below w.heap.size w w3) := by
        refine ⟨?_, ?_⟩
        · rw [HN.out, OwnB, List.length_append, List.map_append]
          exact hown'
        · exact (HF.out.2.trans (HB.out.mono HF.out.2.size)).grown hgrow3 (by have := HF.out.2.size; simp; omega) (fun k hk => (HF.out.1.row.lt k hk).1)
      have ec : ∀ k, k < m → w3.cell? ⟨g, k, none⟩ = some (.int .i64 (dv (bt t k))) := fun k hk => by
        have := HA.out.2.2.2.2 k (by rw [HA.out.2.1]; have := HM.out; omega)
        rw [HO.out.2.cell (p := ⟨g, k, none⟩) (World.block_lt_of_cell? _ _ this)]
        exact this
      refine hK.out _ _ ⟨by rw [HX1.out]; exact ec k1 s1, by rw [HX2.out]; exact ec k2 s2⟩ (fun hHeld => ?_)
      clear hK K ec hown' hgrow3 hblk hlt3
      generalize Value.slice (some ⟨g3, 0, none⟩) ((pk t i).length + 1) cap3 = v' at *
      refine wpAnyH_take (i := 15) (oi := _) (v := v') rfl (by kernel_rfl) (by kernel_rfl) (by kernel_rfl) (fun _ _ _ h => h) (Or.inl ⟨by rfl, ?_⟩) (by assumption) ?_
      · intro wq hSw
        first | (go_simp; done) | (go_simp; rfl) | (simp [go_sem, *]; done)
      (try simp only [Act.put])
      refine wpAnyH_done (by kernel_rfl) ?_ _
      go_wp2
      go_roundg (n - (i + 1))
      case measure => have := HK.out; omega
      case rel => exact ⟨i + 1, rfl, by omega, by congr 1; have := e1; omega, HO.out.1, HO.out.2⟩
end Go.Proofs.YtidchaaahgnabaaDoor

import Derived.Test.YtohdlfilldaghaaNbC
import Derived.Deep.RegionHeld
import Derived.Deep.AppendLies
/- Layer 11: join, Key. -/
namespace Go.Proofs.Ytohdlfilldaghaa
open Go.RowKit Go.Sort

theorem joinL_next : ∀ {R : List Int} {j : Nat}, 2 * j + 1 < R.length → joinL (R.take (2 * (j + 1))) = joinL (R.take (2 * j)) ++ [16 * R.getD (2 * j) 0 + R.getD (2 * j + 1) 0]
  | [], _, h => by simp at h
  | [_], _, h => by simp at h
  | x :: y :: R, 0, _ => by simp [joinL]
  | x :: y :: R, j + 1, h => by
    have e1 : 2 * (j + 1 + 1) = 2 * (j + 1) + 1 + 1 := by omega
    have e2 : 2 * (j + 1) = 2 * j + 1 + 1 := by omega
    have ih := joinL_next (R := R) (j := j) (by simp at h; omega)
    rw [e1, List.take_succ_cons, List.take_succ_cons, joinL, ih, e2, List.take_succ_cons, List.take_succ_cons, joinL]
    simp
theorem cell_oneN (w : World) (x : Value) (t : TypeId) : ∀ (j : Nat) u, [x][j]? = some u → (w.alloc (.cells #[x] t)).drew.cell? (Addr.add ⟨w.heap.size, 0, none⟩ j) = some u := cell_one_new w x t

set_option maxRecDepth 100000 in
set_option maxHeartbeats 8000000 in
theorem join_any {B b o c : Nat} {a : Option Addr} {v : Value} {T R : List Int} (hR : ∀ x ∈ R, 0 ≤ x ∧ x ≤ 15) (he : R.length % 2 = 0) (hT : T.length + R.length / 2 < 140737488355320) (ha : Az a b o R) (hb : R ≠ [] → b < B) (w : World) (hB : B ≤ w.heap.size) (hz : Bz w b o R) (h : OwnB B w v T) :
    Calls Try.prog 14 #[v, .slice a R.length c] w fun e w' => ∃ v', e = .returned v' ∧ OwnB B w' v' (T ++ joinL R) ∧ Below B w w' := by
  obtain ⟨i0, hi, hz0, hz1, hz2⟩ := info_parts info_byte
  obtain ⟨n, en⟩ : ∃ n, n = R.length / 2 := ⟨_, rfl⟩
  have HA : Hid ((∀ x ∈ R, 0 ≤ x ∧ x ≤ 15) ∧ R.length = 2 * n ∧ T.length + n < 140737488355320 ∧ Az a b o R ∧ Bz w b o R ∧ OwnB B w v T ∧ B ≤ w.heap.size ∧ (R ≠ [] → b < B)) := ⟨hR, by omega, by omega, ha, hz, h, hB, hb⟩
  obtain ⟨m, em⟩ : ∃ m, m = R.length := ⟨_, rfl⟩
  have l1 : (m : Int) < 281474976710640 := by omega
  rw [← em]
  have HM : Hid (R.length = m ∧ m = 2 * n) := ⟨em.symm, by omega⟩
  clear hR he hT ha hb hB hz h en em
  go_enter Try.func14, Try.ntmps14
  go_wp2_with fail
  go_loopg [0, 5] n (fun k tv iv wr => ∃ j : Nat, k = n - j ∧ j ≤ n ∧ iv = .int .i64 ((2 * j : Nat) : Int) ∧ OwnB B wr tv (T ++ joinL (R.take (2 * j))) ∧ Below B w wr)
  case atStart => exact ⟨0, rfl, Nat.zero_le _, rfl, by simpa [joinL] using HA.out.2.2.2.2.2.1, Below.refl _ _⟩
  case round =>
    obtain ⟨j, hk, hj, rfl, hown, hG⟩ := hrel
    have HK : Hid (gk = n - j) := hk
    have HF : Hid (OwnB B wr u0 (T ++ joinL (R.take (2 * j))) ∧ Below B w wr) := ⟨hown, hG⟩
    clear hk hown hG
    by_cases h8 : j = n
    · subst h8
      have HT : Hid (R.take (2 * j) = R) := by rw [← HA.out.2.1]; exact List.take_length
      have e8 : 2 * j = m := HM.out.2.symm
      rw [HT.out] at HF
      rw [e8]
      clear e8
      go_wp2
      simp [bodyPost, results, Try.results14, go_sem]
      exact HF.out
    · have hlt : j < n := by omega
      obtain ⟨k1, ek1⟩ : ∃ k : Nat, k = 2 * j := ⟨_, rfl⟩
      obtain ⟨k2, ek2⟩ : ∃ k : Nat, k = 2 * j + 1 := ⟨_, rfl⟩
      rw [← ek1]
      have hk1 : (k1 : Int) < (m : Int) := by have := HM.out.2; omega
      have hk2 : (k2 : Int) < (m : Int) := by have := HM.out.2; omega
      have e12 : (k1 : Int) + 1 = (k2 : Int) := by omega
      have e13 : (k1 : Int) + 2 = ((2 * (j + 1) : Nat) : Int) := by omega
      obtain rfl := HA.out.2.2.2.1.cons (by rw [HA.out.2.1]; omega)
      have bB : b < B := HA.out.2.2.2.2.2.2.2 (fun e => by have := HA.out.2.1; rw [e] at this; simp at this; omega)
      have ec : ∀ (W : World), Below B w W → W.cell? ⟨b, o + k1, none⟩ = some (.int .u8 (R.getD k1 0)) ∧ W.cell? ⟨b, o + k2, none⟩ = some (.int .u8 (R.getD k2 0)) := fun W hW => by
        have q1 := HA.out.2.2.2.2.1 k1 (by rw [HA.out.2.1]; omega)
        have q2 := HA.out.2.2.2.2.1 k2 (by rw [HA.out.2.1]; omega)
        rw [hW.cell (p := ⟨b, o + k1, none⟩) bB, hW.cell (p := ⟨b, o + k2, none⟩) bB]
        exact ⟨q1, q2⟩
      have mm : ∀ k, k < R.length → 0 ≤ R.getD k 0 ∧ R.getD k 0 ≤ 15 := fun k hk => by
        rw [List.getD, List.getElem?_eq_getElem hk]
        exact HA.out.1 _ (List.getElem_mem hk)
      obtain ⟨x10, x11⟩ := mm k1 (by rw [HA.out.2.1]; omega)
      obtain ⟨x20, x21⟩ := mm k2 (by rw [HA.out.2.1]; omega)
      have NX : Hid (T ++ joinL (R.take (2 * (j + 1))) = (T ++ joinL (R.take (2 * j))) ++ [16 * R.getD k1 0 + R.getD k2 0]) := by
        rw [joinL_next (by rw [HA.out.2.1]; omega), ek1, ek2, List.append_assoc]; exact rfl
      have LR : Hid ((T ++ joinL (R.take (2 * j))).length < 140737488355320) := by
        show _ < _
        rw [List.length_append, joinL_len, List.length_take]; have := HA.out.2.2.1; omega
      generalize R.getD k1 0 = x1 at *
      generalize R.getD k2 0 = x2 at *
      have hor := or_nib x10 x11 x20 x21
      have wu1 : IntKind.u8.wrap (x1 * 16) = x1 * 16 := by rw [IntKind.wrap_u8']; omega
      have wi2 : IntKind.i64.wrap (k2 : Int) = (k2 : Int) := by rw [IntKind.wrap_i64]; omega
      obtain ⟨ld1, ld2⟩ := ec wr HF.out.2
      have EC : Hid _ := ec
      clear mm ec hlt ek2
      have EK : Hid (k1 = 2 * j) := ek1
      clear ek1
      go_wp2_with fail
      refine wp_region_held_drew (S := fun w' => w'.cell? ⟨b, o + k1, none⟩ = some (.int .u8 x1) ∧ w'.cell? ⟨b, o + k2, none⟩ = some (.int .u8 x2)) (by kernel_rfl) ⟨ld1, ld2⟩ (fun hHeld => ?_)
      refine wpAnyH_take (i := 0) (oi := _) (v := u0) rfl (by kernel_rfl) (by kernel_rfl) (by kernel_rfl) (fun _ _ _ h => h) (Or.inl ⟨by rfl, ?_⟩) (by assumption) ?_
      · intro wq hSw; obtain ⟨hq1, hq2⟩ := hSw
        first | (go_simp; done) | (go_simp; rfl) | (go_simp; exact wu1) | (go_simp; exact wi2) | (simp [go_sem, *]; done)
      (try simp only [Act.put, List.setIfInBounds_toArray])
      refine wpAnyH_take (i := 1) (oi := _) (v := .slice (some ⟨b, o, none⟩) m c) rfl (by kernel_rfl) (by kernel_rfl) (by kernel_rfl) (fun _ _ _ h => h) (Or.inl ⟨by rfl, ?_⟩) (by assumption) ?_
      · intro wq hSw; obtain ⟨hq1, hq2⟩ := hSw
        first | (go_simp; done) | (go_simp; rfl) | (go_simp; exact wu1) | (go_simp; exact wi2) | (simp [go_sem, *]; done)
      (try simp only [Act.put])
      refine wpAnyH_take (i := 2) (oi := _) (v := .int .i64 (k1 : Int)) rfl (by kernel_rfl) (by kernel_rfl) (by kernel_rfl) (fun _ _ _ h => h) (Or.inl ⟨by rfl, ?_⟩) (by assumption) ?_
      · intro wq hSw; obtain ⟨hq1, hq2⟩ := hSw
        first | (go_simp; done) | (go_simp; rfl) | (go_simp; exact wu1) | (go_simp; exact wi2) | (simp [go_sem, *]; done)
      (try simp only [Act.put])
      refine wpAnyH_take (i := 3) (oi := _) (v := .pointer (some ⟨b, o + k1, none⟩)) rfl (by kernel_rfl) (by kernel_rfl) (by kernel_rfl) (fun _ _ _ h => h) (Or.inl ⟨by rfl, ?_⟩) (by assumption) ?_
      · intro wq hSw; obtain ⟨hq1, hq2⟩ := hSw
        first | (go_simp; done) | (go_simp; rfl) | (go_simp; exact wu1) | (go_simp; exact wi2) | (simp [go_sem, *]; done)
      (try simp only [Act.put])
      refine wpAnyH_take (i := 4) (oi := _) (v := .int .u8 x1) rfl (by kernel_rfl) (by kernel_rfl) (by kernel_rfl) (fun _ _ _ h => h) (Or.inl ⟨by rfl, ?_⟩) (by assumption) ?_
      · intro wq hSw; obtain ⟨hq1, hq2⟩ := hSw
        first | (go_simp; done) | (go_simp; rfl) | (go_simp; exact wu1) | (go_simp; exact wi2) | (simp [go_sem, *]; done)
      (try simp only [Act.put])
      refine wpAnyH_take (i := 5) (oi := _) (v := .int .u8 (x1 * 16)) rfl (by kernel_rfl) (by kernel_rfl) (by kernel_rfl) (fun _ _ _ h => h) (Or.inl ⟨by rfl, ?_⟩) (by assumption) ?_
      · intro wq hSw; obtain ⟨hq1, hq2⟩ := hSw
        first | (go_simp; done) | (go_simp; rfl) | (go_simp; exact wu1) | (go_simp; exact wi2) | (simp [go_sem, *]; done)
      (try simp only [Act.put])
      refine wpAnyH_take (i := 6) (oi := _) (v := .slice (some ⟨b, o, none⟩) m c) rfl (by kernel_rfl) (by kernel_rfl) (by kernel_rfl) (fun _ _ _ h => h) (Or.inl ⟨by rfl, ?_⟩) (by assumption) ?_
      · intro wq hSw; obtain ⟨hq1, hq2⟩ := hSw
        first | (go_simp; done) | (go_simp; rfl) | (go_simp; exact wu1) | (go_simp; exact wi2) | (simp [go_sem, *]; done)
      (try simp only [Act.put])
      refine wpAnyH_take (i := 7) (oi := _) (v := .int .i64 (k1 : Int)) rfl (by kernel_rfl) (by kernel_rfl) (by kernel_rfl) (fun _ _ _ h => h) (Or.inl ⟨by rfl, ?_⟩) (by assumption) ?_
      · intro wq hSw; obtain ⟨hq1, hq2⟩ := hSw
        first | (go_simp; done) | (go_simp; rfl) | (go_simp; exact wu1) | (go_simp; exact wi2) | (simp [go_sem, *]; done)
      (try simp only [Act.put])
      refine wpAnyH_take (i := 8) (oi := _) (v := .int .i64 (k2 : Int)) rfl (by kernel_rfl) (by kernel_rfl) (by kernel_rfl) (fun _ _ _ h => h) (Or.inl ⟨by rfl, ?_⟩) (by assumption) ?_
      · intro wq hSw; obtain ⟨hq1, hq2⟩ := hSw
        first | (go_simp; done) | (go_simp; rfl) | (go_simp; exact wu1) | (go_simp; exact wi2) | (simp [go_sem, *]; done)
      (try simp only [Act.put])
      refine wpAnyH_take (i := 9) (oi := _) (v := .pointer (some ⟨b, o + k2, none⟩)) rfl (by kernel_rfl) (by kernel_rfl) (by kernel_rfl) (fun _ _ _ h => h) (Or.inl ⟨by rfl, ?_⟩) (by assumption) ?_
      · intro wq hSw; obtain ⟨hq1, hq2⟩ := hSw
        first | (go_simp; done) | (go_simp; rfl) | (go_simp; exact wu1) | (go_simp; exact wi2) | (simp [go_sem, *]; done)
      (try simp only [Act.put])
      refine wpAnyH_take (i := 10) (oi := _) (v := .int .u8 x2) rfl (by kernel_rfl) (by kernel_rfl) (by kernel_rfl) (fun _ _ _ h => h) (Or.inl ⟨by rfl, ?_⟩) (by assumption) ?_
      · intro wq hSw; obtain ⟨hq1, hq2⟩ := hSw
        first | (go_simp; done) | (go_simp; rfl) | (go_simp; exact wu1) | (go_simp; exact wi2) | (simp [go_sem, *]; done)
      (try simp only [Act.put])
      refine wpAnyH_take (i := 11) (oi := _) (v := .int .u8 (16 * x1 + x2)) rfl (by kernel_rfl) (by kernel_rfl) (by kernel_rfl) (fun _ _ _ h => h) (Or.inl ⟨by rfl, ?_⟩) (by assumption) ?_
      · intro wq hSw; obtain ⟨hq1, hq2⟩ := hSw
        first | (go_simp; done) | (go_simp; rfl) | (go_simp; exact wu1) | (go_simp; exact wi2) | (simp [go_sem, *]; done)
      (try simp only [Act.put])
      refine wpAnyH_ready (rs := [12]) (by kernel_rfl) (by simp) ?_
      refine AllReadyH.cons rfl (fun K hK => ?_) AllReadyH.nil
      go_simp
      have HB : Hid (Below wr.heap.size wr (wr.alloc (.cells #[.int .u8 (16 * x1 + x2)] 5)).drew) := ((Below.refl _ _).alloc (Nat.le_refl _) _).drew
      refine hK.out _ _ ⟨cell_keep HB.out ld1, cell_keep HB.out ld2⟩ (fun hHeld => ?_)
      clear hK K
      refine wpAnyH_ready (rs := [13]) (by kernel_rfl) (by simp) ?_
      refine AllReadyH.cons rfl (fun K hK => ?_) AllReadyH.nil
      refine step_append_lies _ rfl _ _ 22 rfl B 5 i0 (.int .u8 0) 1 1 Try.underlying22 hi hz0 hz1 hz2 rfl (by decide) u0 _ _ rfl (HF.out.1.keep HB.out).row ⟨wr.heap.size, 0, none⟩ 1 1 [.int .u8 (16 * x1 + x2)] rfl rfl (cell_oneN _ _ _) (fun u hu => by simp at hu; subst hu; rfl) (by decide) (by unfold maxLen; have := LR.out; omega) (by have := LR.out; omega) (by have := HF.out.2.size; have := HA.out.2.2.2.2.2.2.1; simp; omega) _ rfl ?_
      intro g3 cap3 w3 hown' hgrow3 hblk hlt3
      have HO : Hid (OwnB B w3 (.slice (some ⟨g3, 0, none⟩) ((T ++ joinL (R.take (2 * j))).length + 1) cap3) (T ++ joinL (R.take (2 * (j + 1)))) ∧ Below B w w3) := by
        refine ⟨?_, ?_⟩
        · rw [NX.out, OwnB, List.length_append (bs := [_]), List.map_append]
          exact hown'
        · exact (HF.out.2.trans (HB.out.mono (by have := HF.out.2.size; have := HA.out.2.2.2.2.2.2.1; omega))).grown hgrow3 (by have := HF.out.2.size; have := HA.out.2.2.2.2.2.2.1; simp; omega) (fun k hk => (HF.out.1.lt k hk).1)
      refine hK.out _ _ (EC.out w3 HO.out.2) (fun hHeld => ?_)
      clear hK K hown' hgrow3 hblk hlt3
      generalize Value.slice (some ⟨g3, 0, none⟩) ((T ++ joinL (R.take (2 * j))).length + 1) cap3 = v' at *
      refine wpAnyH_take (i := 14) (oi := _) (v := v') rfl (by kernel_rfl) (by kernel_rfl) (by kernel_rfl) (fun _ _ _ h => h) (Or.inl ⟨by rfl, ?_⟩) (by assumption) ?_
      · intro wq hSw
        first | (go_simp; done) | (go_simp; rfl) | (go_simp; exact wu1) | (go_simp; exact wi2) | (simp [go_sem, *]; done)
      (try simp only [Act.put])
      refine wpAnyH_done (by kernel_rfl) ?_ _
      go_wp2
      go_roundg (n - (j + 1))
      case measure => have := HK.out; omega
      case rel => exact ⟨j + 1, rfl, by omega, by go_num, HO.out.1, HO.out.2⟩

/-- Key: its error, its answer. -/
def keyE (X : List Int) : Int := if X.length % 2 = 1 ∨ rowB X = false then 110 else 0
def keyX (X : List Int) : List Int := if X.length % 2 = 1 ∨ rowB X = false then [] else joinL X
end Go.Proofs.Ytohdlfilldaghaa

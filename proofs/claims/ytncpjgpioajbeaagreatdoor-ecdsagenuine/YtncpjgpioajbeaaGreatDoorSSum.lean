import Derived.Test.YtncpjgpioajbeaaGreatDoorSWrite
import Derived.Test.YtncpjgpioajbeaaGreatDoorSPad
namespace Go.Proofs.YtncpjgpioajbeaaGreatDoor.S
open Go.RowKit Go.Sort

/-- A hasher's cells. -/
noncomputable def hcells (S : List (BitVec 32)) (K : List (BitVec 8)) (T : Nat) : List Value := wrds S ++ (byts K ++ [.int .i64 (T : Int)])
theorem hcells_len {S : List (BitVec 32)} {K : List (BitVec 8)} (T : Nat) (h1 : S.length = 8) (h2 : K.length = 64) : (hcells S K T).length = 73 := by simp [hcells, wrds_len, byts_len, h1, h2]
theorem one_hcells (S : List (BitVec 32)) (K : List (BitVec 8)) (T : Nat) : (hcells S K T).toArray.all (·.oneCell') = true := all_oneCell_toArray (by
  intro v hv
  rw [hcells, List.mem_append, List.mem_append] at hv
  rcases hv with h | h | h
  · obtain ⟨x, _, rfl⟩ := List.mem_map.1 h; rfl
  · obtain ⟨x, _, rfl⟩ := List.mem_map.1 h; rfl
  · simp at h; subst h; rfl)
theorem hcells_S {S : List (BitVec 32)} {K : List (BitVec 8)} {T i : Nat} (h1 : S.length = 8) (hi : i < 8) : (hcells S K T)[i]? = some (.int .u32 (U (S.getD i 0))) := by
  rw [hcells, List.getElem?_append_left (by rw [wrds_len]; omega)]
  simp [wrds, List.getD, show i < S.length by omega]
theorem hcells_K {S : List (BitVec 32)} {K : List (BitVec 8)} {T i : Nat} (h1 : S.length = 8) (h2 : K.length = 64) (hi : i < 64) : (hcells S K T)[8 + i]? = some (.int .u8 (Y (K.getD i 0))) := by
  rw [hcells, List.getElem?_append_right (by rw [wrds_len]; omega), wrds_len, h1, Nat.add_sub_cancel_left, List.getElem?_append_left (by rw [byts_len]; omega)]
  simp [byts, List.getD, show i < K.length by omega]
theorem hcells_T {S : List (BitVec 32)} {K : List (BitVec 8)} {T : Nat} (h1 : S.length = 8) (h2 : K.length = 64) : (hcells S K T)[72]? = some (.int .i64 (T : Int)) := by
  rw [hcells, List.getElem?_append_right (by rw [wrds_len]; omega), wrds_len, h1, List.getElem?_append_right (by rw [byts_len]; omega), byts_len, h2]
  rfl
theorem Hs.range {W : World} {b : Nat} {S : List (BitVec 32)} {K : List (BitVec 8)} {T : Nat} (h : Hs W b S K T) : W.rangeAt b 0 (hcells S K T) := by
  intro j v hv
  rw [Nat.zero_add]
  have hj : j < 73 := by
    have := (List.getElem?_eq_some_iff.1 hv).1
    rw [hcells_len T h.sl h.kl] at this
    exact this
  by_cases h1 : j < 8
  · rw [hcells_S h.sl h1] at hv
    have := h.st j (by rw [h.sl]; exact h1)
    rw [Nat.zero_add] at this
    rw [this, hv]
  · by_cases h2 : j < 72
    · obtain ⟨i, rfl⟩ : ∃ i, j = 8 + i := ⟨j - 8, by omega⟩
      rw [hcells_K h.sl h.kl (by omega)] at hv
      rw [h.bk i (by rw [h.kl]; omega), hv]
    · obtain rfl : j = 72 := by omega
      rw [hcells_T h.sl h.kl] at hv
      rw [h.tk, hv]
theorem Hs.of_range {W : World} {b : Nat} {S : List (BitVec 32)} {K : List (BitVec 8)} {T : Nat} (h1 : S.length = 8) (h2 : K.length = 64) (h : W.rangeAt b 0 (hcells S K T)) (hl : Loose W b 73) : Hs W b S K T := by
  refine ⟨h1, h2, fun j hj => ?_, fun j hj => ?_, ?_, hl⟩
  · exact h j _ (hcells_S h1 (by omega))
  · have := h (8 + j) _ (hcells_K h1 h2 (by omega)); rwa [Nat.zero_add] at this
  · have := h 72 _ (hcells_T h1 h2); exact this

theorem zeroHs (w : World) : (zeroValue 104).run Tryz.prog w = .ok (.agg #[.int .u32 0, .int .u32 0, .int .u32 0, .int .u32 0, .int .u32 0, .int .u32 0, .int .u32 0, .int .u32 0, .int .u8 0, .int .u8 0, .int .u8 0, .int .u8 0, .int .u8 0, .int .u8 0, .int .u8 0, .int .u8 0, .int .u8 0, .int .u8 0, .int .u8 0, .int .u8 0, .int .u8 0, .int .u8 0, .int .u8 0, .int .u8 0, .int .u8 0, .int .u8 0, .int .u8 0, .int .u8 0, .int .u8 0, .int .u8 0, .int .u8 0, .int .u8 0, .int .u8 0, .int .u8 0, .int .u8 0, .int .u8 0, .int .u8 0, .int .u8 0, .int .u8 0, .int .u8 0, .int .u8 0, .int .u8 0, .int .u8 0, .int .u8 0, .int .u8 0, .int .u8 0, .int .u8 0, .int .u8 0, .int .u8 0, .int .u8 0, .int .u8 0, .int .u8 0, .int .u8 0, .int .u8 0, .int .u8 0, .int .u8 0, .int .u8 0, .int .u8 0, .int .u8 0, .int .u8 0, .int .u8 0, .int .u8 0, .int .u8 0, .int .u8 0, .int .u8 0, .int .u8 0, .int .u8 0, .int .u8 0, .int .u8 0, .int .u8 0, .int .u8 0, .int .u8 0, .int .i64 0]) w := by
  have h : (Tryz.prog.info? 104).map (·.zero) = some (some (.agg #[.int .u32 0, .int .u32 0, .int .u32 0, .int .u32 0, .int .u32 0, .int .u32 0, .int .u32 0, .int .u32 0, .int .u8 0, .int .u8 0, .int .u8 0, .int .u8 0, .int .u8 0, .int .u8 0, .int .u8 0, .int .u8 0, .int .u8 0, .int .u8 0, .int .u8 0, .int .u8 0, .int .u8 0, .int .u8 0, .int .u8 0, .int .u8 0, .int .u8 0, .int .u8 0, .int .u8 0, .int .u8 0, .int .u8 0, .int .u8 0, .int .u8 0, .int .u8 0, .int .u8 0, .int .u8 0, .int .u8 0, .int .u8 0, .int .u8 0, .int .u8 0, .int .u8 0, .int .u8 0, .int .u8 0, .int .u8 0, .int .u8 0, .int .u8 0, .int .u8 0, .int .u8 0, .int .u8 0, .int .u8 0, .int .u8 0, .int .u8 0, .int .u8 0, .int .u8 0, .int .u8 0, .int .u8 0, .int .u8 0, .int .u8 0, .int .u8 0, .int .u8 0, .int .u8 0, .int .u8 0, .int .u8 0, .int .u8 0, .int .u8 0, .int .u8 0, .int .u8 0, .int .u8 0, .int .u8 0, .int .u8 0, .int .u8 0, .int .u8 0, .int .u8 0, .int .u8 0, .int .i64 0])) := by kernel_rfl
  obtain ⟨i, hi, hz⟩ := Option.map_eq_some_iff.1 h
  simp [zeroValue, typeInfo, go_sem, hi, hz]
theorem there_new {W : World} {b n : Nat} (arr : Array Value) (t : TypeId) (e : b = W.heap.size) (hn : arr.size = n) : (W.alloc (.cells arr t)).there b 0 n := by
  subst e hn
  intro j hj
  rw [Nat.zero_add, World.cell?_alloc_mark]
  refine ⟨?_, by simp [go_sem]⟩
  rw [Array.getElem?_eq_getElem hj]
  rfl
theorem Hs.stored {W : World} {b : Nat} {S : List (BitVec 32)} {K : List (BitVec 8)} {T : Nat} (h1 : S.length = 8) (h2 : K.length = 64) (h : W.there b 0 73) : Hs (W.setCells b 0 (hcells S K T)) b S K T :=
  .of_range h1 h2 (World.rangeAt_setCells_same _ _ _ _ (by rw [hcells_len T h1 h2]; exact h)) (Loose.setCells (fun i hi => by have := (h i hi).2; rwa [Nat.zero_add] at this) _ _ _)

set_option maxRecDepth 100000 in
set_option maxHeartbeats 4000000 in
theorem ssum_any {b : Nat} {X : List (BitVec 8)} (hl : X.length < 1073740000) (w : World) (hX : Tx w b X) (hf : Wds w 2 0 hN) (hk : Wds w 3 0 kN) :
    Calls Tryz.prog 76 #[.pointer (some ⟨b, 0, none⟩)] w fun e w' => e = .returned (.agg (byts (shaL X)).toArray) ∧ Below w.heap.size w w' := by
  have HH : Hid (Tx w b X ∧ Wds w 2 0 hN ∧ Wds w 3 0 kN ∧ X.length < 1073740000 ∧ b < w.heap.size) := ⟨hX, hf, hk, hl, Hs.lt hX⟩
  clear hX hf hk hl
  go_enter Tryz.func76, Tryz.ntmps76
  obtain ⟨N, kN⟩ : ∃ N, N = hcells (stX X) (bkX X) X.length := ⟨_, rfl⟩
  have lN : Hid (N.length = 73) := by rw [kN]; exact hcells_len _ (stX_len X) (bkX_len X)
  have il2 : (Tryz.prog.info? 104).map (·.size) = some N.length := by rw [lN.out]; kernel_rfl
  have sz : N.toArray.size = 73 := by simp [lN.out]
  have il3 : (Tryz.prog.info? 104).map (·.size) = some N.toArray.size := by rw [sz]; kernel_rfl
  have oc : N.toArray.all (·.oneCell') = true := by rw [kN]; exact one_hcells _ _ _
  have KN : Hid (N = hcells (stX X) (bkX X) X.length) := kN
  have rb2 := fun o => (show (w.alloc o).rangeAt b 0 N from by rw [KN.out]; exact (Hs.keep HH.out.1 ((Below.refl _ _).alloc (Nat.le_refl _) o)).range)
  clear kN
  have zh := zeroHs
  go_wp2_with (first
    | ((with_reducible refine wpList_load_at (ty := 104) b 0 N _ (rb2 _) Tryz.underlying104 ?_ il2 ?_ ?_); rfl; rfl; simp only [Act.put, List.setIfInBounds_toArray, List.set_cons_succ, List.set_cons_zero])
    | ((with_reducible refine wpList_store_at (ty := 104) (w.heap.size + 1) 0 N.toArray ?_ il3 oc ?_ ?_ ?_); rw [sz]; exact there_new _ _ (by simp) rfl; rfl; rfl; refine wpList_world (fun W => Below w.heap.size w W ∧ Hsh W w.heap.size (List.replicate 32 0) ∧ Tx W (w.heap.size + 1) X) ⟨below_setCells (by omega) _ 0 _ (((Below.refl _ _).alloc (Nat.le_refl _) _).alloc (by simp) _), ((Hsh.zeros _ rfl).alloc _).otherCells (by omega) _, by rw [KN.out]; exact Hs.stored (stX_len X) (bkX_len X) (there_new _ _ (by simp) rfl)⟩ ?_; intro W2 h2; have H2 : Hid (Below w.heap.size w W2 ∧ Hsh W2 w.heap.size (List.replicate 32 0) ∧ Tx W2 (w.heap.size + 1) X) := h2; have g72 : W2.cell? ⟨b, 72, none⟩ = some (.int .i64 (X.length : Int)) := (by rw [h2.1.cell (p := ⟨b, 72, none⟩) HH.out.2.2.2.2]; exact HH.out.1.tk); clear h2))
  clear il2 il3 sz oc rb2 zh KN lN g72
  refine (pad_any (n := X.length) (by have := HH.out.2.2.2.1; omega) _).mono ?_
  rintro e w3 ⟨rfl, hO, hB⟩
  obtain ⟨P, kP⟩ : ∃ P, P = padL X.length := ⟨_, rfl⟩
  rw [← kP] at hO ⊢
  have H3 : Hid (Below w.heap.size w w3 ∧ Hsh w3 w.heap.size (List.replicate 32 0) ∧ Tx w3 (w.heap.size + 1) X ∧ Byo w3 W2.heap.size 0 P ∧ P.length ≤ 72 ∧ w.heap.size + 1 < W2.heap.size) := by
    refine ⟨H2.out.1.trans (hB.mono H2.out.1.size), H2.out.2.1.keep hB, Hs.keep H2.out.2.2 hB, fun i hi => ?_, ?_, Hs.lt H2.out.2.2⟩
    · rw [Nat.zero_add, hO.row.cellAt i (by omega)]
      simp [byts, List.getD, hi]
    · rw [kP, padL_len]; have := zn_lt X.length; omega
  have EF : Hid (X ++ P = fullX X) := by rw [kP]; exact rfl
  have LF : Hid ((fullX X).length = X.length + P.length ∧ (X.length + P.length) % 64 = 0 ∧ 0 < P.length) := by rw [kP]; exact ⟨fullX_len X, pad_whole _, by rw [padL_len]; omega⟩
  clear hO hB kP H2
  generalize W2.heap.size = bp at *
  go_wp2_with fail
  refine (write_any (b := w.heap.size + 1) (bd := bp) (od := 0) (A := X) (X := P) (by have := H3.out; omega) (by have := HH.out.2.1.lt (by decide); omega) (by have := HH.out.2.2.1.lt (by decide); omega) (by have := H3.out; have := HH.out; omega) (Nat.le_refl _) (.inr rfl) _ H3.out.2.2.1 H3.out.2.2.2.1 (HH.out.2.1.keep H3.out.1) (HH.out.2.2.1.keep H3.out.1)).mono ?_
  rintro e w4 ⟨rfl, h4, o4⟩
  obtain ⟨S, kS⟩ : ∃ S, S = stAt (fullX X) ((fullX X).length / 64) := ⟨_, rfl⟩
  have H4 : Hid (Below w.heap.size w w4 ∧ Hsh w4 w.heap.size (List.replicate 32 0) ∧ Wds w4 (w.heap.size + 1) 0 S ∧ S.length = 8 ∧ shaL X = hashS S) := by
    refine ⟨H3.out.1.trans (o4.below H3.out.1.size (by omega)), H3.out.2.1.off o4 (by omega), ?_, by rw [kS]; exact stAt_len _ _, by rw [kS]; rfl⟩
    rw [EF.out] at h4
    have h := h4.st
    rw [stX, if_neg (by have := LF.out; omega), ← kS] at h
    exact h
  clear h4 o4 H3 kS
  have NN : Hid (w.heap.size ≤ w.heap.size + 1) := by have h : w.heap.size ≤ w.heap.size + 1 := (by omega); exact h
  generalize w.heap.size + 1 = bf at *
  go_wp2_with fail
  refine wp_world (fun W => Below w.heap.size w W ∧ Hsh W w.heap.size (List.replicate 32 0) ∧ Wds W bf 0 S ∧ Hsh W w4.heap.size (List.replicate 32 0)) ⟨H4.out.1.alloc H4.out.1.size _, H4.out.2.1.alloc _, H4.out.2.2.1.alloc _, Hsh.zeros _ rfl⟩ ?_
  rintro W ⟨hB, hR, hA, hO⟩
  have NB : Hid (w4.heap.size ≠ w.heap.size ∧ w4.heap.size ≠ bf ∧ w.heap.size ≤ w4.heap.size) := by
    have h1 := H4.out.2.1.lt
    have h2 := H4.out.2.2.1.lt (by rw [H4.out.2.2.2.1]; decide)
    exact ⟨by omega, by omega, H4.out.1.size⟩
  have HS : Hid (S.length = 8 ∧ shaL X = hashS S) := H4.out.2.2.2
  clear H4 EF LF NN
  generalize w4.heap.size = bo at *
  go_loopg [24] 32 (fun k iv wr => ∃ (i : Nat) (M : List (BitVec 8)), k = 32 - i ∧ i ≤ 32 ∧ iv = .int .i64 i ∧ (∀ t, t < i → M.getD t 0 = cut8 (S.getD (t / 4) 0) (24 - t % 4 * 8)) ∧ Below w.heap.size w wr ∧ Wds wr bf 0 S ∧ Hsh wr w.heap.size (List.replicate 32 0) ∧ Hsh wr bo M)
  case atStart => exact ⟨0, _, rfl, by decide, rfl, fun t h => absurd h (Nat.not_lt_zero _), hB, hA, hR, hO⟩
  case round =>
    clear hB hA hR hO
    obtain ⟨i, M, hk, hi, rfl, up, hf⟩ := hrel
    have HK : Hid (gk = 32 - i) := hk
    have HF : Hid (Below w.heap.size w wr ∧ Wds wr bf 0 S ∧ Hsh wr w.heap.size (List.replicate 32 0) ∧ Hsh wr bo M) := hf
    have UP : Hid (∀ t, t < i → M.getD t 0 = cut8 (S.getD (t / 4) 0) (24 - t % 4 * 8)) := up
    clear hk hf up
    by_cases h8 : i = 32
    · subst h8
      have EL : Hid (M = hashS S) := hashS_ext HF.out.2.2.2.1 UP.out
      have rb := HF.out.2.2.2.range
      have sz : ((byts M).toArray).size = 32 := by simp [byts_len, HF.out.2.2.2.1]
      have tr : wr.there w.heap.size 0 ((byts M).toArray).size := by rw [sz]; exact HF.out.2.2.1.there
      have oc := one_byts M
      obtain ⟨N, kN⟩ : ∃ N, byts M = N := ⟨_, rfl⟩
      rw [kN] at rb sz tr oc
      have HM : Hid (N.length = 32 ∧ byts (shaL X) = N) := ⟨by rw [← kN, byts_len]; exact HF.out.2.2.2.1, by rw [HS.out.2, ← EL.out, kN]⟩
      clear kN
      have il : (Tryz.prog.info? 26).map (·.size) = some N.length := by rw [HM.out.1]; kernel_rfl
      have il3 : (Tryz.prog.info? 26).map (·.size) = some N.toArray.size := by rw [sz]; kernel_rfl
      go_wp2_with (first
        | ((with_reducible refine wpList_load_at (ty := 26) bo 0 N _ rb Tryz.underlying26 ?_ il ?_ ?_); rfl; rfl; simp only [Act.put, List.setIfInBounds_toArray, List.set_cons_succ, List.set_cons_zero])
        | ((with_reducible refine wpList_store_at (ty := 26) w.heap.size 0 N.toArray tr il3 oc ?_ ?_ ?_); rfl; rfl))
      have ld := run_loadVar_mid (P := Tryz.prog) (wr.setCells w.heap.size 0 N) w.heap.size 0 26 N _ (World.rangeAt_setCells_same _ _ _ _ (by simpa using tr)) Tryz.underlying26 rfl il
      refine bodyPost_ret (v := .agg N.toArray) ?_ rfl ⟨by rw [HM.out.2], below_setCells (Nat.le_refl _) N 0 wr HF.out.1⟩
      simp [results, Tryz.results76, Act.put, asAddr, ld]
    · have hi' : (i : Int) < 32 := by omega
      have e1 : ((i : Int) / 4).toNat = i / 4 := by omega
      have e2 : (24 - (i : Int) % 4 * 8).toNat = 24 - i % 4 * 8 := by omega
      have g0 := HF.out.2.1 (i / 4) (by rw [HS.out.1]; omega)
      rw [Nat.zero_add] at g0
      have gs := HF.out.2.2.2.2.1 i (by omega)
      have fs := HF.out.2.2.2.2.2 i (by omega)
      obtain ⟨z, kz⟩ : ∃ z, z = S.getD (i / 4) 0 := ⟨_, rfl⟩
      rw [← kz] at g0
      have KZ : Hid (z = S.getD (i / 4) 0) := kz
      clear kz
      have v0 := U_lo z; have v1 := U_hi z
      have vd := Y_cut z (24 - i % 4 * 8)
      go_wp2
      go_roundg (32 - (i + 1))
      case measure => have := HK.out; omega
      case rel =>
        refine ⟨i + 1, M.set i (cut8 z (24 - i % 4 * 8)), rfl, by omega, by go_num, fun t ht => ?_, HF.out.1.setCell NB.out.2.2 _, HF.out.2.1.other NB.out.2.1 _, HF.out.2.2.1.other NB.out.1 _, HF.out.2.2.2.set i (by omega) _⟩
        by_cases e : t = i
        · subst e; rw [← KZ.out]; simp [List.getD, HF.out.2.2.2.1, show t < 32 by omega]
        · rw [← UP.out t (by omega)]; simp [List.getD, List.getElem?_set_ne (Ne.symm e)]

end Go.Proofs.YtncpjgpioajbeaaGreatDoor.S

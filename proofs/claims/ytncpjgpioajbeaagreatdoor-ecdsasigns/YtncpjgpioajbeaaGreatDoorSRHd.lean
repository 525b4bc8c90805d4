import Derived.Test.YtncpjgpioajbeaaGreatDoorSRHc
namespace Go.Proofs.YtncpjgpioajbeaaGreatDoor.S
open Go.RowKit Go.Sort

set_option maxRecDepth 100000 in
set_option maxHeartbeats 8000000 in
theorem rhmac_any {ka a : Option Addr} {kb ko kc bp op cp : Nat} {X : List (BitVec 8)} {PS : List Part} (hl : X.length < 1073740000) (hc : X.length ≤ kc) (hka : At ka kb ko X) (hs : (catX PS).length < 1073730000) (hn : PS.length ≤ 1073730000) (ha : PS = [] ∨ a = some ⟨bp, op, none⟩) (w : World) (hX : Byo w kb ko X) (hP : Prts w bp op PS) :
    Calls Tryz.prog 121 #[.slice ka X.length kc, .slice a PS.length cp] w fun e w' => e = .returned (.agg (byts (hmacL X (catX PS))).toArray) ∧ Below w.heap.size w w' := by
  have PK : Hid (∀ W, Below w.heap.size w W → Prts W bp op PS) := fun W B i hi => by
    obtain ⟨h1, h2, h3, h4⟩ := hP i hi
    exact ⟨by rw [B.cell (p := ⟨bp, op + i, none⟩) (World.block_lt_of_cell? w _ h1)]; exact h1, h2, h3, fun j hj => by rw [B.cell (World.block_lt_of_cell? w _ (h4 j hj))]; exact h4 j hj⟩
  have HA : Hid ((catX PS).length < 1073730000 ∧ PS.length ≤ 1073730000 ∧ (PS = [] ∨ a = some ⟨bp, op, none⟩)) := ⟨hs, hn, ha⟩
  have HX : Hid (X.length < 1073740000 ∧ X.length ≤ kc ∧ At ka kb ko X ∧ Byo w kb ko X) := ⟨hl, hc, hka, hX⟩
  clear hl hc hka hs hn ha hX hP
  unfold hmacL
  go_enter Tryz.func121, Tryz.ntmps121
  refine wp_seq_k fun K0 kk => ?_
  have H0 : Hid _ := kk
  clear kk
  go_wp2
  refine H0.out _ _ ?_
  clear H0
  refine wp_world (fun W => Below w.heap.size w W ∧ Hsh W w.heap.size (List.replicate 32 0) ∧ w.heap.size < W.heap.size) ⟨(Below.refl _ _).alloc (Nat.le_refl _) _, Hsh.zeros _ rfl, by simp⟩ ?_
  rintro W hW
  have HW : Hid (Below w.heap.size w W ∧ Hsh W w.heap.size (List.replicate 32 0) ∧ w.heap.size < W.heap.size) := hW
  clear hW
  obtain ⟨br, ebr⟩ : ∃ b, b = w.heap.size := ⟨_, rfl⟩
  have HB : Hid (br = w.heap.size) := ebr
  rw [← ebr]
  clear ebr
  refine wp_seq_k fun K1 kk => ?_
  have H1 : Hid _ := kk
  clear kk
  go_wp2_with fail
  have hP1 : ∀ z, z = Obj.cells #[.slice ka X.length kc] 76 → Prts (W.alloc z) W.heap.size 0 [⟨ka, kb, ko, kc, X⟩] := fun z hz i hi => by
    subst hz
    obtain rfl : i = 0 := by simpa using hi
    exact ⟨by rw [Nat.zero_add, World.cell?_alloc_mark]; rfl, HX.out.2.2.1, HX.out.2.1, (HX.out.2.2.2.keep HW.out.1).keep ((Below.refl _ _).alloc (Nat.le_refl _) _)⟩
  have B1 : ∀ z, Below W.heap.size W (W.alloc z) := fun z => (Below.refl _ _).alloc (Nat.le_refl _) _
  have hj := rjoined_any (PS := [⟨ka, kb, ko, kc, X⟩]) (a := some ⟨W.heap.size, 0, none⟩) (bp := W.heap.size) (op := 0) (cp := 1) (by simp [catX]; have := HX.out.1; omega) (by show 1 ≤ _; omega) (.inr rfl) _ (hP1 _ rfl)
  refine hj.mono ?_
  clear hj
  rintro e w1 ⟨v, rfl, ho, hb⟩
  have ec : catX [⟨ka, kb, ko, kc, X⟩] = X := by simp [catX]
  rw [ec] at ho
  have hb1 : Below W.heap.size W w1 := (B1 _).trans (hb.mono (by simp))
  have ho1 := ho.baseH (B' := W.heap.size) (by simp)
  obtain ⟨a1, g1, c1, rfl, z1, y1, l1⟩ := ho1.liesH
  have S1 : Hid (Below w.heap.size w w1 ∧ Hsh w1 w.heap.size (List.replicate 32 0) ∧ Own W.heap.size w1 (.slice a1 X.length c1) X ∧ W.heap.size ≤ w1.heap.size ∧ At a1 g1 0 X ∧ Byo w1 g1 0 X ∧ X.length ≤ c1) := ⟨HW.out.1.trans (hb1.mono HW.out.1.size), HW.out.2.1.keep hb1, ho1, hb1.size, z1, y1, l1⟩
  clear hb ho hb1 ho1 z1 y1 l1 ec hP1 B1
  have xl : (X.length : Int) < 1073740000 := by have := HX.out.1; omega
  go_wp2
  refine H1.out _ _ ?_
  clear H1
  refine wp_seq_k fun K2 kk => ?_
  have H2 : Hid _ := kk
  clear kk
  by_cases h64 : 64 < X.length
  · have q1 : (64 : Int) < (X.length : Int) := by omega
    have HK : Hid (keyL X = shaL X ++ List.replicate (64 - (shaL X).length) 0 ∧ (shaL X).length ≤ 64) := ⟨by rw [keyL, if_pos h64, shaL_len], by rw [shaL_len]; decide⟩
    clear h64
    have hd := rdig_any (a := a1) (bd := g1) (od := 0) (cd := c1) (X := X) HX.out.1 S1.out.2.2.2.2.2.2 S1.out.2.2.2.2.1 w1 S1.out.2.2.2.2.2.1
    go_wp2_with fail
    with_reducible refine hd.mono ?_
    clear hd
    rintro e w2 ⟨rfl, hb⟩
    have lN : (byts (shaL X)).length = 32 := by rw [byts_len, shaL_len]
    have oc := one_byts (shaL X)
    obtain ⟨N, eN⟩ : ∃ N, N = byts (shaL X) := ⟨_, rfl⟩
    rw [← eN] at lN oc ⊢
    have LN : Hid (N.length = 32 ∧ N = byts (shaL X)) := ⟨lN, eN⟩
    clear eN lN
    have il3 : (Tryz.prog.info? 26).map (·.size) = some N.toArray.size := by rw [List.size_toArray, LN.out.1]; kernel_rfl
    have il : (Tryz.prog.info? 26).map (·.size) = some N.length := by rw [LN.out.1]; kernel_rfl
    have th := fun t => hash_new (W := w2) (t := t) LN.out.1
    have F3 : ∀ t, Hid ((Below w.heap.size w ((w2.alloc (.cells #[.int .u8 0, .int .u8 0, .int .u8 0, .int .u8 0, .int .u8 0, .int .u8 0, .int .u8 0, .int .u8 0, .int .u8 0, .int .u8 0, .int .u8 0, .int .u8 0, .int .u8 0, .int .u8 0, .int .u8 0, .int .u8 0, .int .u8 0, .int .u8 0, .int .u8 0, .int .u8 0, .int .u8 0, .int .u8 0, .int .u8 0, .int .u8 0, .int .u8 0, .int .u8 0, .int .u8 0, .int .u8 0, .int .u8 0, .int .u8 0, .int .u8 0, .int .u8 0] t)).setCells w2.heap.size 0 N) ∧ Hsh ((w2.alloc (.cells #[.int .u8 0, .int .u8 0, .int .u8 0, .int .u8 0, .int .u8 0, .int .u8 0, .int .u8 0, .int .u8 0, .int .u8 0, .int .u8 0, .int .u8 0, .int .u8 0, .int .u8 0, .int .u8 0, .int .u8 0, .int .u8 0, .int .u8 0, .int .u8 0, .int .u8 0, .int .u8 0, .int .u8 0, .int .u8 0, .int .u8 0, .int .u8 0, .int .u8 0, .int .u8 0, .int .u8 0, .int .u8 0, .int .u8 0, .int .u8 0, .int .u8 0, .int .u8 0] t)).setCells w2.heap.size 0 N) w.heap.size (List.replicate 32 0) ∧ w1.heap.size ≤ ((w2.alloc (.cells #[.int .u8 0, .int .u8 0, .int .u8 0, .int .u8 0, .int .u8 0, .int .u8 0, .int .u8 0, .int .u8 0, .int .u8 0, .int .u8 0, .int .u8 0, .int .u8 0, .int .u8 0, .int .u8 0, .int .u8 0, .int .u8 0, .int .u8 0, .int .u8 0, .int .u8 0, .int .u8 0, .int .u8 0, .int .u8 0, .int .u8 0, .int .u8 0, .int .u8 0, .int .u8 0, .int .u8 0, .int .u8 0, .int .u8 0, .int .u8 0, .int .u8 0, .int .u8 0] t)).setCells w2.heap.size 0 N).heap.size) ∧ ((w2.alloc (.cells #[.int .u8 0, .int .u8 0, .int .u8 0, .int .u8 0, .int .u8 0, .int .u8 0, .int .u8 0, .int .u8 0, .int .u8 0, .int .u8 0, .int .u8 0, .int .u8 0, .int .u8 0, .int .u8 0, .int .u8 0, .int .u8 0, .int .u8 0, .int .u8 0, .int .u8 0, .int .u8 0, .int .u8 0, .int .u8 0, .int .u8 0, .int .u8 0, .int .u8 0, .int .u8 0, .int .u8 0, .int .u8 0, .int .u8 0, .int .u8 0, .int .u8 0, .int .u8 0] t)).setCells w2.heap.size 0 N).rangeAt w2.heap.size 0 N) := fun t => by
      obtain ⟨h1, h2⟩ := hash_put (W := w2) (t := t) LN.out.1
      have h3 : Below w1.heap.size w1 ((w2.alloc (.cells #[.int .u8 0, .int .u8 0, .int .u8 0, .int .u8 0, .int .u8 0, .int .u8 0, .int .u8 0, .int .u8 0, .int .u8 0, .int .u8 0, .int .u8 0, .int .u8 0, .int .u8 0, .int .u8 0, .int .u8 0, .int .u8 0, .int .u8 0, .int .u8 0, .int .u8 0, .int .u8 0, .int .u8 0, .int .u8 0, .int .u8 0, .int .u8 0, .int .u8 0, .int .u8 0, .int .u8 0, .int .u8 0, .int .u8 0, .int .u8 0, .int .u8 0, .int .u8 0] t)).setCells w2.heap.size 0 N) := hb.trans (h1.mono hb.size)
      exact ⟨⟨S1.out.1.trans (h3.mono S1.out.1.size), S1.out.2.1.keep h3, h3.size⟩, h2⟩
    clear hb
    go_wp2_with (first | ((with_reducible refine wpList_store_at (ty := 26) w2.heap.size 0 N.toArray (th _) il3 oc ?_ ?_ ?_); rfl; rfl; refine wpList_world (fun W => (Below w.heap.size w W ∧ Hsh W w.heap.size (List.replicate 32 0) ∧ w1.heap.size ≤ W.heap.size) ∧ W.rangeAt w2.heap.size 0 N) (F3 _).out ?_; clear F3 th; rintro W3 hW; (have rb := hW.2)) | ((with_reducible refine wpList_load_at (ty := 26) w2.heap.size 0 N _ rb Tryz.underlying26 ?_ il ?_ ?_); rfl; rfl; simp only [Act.put, List.setIfInBounds_toArray, List.set_cons_succ, List.set_cons_zero]))
    have hbo : Hid (∀ w, Calls Tryz.prog 138 #[.agg N.toArray] w fun e w' => ∃ v, e = .returned v ∧ Own w.heap.size w' v (shaL X) ∧ Below w.heap.size w w') := fun w => by
      rw [LN.out.2]; exact rbytesOf_any (shaL_len X) w
    with_reducible refine (hbo.out W3).mono ?_
    clear hbo
    rintro e w4 ⟨v4, rfl, ho, hb⟩
    have HT : Hid (Tw w w4 br W.heap.size (.slice none 0 0) v4 (.slice none 0 0) [] (shaL X) []) := by
      rw [HB.out]
      have h1 := hW.1.2.2
      have h2 := S1.out.2.2.2.1
      have h3 := hb.size
      exact ⟨hW.1.1.trans (hb.mono hW.1.1.size), hW.1.2.1.keep hb, HW.out.2.2, by omega, HW.out.1.size, own_nil, ho.baseH (by omega), own_nil, (fun b e => nomatch e), (fun b e => nomatch e), (fun b _ e => nomatch e)⟩
    clear ho hb rb hW il il3 oc LN
    go_wp2
    refine H2.out _ _ ?_
    clear H2
    rw [HB.out] at HT ⊢
    have hm := @rhmac_mid a bp op cp w.heap.size W.heap.size PS (shaL X) v4 HA.out.1 HA.out.2.1 HA.out.2.2 w w4 PK.out (Nat.le_refl _) HT.out HK.out.2
    rw [← HK.out.1] at hm
    exact (hm _ _ _ _ _ _ _ _ _ _ _ _ _ _ _ _ _ _ _ _ _ _ _ _ _ _ _ _ _ _ _ _ _ _ _ _ _ _ _ _ _ _ _ _ _ _ _ _ _ _ _ _ _ _ _ _ _ _).out rfl
  · have q1 : ¬ (64 : Int) < (X.length : Int) := by omega
    have HK : Hid (keyL X = X ++ List.replicate (64 - X.length) 0 ∧ X.length ≤ 64) := ⟨by rw [keyL, if_neg h64], by omega⟩
    clear h64
    have HT : Hid (Tw w w1 br W.heap.size (.slice none 0 0) (.slice a1 X.length c1) (.slice none 0 0) [] X []) := by
      rw [HB.out]
      exact ⟨S1.out.1, S1.out.2.1, HW.out.2.2, S1.out.2.2.2.1, HW.out.1.size, own_nil, S1.out.2.2.1, own_nil, (fun b e => nomatch e), (fun b e => nomatch e), (fun b _ e => nomatch e)⟩
    go_wp2
    refine H2.out _ _ ?_
    clear H2
    rw [HB.out] at HT ⊢
    have hm := @rhmac_mid a bp op cp w.heap.size W.heap.size PS X (.slice a1 X.length c1) HA.out.1 HA.out.2.1 HA.out.2.2 w w1 PK.out (Nat.le_refl _) HT.out HK.out.2
    rw [← HK.out.1] at hm
    exact (hm _ _ _ _ _ _ _ _ _ _ _ _ _ _ _ _ _ _ _ _ _ _ _ _ _ _ _ _ _ _ _ _ _ _ _ _ _ _ _ _ _ _ _ _ _ _ _ _ _ _ _ _ _ _ _ _ _ _).out rfl
end Go.Proofs.YtncpjgpioajbeaaGreatDoor.S

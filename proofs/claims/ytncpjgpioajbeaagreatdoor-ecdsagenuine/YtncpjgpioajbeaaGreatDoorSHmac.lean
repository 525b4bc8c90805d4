import Derived.Test.YtncpjgpioajbeaaGreatDoorSKeyB
namespace Go.Proofs.YtncpjgpioajbeaaGreatDoor.S
open Go.RowKit Go.Sort

/-- The code of a text under a key. -/
def hmacL (X T : List (BitVec 8)) : List (BitVec 8) := shaL (maskL (keyL X) 92 ++ shaL (maskL (keyL X) 54 ++ T))

set_option maxRecDepth 100000 in
set_option maxHeartbeats 4000000 in
theorem hmac_any {ka a : Option Addr} {kb ko kc bp op cp : Nat} {X : List (BitVec 8)} {PS : List Part} (hl : X.length < 1073740000) (hc : X.length ≤ kc) (hka : At ka kb ko X) (hs : (catX PS).length < 1073730000) (hn : PS.length ≤ 1073730000) (ha : PS = [] ∨ a = some ⟨bp, op, none⟩) (w : World) (hX : Byo w kb ko X) (hP : Prts w bp op PS) (hf : Wds w 2 0 hN) (hk : Wds w 3 0 kN) :
    Calls Tryz.prog 40 #[.slice ka X.length kc, .slice a PS.length cp] w fun e w' => e = .returned (.agg (byts (hmacL X (catX PS))).toArray) ∧ Below w.heap.size w w' := by
  have HH : Hid (Prts w bp op PS ∧ (PS = [] ∨ a = some ⟨bp, op, none⟩) ∧ Wds w 2 0 hN ∧ Wds w 3 0 kN ∧ (catX PS).length < 1073730000 ∧ PS.length ≤ 1073730000) := ⟨hP, ha, hf, hk, hs, hn⟩
  have HX : Hid (At ka kb ko X ∧ Byo w kb ko X ∧ X.length < 1073740000 ∧ X.length ≤ kc) := ⟨hka, hX, hl, hc⟩
  have nb : (PS.length : Int) ≤ 1073730000 := by omega
  have G0 : Hid (2 < w.heap.size ∧ 3 < w.heap.size) := ⟨hf.lt (by decide), hk.lt (by decide)⟩
  clear hP ha hf hk hs hn hka hX hl hc
  have zh := zeroHs
  have y1 : Hid (Y 54 = 54 ∧ Y 92 = 92) := ⟨by rw [Y_eq]; rfl, by rw [Y_eq]; rfl⟩
  obtain ⟨K, kK⟩ : ∃ K, K = keyL X := ⟨_, rfl⟩
  obtain ⟨I, kI⟩ : ∃ I, I = maskL K 54 := ⟨_, rfl⟩
  obtain ⟨O, kO⟩ : ∃ O, O = maskL K 92 := ⟨_, rfl⟩
  have KK : Hid (keyL X = K ∧ maskL K 54 = I ∧ maskL K 92 = O ∧ K.length = 64 ∧ I.length = 64 ∧ O.length = 64) := ⟨kK.symm, kI.symm, kO.symm, by rw [kK]; exact keyL_len X, by rw [kI, maskL_len, kK]; exact keyL_len X, by rw [kO, maskL_len, kK]; exact keyL_len X⟩
  have ilK : ∀ M : List (BitVec 8), M.length = 64 → (Tryz.prog.info? 98).map (·.size) = some ((byts M).toArray).size := fun M h => by
    have e : (Tryz.prog.info? 98).map (·.size) = some 64 := by kernel_rfl
    rw [e]; simp [byts_len, h]
  have ilK2 : ∀ M : List (BitVec 8), M.length = 64 → (Tryz.prog.info? 98).map (·.size) = some (byts M).length := fun M h => by
    have e : (Tryz.prog.info? 98).map (·.size) = some 64 := by kernel_rfl
    rw [e, byts_len, h]
  have i1 := ilK K KK.out.2.2.2.1
  have i2 := ilK I KK.out.2.2.2.2.1
  have i3 := ilK O KK.out.2.2.2.2.2
  have j1 := ilK2 K KK.out.2.2.2.1
  have o1 := one_byts K
  have o2 := one_byts I
  have o3 := one_byts O
  have TH : Hid (∀ (M : List (BitVec 8)) (W : World), M.length = 64 → (W.alloc (.cells #[.int .u8 0, .int .u8 0, .int .u8 0, .int .u8 0, .int .u8 0, .int .u8 0, .int .u8 0, .int .u8 0, .int .u8 0, .int .u8 0, .int .u8 0, .int .u8 0, .int .u8 0, .int .u8 0, .int .u8 0, .int .u8 0, .int .u8 0, .int .u8 0, .int .u8 0, .int .u8 0, .int .u8 0, .int .u8 0, .int .u8 0, .int .u8 0, .int .u8 0, .int .u8 0, .int .u8 0, .int .u8 0, .int .u8 0, .int .u8 0, .int .u8 0, .int .u8 0, .int .u8 0, .int .u8 0, .int .u8 0, .int .u8 0, .int .u8 0, .int .u8 0, .int .u8 0, .int .u8 0, .int .u8 0, .int .u8 0, .int .u8 0, .int .u8 0, .int .u8 0, .int .u8 0, .int .u8 0, .int .u8 0, .int .u8 0, .int .u8 0, .int .u8 0, .int .u8 0, .int .u8 0, .int .u8 0, .int .u8 0, .int .u8 0, .int .u8 0, .int .u8 0, .int .u8 0, .int .u8 0, .int .u8 0, .int .u8 0, .int .u8 0, .int .u8 0] 98)).there W.heap.size 0 ((byts M).toArray).size) := fun M W h => there_new _ _ rfl (by simp [byts_len, h])
  clear kK kI kO ilK ilK2
  go_enter Tryz.func40, Tryz.ntmps40
  go_wp2_with fail
  have MK : Hid (∀ W, Calls Tryz.prog 74 #[.agg (byts K).toArray, .int .u8 54] W fun e w' => e = .returned (.agg (byts I).toArray) ∧ Below W.heap.size W w') := fun W => by
    have h := masked_any KK.out.2.2.2.1 54 W
    rw [y1.out.1, KK.out.2.1] at h
    exact h
  have MO : Hid (∀ W, Calls Tryz.prog 74 #[.agg (byts K).toArray, .int .u8 92] W fun e w' => e = .returned (.agg (byts O).toArray) ∧ Below W.heap.size W w') := fun W => by
    have h := masked_any KK.out.2.2.2.1 92 W
    rw [y1.out.2, KK.out.2.2.1] at h
    exact h
  have RS : Hid (∀ (M : List (BitVec 8)) (W : World), M.length = 64 → Row8 ((W.alloc (.cells #[.int .u8 0, .int .u8 0, .int .u8 0, .int .u8 0, .int .u8 0, .int .u8 0, .int .u8 0, .int .u8 0, .int .u8 0, .int .u8 0, .int .u8 0, .int .u8 0, .int .u8 0, .int .u8 0, .int .u8 0, .int .u8 0, .int .u8 0, .int .u8 0, .int .u8 0, .int .u8 0, .int .u8 0, .int .u8 0, .int .u8 0, .int .u8 0, .int .u8 0, .int .u8 0, .int .u8 0, .int .u8 0, .int .u8 0, .int .u8 0, .int .u8 0, .int .u8 0, .int .u8 0, .int .u8 0, .int .u8 0, .int .u8 0, .int .u8 0, .int .u8 0, .int .u8 0, .int .u8 0, .int .u8 0, .int .u8 0, .int .u8 0, .int .u8 0, .int .u8 0, .int .u8 0, .int .u8 0, .int .u8 0, .int .u8 0, .int .u8 0, .int .u8 0, .int .u8 0, .int .u8 0, .int .u8 0, .int .u8 0, .int .u8 0, .int .u8 0, .int .u8 0, .int .u8 0, .int .u8 0, .int .u8 0, .int .u8 0, .int .u8 0, .int .u8 0] 98)).setCells W.heap.size 0 (byts M)) W.heap.size M) := fun M W h => by
    have := row8_copied (W := W.alloc (.cells #[.int .u8 0, .int .u8 0, .int .u8 0, .int .u8 0, .int .u8 0, .int .u8 0, .int .u8 0, .int .u8 0, .int .u8 0, .int .u8 0, .int .u8 0, .int .u8 0, .int .u8 0, .int .u8 0, .int .u8 0, .int .u8 0, .int .u8 0, .int .u8 0, .int .u8 0, .int .u8 0, .int .u8 0, .int .u8 0, .int .u8 0, .int .u8 0, .int .u8 0, .int .u8 0, .int .u8 0, .int .u8 0, .int .u8 0, .int .u8 0, .int .u8 0, .int .u8 0, .int .u8 0, .int .u8 0, .int .u8 0, .int .u8 0, .int .u8 0, .int .u8 0, .int .u8 0, .int .u8 0, .int .u8 0, .int .u8 0, .int .u8 0, .int .u8 0, .int .u8 0, .int .u8 0, .int .u8 0, .int .u8 0, .int .u8 0, .int .u8 0, .int .u8 0, .int .u8 0, .int .u8 0, .int .u8 0, .int .u8 0, .int .u8 0, .int .u8 0, .int .u8 0, .int .u8 0, .int .u8 0, .int .u8 0, .int .u8 0, .int .u8 0, .int .u8 0] 98)) (g := W.heap.size) (X := List.replicate 64 0) (Z := M) (T := []) (by rw [h]; simp) (by rw [List.append_nil]; exact Row8.zeros64 _ rfl)
    rw [List.append_nil] at this
    exact this
  refine calls_world (fun W => Below w.heap.size w W ∧ Hsh W w.heap.size (List.replicate 32 0)) ⟨(Below.refl _ _).alloc (Nat.le_refl _) _, Hsh.zeros _ rfl⟩ ?_
  rintro W1 ⟨b1, r1⟩
  refine (keyBlock_any HX.out.2.2.1 HX.out.2.2.2 HX.out.1 _ (HX.out.2.1.keep b1) (HH.out.2.2.1.keep b1) (HH.out.2.2.2.1.keep b1)).mono ?_
  rw [KK.out.1]
  rintro e w2 ⟨rfl, hb⟩
  have H2 : Hid (Below w.heap.size w w2 ∧ Hsh w2 w.heap.size (List.replicate 32 0)) := ⟨b1.trans (hb.mono b1.size), r1.keep hb⟩
  clear hb b1 r1
  go_wp2_with (first
    | ((with_reducible refine wpList_store_at (ty := 98) w2.heap.size 0 (byts K).toArray (TH.out K w2 KK.out.2.2.2.1) i1 o1 ?_ ?_ ?_); rfl; rfl; refine wpList_world (fun V => Below w.heap.size w V ∧ Hsh V w.heap.size (List.replicate 32 0) ∧ Row8 V w2.heap.size K ∧ w2.heap.size < V.heap.size) ⟨below_setCells H2.out.1.size _ 0 _ (H2.out.1.alloc H2.out.1.size _), (H2.out.2.alloc _).otherCells (by have := H2.out.2.lt; omega) _, RS.out K w2 KK.out.2.2.2.1, ?_⟩ ?_; exact Nat.lt_of_lt_of_le (by simp) ((Off.refl w2.heap.size _).setCells (o := 0) (byts K)).size; intro w3 h3; have H3 : Hid (Below w.heap.size w w3 ∧ Hsh w3 w.heap.size (List.replicate 32 0) ∧ Row8 w3 w2.heap.size K ∧ w2.heap.size < w3.heap.size) := h3; have rK := h3.2.2.1.1.range; clear h3)
    | ((with_reducible refine wpList_load_at (ty := 98) w2.heap.size 0 (byts K) _ rK Tryz.underlying98 ?_ j1 ?_ ?_); rfl; rfl; simp only [Act.put, List.setIfInBounds_toArray, List.set_cons_succ, List.set_cons_zero]))
  generalize w2.heap.size = g1 at *
  refine (MK.out _).mono ?_
  rintro e w4 ⟨rfl, hb⟩
  have H4 : Hid (Below w.heap.size w w4 ∧ Hsh w4 w.heap.size (List.replicate 32 0) ∧ Row8 w4 g1 K ∧ g1 < w4.heap.size) := ⟨H3.out.1.trans (hb.mono H3.out.1.size), H3.out.2.1.keep hb, H3.out.2.2.1.keep hb H3.out.2.2.2, Nat.lt_of_lt_of_le H3.out.2.2.2 hb.size⟩
  clear hb H2 H3 rK
  go_wp2_with (first
    | ((with_reducible refine wpList_store_at (ty := 98) w4.heap.size 0 (byts I).toArray (TH.out I w4 KK.out.2.2.2.2.1) i2 o2 ?_ ?_ ?_); rfl; rfl; refine wpList_world (fun V => Below w.heap.size w V ∧ Hsh V w.heap.size (List.replicate 32 0) ∧ Row8 V g1 K ∧ Row8 V w4.heap.size I ∧ w4.heap.size < V.heap.size) ⟨below_setCells H4.out.1.size _ 0 _ (H4.out.1.alloc H4.out.1.size _), (H4.out.2.1.alloc _).otherCells (by have := H4.out.2.1.lt; omega) _, (H4.out.2.2.1.keep ((Below.refl _ _).alloc (Nat.le_refl _) _) H4.out.2.2.2).off ((Off.refl w4.heap.size _).setCells _) (by have := H4.out; omega) (by have := H4.out; simp; omega), RS.out I w4 KK.out.2.2.2.2.1, ?_⟩ ?_; exact Nat.lt_of_lt_of_le (by simp) ((Off.refl w4.heap.size _).setCells (o := 0) (byts I)).size; intro w5 h5; have H5 : Hid (Below w.heap.size w w5 ∧ Hsh w5 w.heap.size (List.replicate 32 0) ∧ Row8 w5 g1 K ∧ Row8 w5 w4.heap.size I ∧ w4.heap.size < w5.heap.size) := h5; have rK := h5.2.2.1.1.range; clear h5)
    | ((with_reducible refine wpList_load_at (ty := 98) g1 0 (byts K) _ rK Tryz.underlying98 ?_ j1 ?_ ?_); rfl; rfl; simp only [Act.put, List.setIfInBounds_toArray, List.set_cons_succ, List.set_cons_zero]))
  generalize w4.heap.size = g2 at *
  refine (MO.out _).mono ?_
  rintro e w6 ⟨rfl, hb⟩
  have H6 : Hid (Below w.heap.size w w6 ∧ Hsh w6 w.heap.size (List.replicate 32 0) ∧ Row8 w6 g2 I ∧ g2 < w6.heap.size) := ⟨H5.out.1.trans (hb.mono H5.out.1.size), H5.out.2.1.keep hb, H5.out.2.2.2.1.keep hb H5.out.2.2.2.2, Nat.lt_of_lt_of_le H5.out.2.2.2.2 hb.size⟩
  clear hb H4 H5 rK
  go_wp2_with ((with_reducible refine wpList_store_at (ty := 98) w6.heap.size 0 (byts O).toArray (TH.out O w6 KK.out.2.2.2.2.2) i3 o3 ?_ ?_ ?_); rfl; rfl; refine wpList_world (fun V => Below w.heap.size w V ∧ Hsh V w.heap.size (List.replicate 32 0) ∧ Row8 V g2 I ∧ Row8 V w6.heap.size O ∧ w6.heap.size < V.heap.size ∧ g2 < w6.heap.size) ⟨below_setCells H6.out.1.size _ 0 _ (H6.out.1.alloc H6.out.1.size _), (H6.out.2.1.alloc _).otherCells (by have := H6.out.2.1.lt; omega) _, (H6.out.2.2.1.keep ((Below.refl _ _).alloc (Nat.le_refl _) _) H6.out.2.2.2).off ((Off.refl w6.heap.size _).setCells _) (by have := H6.out; omega) (by have := H6.out; simp; omega), RS.out O w6 KK.out.2.2.2.2.2, ?_, H6.out.2.2.2⟩ ?_; exact Nat.lt_of_lt_of_le (by simp) ((Off.refl w6.heap.size _).setCells (o := 0) (byts O)).size; intro w7 h7; have H7 : Hid (Below w.heap.size w w7 ∧ Hsh w7 w.heap.size (List.replicate 32 0) ∧ Row8 w7 g2 I ∧ Row8 w7 w6.heap.size O ∧ w6.heap.size < w7.heap.size ∧ g2 < w6.heap.size) := h7; clear h7)
  generalize w6.heap.size = g3 at *
  clear H6
  refine calls_world (fun W => Below w.heap.size w W ∧ Hsh W w.heap.size (List.replicate 32 0) ∧ Row8 W g2 I ∧ Row8 W g3 O ∧ Tx W w7.heap.size [] ∧ w7.heap.size < W.heap.size) ⟨H7.out.1.alloc H7.out.1.size _, H7.out.2.1.alloc _, H7.out.2.2.1.keep ((Below.refl _ _).alloc (Nat.le_refl _) _) (by have := H7.out; omega), H7.out.2.2.2.1.keep ((Below.refl _ _).alloc (Nat.le_refl _) _) (by have := H7.out; omega), Tx.new _ rfl, by simp⟩ ?_
  rintro w8 h8
  have H8 : Hid (Below w.heap.size w w8 ∧ Hsh w8 w.heap.size (List.replicate 32 0) ∧ Row8 w8 g2 I ∧ Row8 w8 g3 O ∧ Tx w8 w7.heap.size []) := ⟨h8.1, h8.2.1, h8.2.2.1, h8.2.2.2.1, h8.2.2.2.2.1⟩
  have NN : Hid (w.heap.size < w7.heap.size ∧ g2 < w7.heap.size ∧ g3 < w7.heap.size) := ⟨H7.out.2.1.lt, by have := H7.out; omega, by have := H7.out; omega⟩
  clear h8 H7 zh
  generalize w7.heap.size = bs at *
  have h9 := write_any (b := bs) (bd := g2) (od := 0) (cd := 64) (a := some ⟨g2, 0, none⟩) (A := []) (X := I) (by have := NN.out; omega) (by have := G0.out; have := NN.out; omega) (by have := G0.out; have := NN.out; omega) (by rw [KK.out.2.2.2.2.1]; decide) (by rw [KK.out.2.2.2.2.1]; decide) (.inr rfl) w8 H8.out.2.2.2.2 H8.out.2.2.1.1 (HH.out.2.2.1.keep H8.out.1) (HH.out.2.2.2.1.keep H8.out.1)
  rw [KK.out.2.2.2.2.1, List.nil_append] at h9
  refine h9.mono ?_
  clear h9
  rintro e w9 ⟨rfl, hs9, ho9⟩
  have H9 : Hid (Below w.heap.size w w9 ∧ Hsh w9 w.heap.size (List.replicate 32 0) ∧ Row8 w9 g3 O ∧ Tx w9 bs I) := ⟨H8.out.1.trans (ho9.below H8.out.1.size (by have := NN.out; omega)), H8.out.2.1.off ho9 (by have := NN.out; omega), H8.out.2.2.2.1.off ho9 (by have := NN.out; omega) (by have := NN.out; have := H8.out.2.2.2.2.lt; omega), hs9⟩
  clear hs9 ho9 H8
  go_wp2_with fail
  go_loopg [22] PS.length (fun g iv wr => ∃ i : Nat, g = PS.length - i ∧ i ≤ PS.length ∧ iv = .int .i64 i ∧ Below w.heap.size w wr ∧ Hsh wr w.heap.size (List.replicate 32 0) ∧ Row8 wr g3 O ∧ Tx wr bs (I ++ catX (PS.take i)))
  case atStart => exact ⟨0, rfl, Nat.zero_le _, rfl, H9.out.1, H9.out.2.1, H9.out.2.2.1, by rw [List.take_zero, show catX ([] : List Part) = [] from rfl, List.append_nil]; exact H9.out.2.2.2⟩
  case round =>
    clear H9
    obtain ⟨i, hk, hi, rfl, hf⟩ := hrel
    have HK : Hid (gk = PS.length - i) := hk
    have HF : Hid (Below w.heap.size w wr ∧ Hsh wr w.heap.size (List.replicate 32 0) ∧ Row8 wr g3 O ∧ Tx wr bs (I ++ catX (PS.take i))) := hf
    clear hk hf
    by_cases h8 : i = PS.length
    · subst h8
      rw [List.take_length] at HF
      go_wp2_with fail
      refine (ssum_any (by rw [List.length_append, KK.out.2.2.2.2.1]; have := HH.out.2.2.2.2.1; omega) _ HF.out.2.2.2 (HH.out.2.2.1.keep HF.out.1) (HH.out.2.2.2.1.keep HF.out.1)).mono ?_
      rintro e w10 ⟨rfl, hb⟩
      have H10 : Hid (Below w.heap.size w w10 ∧ Hsh w10 w.heap.size (List.replicate 32 0) ∧ Row8 w10 g3 O ∧ g3 < w10.heap.size) := ⟨HF.out.1.trans (hb.mono HF.out.1.size), HF.out.2.1.keep hb, HF.out.2.2.1.keep hb (by have := HF.out.2.2.2.lt; have := NN.out; omega), by have := HF.out.2.2.2.lt; have := NN.out; have := hb.size; omega⟩
      clear hb HF
      obtain ⟨D, kD⟩ : ∃ D, D = shaL (I ++ catX PS) := ⟨_, rfl⟩
      rw [← kD]
      have lD : Hid (D.length = 32 ∧ shaL (I ++ catX PS) = D) := ⟨by rw [kD]; exact shaL_len _, kD.symm⟩
      clear kD
      have sz : ((byts D).toArray).size = 32 := by simp [byts_len, lD.out.1]
      have oc := one_byts D
      have il : (Tryz.prog.info? 26).map (·.size) = some ((byts D).toArray).size := by rw [sz]; kernel_rfl
      go_wp2_with (first
        | ((with_reducible refine wpList_store_at (ty := 26) w10.heap.size 0 (byts D).toArray ?_ il oc ?_ ?_ ?_); rw [sz]; exact (Hsh.zeros _ rfl).there; rfl; rfl; refine wpList_world (fun V => Below w.heap.size w V ∧ Hsh V w.heap.size (List.replicate 32 0) ∧ Row8 V g3 O ∧ Hsh V w10.heap.size D) ⟨below_setCells H10.out.1.size _ 0 _ (H10.out.1.alloc H10.out.1.size _), (H10.out.2.1.alloc _).otherCells (by have := H10.out.2.1.lt; omega) _, ?_, (Hsh.zeros _ rfl).stored lD.out.1⟩ ?_; exact (H10.out.2.2.1.keep ((Below.refl _ _).alloc (Nat.le_refl _) _) H10.out.2.2.2).off ((Off.refl w10.heap.size _).setCells _) (by have := H10.out; omega) (by have := H10.out; simp; omega); intro w11 h11; have H11 : Hid (Below w.heap.size w w11 ∧ Hsh w11 w.heap.size (List.replicate 32 0) ∧ Row8 w11 g3 O ∧ Hsh w11 w10.heap.size D) := h11; clear h11))
      generalize w10.heap.size = g4 at *
      clear sz oc il
      (try simp only [Act.put])
      refine region_tail 2 (by kernel_rfl) (by kernel_rfl) ?_
      simp only [List.take_succ_cons, List.take_zero, List.drop_succ_cons, List.drop_zero]
      repeat (first | go_big_quiet_skip | (go_big_quiet_want; go_big_quiet_op; go_big_quiet_on))
      refine wpQuiet_nil ?_
      go_wp2_with fail
      have b12 : Below w11.heap.size w11 (w11.alloc (.cells #[.slice (some ⟨g3, 0, none⟩) 64 64, .slice (some ⟨g4, 0, none⟩) 32 32] 76)).drew := ((Below.refl _ _).alloc (Nat.le_refl _) _).drew
      have p12 : Prts (w11.alloc (.cells #[.slice (some ⟨g3, 0, none⟩) 64 64, .slice (some ⟨g4, 0, none⟩) 32 32] 76)).drew w11.heap.size 0 [⟨some ⟨g3, 0, none⟩, g3, 0, 64, O⟩, ⟨some ⟨g4, 0, none⟩, g4, 0, 32, D⟩] := two_parts (W := w11) (p := ⟨some ⟨g3, 0, none⟩, g3, 0, 64, O⟩) (q := ⟨some ⟨g4, 0, none⟩, g4, 0, 32, D⟩) _ (by show _ = Value.slice _ O.length _; rw [KK.out.2.2.2.2.2]) (by show _ = Value.slice _ D.length _; rw [lD.out.1]) ⟨.inr rfl, by show O.length ≤ 64; rw [KK.out.2.2.2.2.2]; decide, H11.out.2.2.1.1⟩ ⟨.inr rfl, by show D.length ≤ 32; rw [lD.out.1]; decide, fun j hj => by rw [Nat.zero_add]; exact H11.out.2.2.2.2.1 j (by have := lD.out.1; have h : j < D.length := hj; omega)⟩
      have h12 := sum_any (a := some ⟨w11.heap.size, 0, none⟩) (cp := 2) (by rw [cat_two, List.length_append]; show O.length + D.length < _; rw [KK.out.2.2.2.2.2, lD.out.1]; decide) (by show 2 ≤ _; omega) (Nat.le_refl _) (.inr rfl) _ p12 ((HH.out.2.2.1.keep H11.out.1).keep b12) ((HH.out.2.2.2.1.keep H11.out.1).keep b12)
      clear p12
      obtain ⟨R, kR⟩ : ∃ R, R = shaL (O ++ D) := ⟨_, rfl⟩
      have lR : Hid (R.length = 32 ∧ hmacL X (catX PS) = R) := ⟨by rw [kR]; exact shaL_len _, by rw [hmacL, KK.out.1, KK.out.2.2.1, KK.out.2.1, lD.out.2, kR]⟩
      rw [cat_two] at h12
      dsimp only at h12
      rw [← kR] at h12
      clear kR
      refine h12.mono ?_
      clear h12
      rintro e w13 ⟨rfl, hb⟩
      have H13 : Hid (Below w.heap.size w w13 ∧ Hsh w13 w.heap.size (List.replicate 32 0)) := ⟨(H11.out.1.trans (b12.mono H11.out.1.size)).trans (hb.mono (Nat.le_trans H11.out.1.size b12.size)), (H11.out.2.1.keep b12).keep hb⟩
      clear hb b12 H11 H10
      have sz : ((byts R).toArray).size = 32 := by simp [byts_len, lR.out.1]
      have oc := one_byts R
      have tr : w13.there w.heap.size 0 ((byts R).toArray).size := by rw [sz]; exact H13.out.2.there
      have il : (Tryz.prog.info? 26).map (·.size) = some (byts R).length := by rw [byts_len, lR.out.1]; kernel_rfl
      have il3 : (Tryz.prog.info? 26).map (·.size) = some ((byts R).toArray).size := by rw [sz]; kernel_rfl
      go_wp2_with ((with_reducible refine wpList_store_at (ty := 26) w.heap.size 0 (byts R).toArray tr il3 oc ?_ ?_ ?_); rfl; rfl)
      have ld := run_loadVar_mid (P := Tryz.prog) (w13.setCells w.heap.size 0 (byts R)) w.heap.size 0 26 (byts R) _ (World.rangeAt_setCells_same _ _ _ _ (by simpa using tr)) Tryz.underlying26 rfl il
      refine bodyPost_ret (v := .agg (byts R).toArray) ?_ rfl ⟨by rw [lR.out.2], below_setCells (Nat.le_refl _) (byts R) 0 w13 H13.out.1⟩
      simp [results, Tryz.results40, Act.put, asAddr, ld]
    · have hlt : i < PS.length := by omega
      have hlt' : (i : Int) < PS.length := by omega
      have ea : a = some ⟨bp, op, none⟩ := by
        rcases HH.out.2.1 with h | h
        · rw [h] at hlt; simp at hlt
        · exact h
      subst ea
      obtain ⟨p, kp⟩ : ∃ p, p = PS.getD i .none := ⟨_, rfl⟩
      have g0 : wr.cell? ⟨bp, op + i, none⟩ = some (.slice p.a p.X.length p.c) := by
        have h := (HH.out.1 i hlt).1
        rw [HF.out.1.cell (p := ⟨bp, op + i, none⟩) (World.block_lt_of_cell? w _ h), h, ← kp]
        rfl
      have OK : Hid (p.ok wr) := by
        have h := (HH.out.1 i hlt).2
        rw [← kp] at h
        exact ⟨h.1, h.2.1, fun j hj => by rw [HF.out.1.cell (p := ⟨p.b, p.o + j, none⟩) (World.block_lt_of_cell? w _ (h.2.2 j hj))]; exact h.2.2 j hj⟩
      have LB : Hid (p.X = [] ∨ p.b < w.heap.size) := by
        by_cases h0 : p.X = []
        · exact .inl h0
        · refine .inr ?_
          have h := (HH.out.1 i hlt).2
          rw [← kp] at h
          exact World.block_lt_of_cell? w _ (h.2.2 0 (List.length_pos_iff.2 h0))
      have NX : Hid (catX (PS.take (i + 1)) = catX (PS.take i) ++ p.X) := by rw [kp]; exact catX_next hlt
      have LN : Hid ((I ++ catX (PS.take i)).length + p.X.length < 1073741824) := by
        have h1 := catX_le (PS := PS) (i + 1)
        rw [NX.out, List.length_append] at h1
        have := HH.out.2.2.2.2.1
        have h : (I ++ catX (PS.take i)).length + p.X.length < 1073741824 := by rw [List.length_append, KK.out.2.2.2.2.1]; omega
        exact h
      clear kp
      obtain ⟨bd, NB, hAt, hByo⟩ : ∃ bd, Hid (bd ≠ bs) ∧ Hid (At p.a bd p.o p.X) ∧ Hid (Byo wr bd p.o p.X) := by
        rcases LB.out with h | h
        · refine ⟨bs + 1, ?_, .inl h, ?_⟩
          · have h : bs + 1 ≠ bs := by omega
            exact h
          · intro j hj; rw [h] at hj; simp at hj
        · refine ⟨p.b, ?_, OK.out.1, OK.out.2.2⟩
          have h : p.b ≠ bs := by have := NN.out; omega
          exact h
      go_wp2_with fail
      refine (write_any NB.out (by have := NN.out; have := G0.out; omega) (by have := NN.out; have := G0.out; omega) LN.out OK.out.2.1 hAt.out _ HF.out.2.2.2 hByo.out (HH.out.2.2.1.keep HF.out.1) (HH.out.2.2.2.1.keep HF.out.1)).mono ?_
      rintro e w5 ⟨rfl, hs5, ho5⟩
      have H5 : Hid (Below w.heap.size w w5 ∧ Hsh w5 w.heap.size (List.replicate 32 0) ∧ Row8 w5 g3 O ∧ Tx w5 bs (I ++ catX (PS.take (i + 1)))) := by
        rw [NX.out, ← List.append_assoc]
        exact ⟨HF.out.1.trans (ho5.below HF.out.1.size (by have := NN.out; omega)), HF.out.2.1.off ho5 (by have := NN.out; omega), HF.out.2.2.1.off ho5 (by have := NN.out; omega) (by have := NN.out; have := HF.out.2.2.2.lt; omega), hs5⟩
      clear hs5 ho5 HF OK LB NX LN g0 hAt hByo NB
      go_wp2
      go_roundg (PS.length - (i + 1))
      case measure => have := HK.out; omega
      case rel => exact ⟨i + 1, rfl, by omega, by go_num, H5.out⟩

end Go.Proofs.YtncpjgpioajbeaaGreatDoor.S

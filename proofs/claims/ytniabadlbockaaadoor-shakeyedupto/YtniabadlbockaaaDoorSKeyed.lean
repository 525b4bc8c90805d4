import Derived.Test.YtniabadlbockaaaDoorSHmac
import Derived.Test.YtniabadlbockaaaDoorSFolds
namespace Go.Proofs.YtniabadlbockaaaDoor
open Go.RowKit Go.Sort

theorem prts_keep {W W' : World} {b o : Nat} {PS : List Part} (h : Prts W b o PS) (hB : Below W.heap.size W W') : Prts W' b o PS := fun i hi => by
  obtain ⟨h1, h2, h3, h4⟩ := h i hi
  exact ⟨cell_keep hB h1, h2, h3, h4.keep hB⟩
theorem prts_drew {W : World} {b o : Nat} {PS : List Part} (h : Prts W b o PS) : Prts W.drew b o PS := h
theorem none_known : (shaL []).getD 0 0 = 0xe3 ∧ (shaL []).getD 31 0 = 0x55 := by decide +kernel

/-- A block of zeros, into which the changed bytes are laid one by one. -/
def mixAt (L : List (BitVec 8)) (m : BitVec 8) (i : Nat) : List (BitVec 8) := maskL (L.take i) m ++ List.replicate (64 - i) 0
theorem mixAt_len {L : List (BitVec 8)} (m : BitVec 8) {i : Nat} (h : L.length = 64) (hi : i ≤ 64) : (mixAt L m i).length = 64 := by
  rw [mixAt, List.length_append, maskL_len, List.length_take, List.length_replicate]; omega
theorem mixAt_zero (L : List (BitVec 8)) (m : BitVec 8) : mixAt L m 0 = List.replicate 64 0 := rfl
theorem mixAt_full {L : List (BitVec 8)} (m : BitVec 8) (h : L.length = 64) : mixAt L m 64 = maskL L m := by
  rw [mixAt, List.take_of_length_le (by omega), Nat.sub_self, List.replicate_zero, List.append_nil]
theorem mixAt_set {L : List (BitVec 8)} (m : BitVec 8) {i : Nat} (h : L.length = 64) (hi : i < 64) : (mixAt L m i).set i (L.getD i 0 ^^^ m) = mixAt L m (i + 1) := by
  have l : (maskL (L.take i) m).length = i := by rw [maskL_len, List.length_take]; omega
  rw [mixAt, mixAt, List.set_append_right _ _ (by omega), l, Nat.sub_self, show 64 - i = (64 - (i + 1)) + 1 by omega, List.replicate_succ, List.set_cons_zero, take_snoc (by omega), maskL, maskL, List.map_append, List.append_assoc]
  rfl

set_option maxRecDepth 100000 in
set_option maxHeartbeats 4000000 in
theorem keyed_any {ka a : Option Addr} {kb ko kc bp op cp : Nat} {X : List (BitVec 8)} {PS : List Part} (hl : X.length < 1073730000) (hka : At ka kb ko X) (hs : (catX PS).length < 1073730000) (hn : PS.length ≤ 1073730000) (ha : PS = [] ∨ a = some ⟨bp, op, none⟩) (w : World) (hX : Byo w kb ko X) (hP : Prts w bp op PS) (hf : Wds w 0 0 hN) (hk : Wds w 1 0 kN) :
    Calls Tryd.prog 4 #[.slice ka X.length kc, .slice a PS.length cp] w fun e w' => e = .returned (.bool true) ∧ Below w.heap.size w w' := by
  have HH : Hid (Prts w bp op PS ∧ (PS = [] ∨ a = some ⟨bp, op, none⟩) ∧ Wds w 0 0 hN ∧ Wds w 1 0 kN ∧ (catX PS).length < 1073730000 ∧ PS.length ≤ 1073730000) := ⟨hP, ha, hf, hk, hs, hn⟩
  have HX : Hid (At ka kb ko X ∧ Byo w kb ko X ∧ X.length < 1073730000) := ⟨hka, hX, hl⟩
  have nb : (PS.length : Int) ≤ 1073730000 := by omega
  have xb : (X.length : Int) < 1073730000 := by omega
  have G0 : Hid (0 < w.heap.size ∧ 1 < w.heap.size) := ⟨hf.lt (by decide), hk.lt (by decide)⟩
  clear hP ha hf hk hs hn hka hX hl
  obtain ⟨D, kD⟩ : ∃ D, shaL [] = D := ⟨_, rfl⟩
  have lD : Hid (D.length = 32 ∧ D.getD 0 0 = 0xe3 ∧ D.getD 31 0 = 0x55 ∧ shaL [] = D) := ⟨by rw [← kD]; exact shaL_len [], by rw [← kD]; exact none_known.1, by rw [← kD]; exact none_known.2, kD⟩
  clear kD
  have sz : ((byts D).toArray).size = 32 := by simp [byts_len, lD.out.1]
  have oc := one_byts D
  have il : (Tryd.prog.info? 27).map (·.size) = some ((byts D).toArray).size := by rw [sz]; kernel_rfl
  go_enter Tryd.func4, Tryd.ntmps4
  go_wp2_with fail
  have h1 := sum_any (PS := []) (a := none) (bp := 0) (op := 0) (cp := 0) (by decide) (by decide) (Nat.le_refl _) (.inl rfl) w (fun i hi => absurd hi (Nat.not_lt_zero _)) HH.out.2.2.1 HH.out.2.2.2.1
  rw [show catX ([] : List Part) = [] from rfl, lD.out.2.2.2] at h1
  refine h1.mono ?_
  clear h1
  rintro e w1 ⟨rfl, b1⟩
  have H1 : Hid (Below w.heap.size w w1) := b1
  clear b1
  have e0 : Hid (Y (0xe3 : BitVec 8) = 227 ∧ Y (0x55 : BitVec 8) = 85) := ⟨by rw [Y_eq]; rfl, by rw [Y_eq]; rfl⟩
  go_wp2_with ((with_reducible refine wpList_store_at (ty := 27) w1.heap.size 0 (byts D).toArray ?_ il oc ?_ ?_ ?_); rw [sz]; exact (Hsh.zeros _ rfl).there; rfl; rfl; refine wpList_world (fun V => Below w.heap.size w V ∧ Hsh V w1.heap.size D) ⟨below_setCells H1.out.size _ 0 _ (H1.out.alloc H1.out.size _), (Hsh.zeros _ rfl).stored lD.out.1⟩ ?_; intro w2 h2; have H2 : Hid (Below w.heap.size w w2 ∧ Hsh w2 w1.heap.size D) := h2; have c0 : w2.cell? ⟨w1.heap.size, 0, none⟩ = some (.int .u8 227) := (by have h := h2.2.2.1 0 (by decide); rw [lD.out.2.1, e0.out.1] at h; exact h); have c31 : w2.cell? ⟨w1.heap.size, 31, none⟩ = some (.int .u8 85) := (by have h := h2.2.2.1 31 (by decide); rw [lD.out.2.2.1, e0.out.2] at h; exact h); clear h2)
  clear c0 c31 sz oc il e0
  generalize w1.heap.size = g0 at *
  have H2' : Hid (Below w.heap.size w w2) := H2.out.1
  clear H1 H2
  refine (copied_any (by have := HX.out; omega) HX.out.1 _ (HX.out.2.1.keep H2'.out)).mono ?_
  rintro e w3 ⟨v3, rfl, o3, b3⟩
  have H3 : Hid (Own w2.heap.size w3 v3 X ∧ Below w.heap.size w w3) := ⟨o3, H2'.out.trans (b3.mono H2'.out.size)⟩
  have B3 : Hid (w2.heap.size ≤ w3.heap.size) := b3.size
  obtain ⟨a3, c3, ev⟩ := own_slice o3
  subst ev
  clear o3 b3
  by_cases h64 : 64 < X.length
  case' pos =>
    have d1 : decide (64 < (X.length : Int)) = true := decide_eq_true (by omega)
    go_wp2_with fail
    refine (sum_own _ (by have := HX.out; omega) H3.out.1 (HH.out.2.2.1.keep H3.out.2) (HH.out.2.2.2.1.keep H3.out.2)).mono ?_
    obtain ⟨E, kE⟩ : ∃ E, shaL X = E := ⟨_, rfl⟩
    rw [kE]
    have lE : Hid (E.length = 32 ∧ keyL X = E ++ List.replicate (64 - E.length) 0) := ⟨by rw [← kE]; exact shaL_len X, by rw [keyL, if_pos h64, kE, show E.length = 32 by rw [← kE]; exact shaL_len X]⟩
    clear kE
    rintro e w4 ⟨rfl, hb⟩
    have H4 : Hid (Below w.heap.size w w4) := H3.out.2.trans (hb.mono H3.out.2.size)
    clear hb H3
    have sz : ((byts E).toArray).size = 32 := by simp [byts_len, lE.out.1]
    have oc := one_byts E
    have il : (Tryd.prog.info? 27).map (·.size) = some ((byts E).toArray).size := by rw [sz]; kernel_rfl
    go_wp2_with ((with_reducible refine wpList_store_at (ty := 27) w4.heap.size 0 (byts E).toArray ?_ il oc ?_ ?_ ?_); rw [sz]; exact (Hsh.zeros _ rfl).there; rfl; rfl; refine wpList_world (fun V => Below w.heap.size w V ∧ Hsh V w4.heap.size E) ⟨below_setCells H4.out.size _ 0 _ (H4.out.alloc H4.out.size _), (Hsh.zeros _ rfl).stored lE.out.1⟩ ?_; intro w5 h5; have H5 : Hid (Below w.heap.size w w5 ∧ Hsh w5 w4.heap.size E) := h5; clear h5)
    generalize w4.heap.size = g1 at *
    clear sz oc il
    have h6 := copied_any (a := some ⟨g1, 0, none⟩) (bd := g1) (od := 0) (cd := 32) (X := E) (by rw [lE.out.1]; decide) (.inr rfl) w5 (fun j hj => by rw [Nat.zero_add]; exact H5.out.2.2.1 j (by have := lE.out.1; omega))
    rw [lE.out.1] at h6
    refine h6.mono ?_
    clear h6
    rintro e w6 ⟨v6, rfl, o6, b6⟩
    have HO : Hid (∃ K B, Own B w6 v6 K ∧ Below w.heap.size w w6 ∧ w.heap.size ≤ B ∧ B ≤ w6.heap.size ∧ K.length ≤ 64 ∧ keyL X = K ++ List.replicate (64 - K.length) 0) := ⟨E, w5.heap.size, o6, H5.out.1.trans (b6.mono H5.out.1.size), H5.out.1.size, b6.size, by rw [lE.out.1]; decide, lE.out.2⟩
    clear o6 b6 H5 lE
    go_wp2_with fail
  case' neg =>
    have d1 : decide (64 < (X.length : Int)) = false := decide_eq_false (by omega)
    obtain ⟨v6, kv⟩ : ∃ v, v = Value.slice a3 X.length c3 := ⟨_, rfl⟩
    have HO : Hid (∃ K B, Own B w3 v6 K ∧ Below w.heap.size w w3 ∧ w.heap.size ≤ B ∧ B ≤ w3.heap.size ∧ K.length ≤ 64 ∧ keyL X = K ++ List.replicate (64 - K.length) 0) := ⟨X, w2.heap.size, by rw [kv]; exact H3.out.1, H3.out.2, H2'.out.size, B3.out, by omega, by rw [keyL, if_neg h64]⟩
    clear H3
    go_wp2_with fail
    rw [← kv]
    clear kv
    generalize w3 = w6 at *
  all_goals (
    obtain ⟨K, B, o7⟩ := HO.out
    have H7 : Hid (Own B w6 v6 K ∧ Below w.heap.size w w6 ∧ w.heap.size ≤ B ∧ B ≤ w6.heap.size ∧ K.length ≤ 64 ∧ keyL X = K ++ List.replicate (64 - K.length) 0) := o7
    clear o7 HO d1 h64
    obtain ⟨i0, hi, hz0, hz1, hz2⟩ := info_parts info_byte
    have y0 : Hid (Y 0 = 0) := Y_zero
    go_loopg [6] (64 - K.length) (fun k kv wr => ∃ L : List (BitVec 8), k = 64 - L.length ∧ L.length ≤ 64 ∧ Own B wr kv L ∧ Below w.heap.size w wr ∧ w.heap.size ≤ B ∧ B ≤ wr.heap.size ∧ keyL X = L ++ List.replicate (64 - L.length) 0)
    case atStart => exact ⟨K, rfl, H7.out.2.2.2.2.1, H7.out.1, H7.out.2.1, H7.out.2.2.1, H7.out.2.2.2.1, H7.out.2.2.2.2.2⟩
    case round =>
      clear H7
      obtain ⟨L, hk, hl9, hf⟩ := hrel
      have HK : Hid (gk = 64 - L.length) := hk
      have HF : Hid (Own B wr u6 L ∧ Below w.heap.size w wr ∧ w.heap.size ≤ B ∧ B ≤ wr.heap.size ∧ keyL X = L ++ List.replicate (64 - L.length) 0) := hf
      clear hk hf
      by_cases h8 : L.length = 64
      · obtain ⟨g, c, ev, hc⟩ := own_form HF.out.1 (by omega)
        subst ev
        have HL : Hid (Byo wr g 0 L ∧ g < wr.heap.size ∧ w.heap.size ≤ g ∧ Below w.heap.size w wr ∧ L.length = 64 ∧ keyL X = L) := by
          refine ⟨fun i hi => ?_, (HF.out.1.row.lt g rfl).2, Nat.le_trans HF.out.2.2.1 (HF.out.1.row.lt g rfl).1, HF.out.2.1, h8, by have h := HF.out.2.2.2.2; rw [h8, Nat.sub_self, List.replicate_zero, List.append_nil] at h; exact h⟩
          rw [Nat.zero_add, HF.out.1.row.cellAt i (by omega), byts, List.getElem?_map]
          simp [List.getD, hi]
        rw [h8] at hc ⊢
        clear HF HK h8 hl9 y0
        have hc' : (64 : Int) ≤ (c : Int) := by omega
        go_wp2_with (at_make; refine wpList_make_cap _ rfl _ _ 24 rfl 5 i0 (.int .u8 0) Tryd.underlying24 hi hz0 hz1 rfl hz2 .i64 .i64 _ _ 64 64 rfl rfl rfl rfl (Nat.le_refl _) (by decide) ?_; rw [made_bytes])
        refine wp_world (fun W => Below w.heap.size w W ∧ Byo W g 0 L ∧ Row8 W wr.heap.size (mixAt L 54 0) ∧ Row8 W (wr.heap.size + 1) (mixAt L 92 0)) ⟨(HL.out.2.2.2.1.alloc HL.out.2.2.2.1.size _).alloc (by have := HL.out.2.2.2.1.size; simp; omega) _, (HL.out.1.keep ((Below.refl _ _).alloc (Nat.le_refl _) _)).keep ((Below.refl _ _).alloc (Nat.le_refl _) _), by rw [mixAt_zero]; exact (Row8.zeros64 _ rfl).keep ((Below.refl _ _).alloc (Nat.le_refl _) _) (by simp), by rw [mixAt_zero]; exact Row8.zeros64 _ (by simp)⟩ ?_
        rintro w8 h8
        have H8 : Hid (Below w.heap.size w w8 ∧ Byo w8 g 0 L ∧ Row8 w8 wr.heap.size (mixAt L 54 0) ∧ Row8 w8 (wr.heap.size + 1) (mixAt L 92 0)) := h8
        have n1 : g ≠ wr.heap.size := by have := HL.out; omega
        have n2 : g ≠ wr.heap.size + 1 := by have := HL.out; omega
        have n3 : wr.heap.size ≠ wr.heap.size + 1 := by omega
        have LL : Hid (L.length = 64 ∧ keyL X = L ∧ w.heap.size ≤ wr.heap.size ∧ w.heap.size ≤ wr.heap.size + 1) := ⟨HL.out.2.2.2.2.1, HL.out.2.2.2.2.2, HL.out.2.2.2.1.size, Nat.le_succ_of_le HL.out.2.2.2.1.size⟩
        clear h8 HL hc hi hz0 hz1 hz2
        generalize wr.heap.size + 1 = gj at *
        generalize wr.heap.size = gi at *
        have y1 : Hid (Y 54 = 54 ∧ Y 92 = 92) := ⟨by rw [Y_eq]; rfl, by rw [Y_eq]; rfl⟩
        go_loopg [10] 64 (fun k iv wr => ∃ i : Nat, k = 64 - i ∧ i ≤ 64 ∧ iv = .int .i64 i ∧ Below w.heap.size w wr ∧ Byo wr g 0 L ∧ Row8 wr gi (mixAt L 54 i) ∧ Row8 wr gj (mixAt L 92 i))
        case atStart => exact ⟨0, rfl, by decide, rfl, H8.out⟩
        case round =>
          clear H8
          obtain ⟨i, hk, hi, rfl, hf⟩ := hrel
          have HK : Hid (gk = 64 - i) := hk
          have HF : Hid (Below w.heap.size w wr ∧ Byo wr g 0 L ∧ Row8 wr gi (mixAt L 54 i) ∧ Row8 wr gj (mixAt L 92 i)) := hf
          clear hk hf
          by_cases h8 : i = 64
          · subst h8
            rw [mixAt_full 54 LL.out.1, mixAt_full 92 LL.out.1] at HF
            clear hc' n1 n2 n3 y1 HK hi
            go_wp2_with fail
            obtain ⟨I, kI⟩ : ∃ I, maskL L 54 = I := ⟨_, rfl⟩
            obtain ⟨O, kO⟩ : ∃ O, maskL L 92 = O := ⟨_, rfl⟩
            obtain ⟨T, kT⟩ : ∃ T, catX PS = T := ⟨_, rfl⟩
            have KK : Hid (I.length = 64 ∧ O.length = 64 ∧ catX PS = T ∧ T.length < 1073730000 ∧ hmacL X T = shaL (O ++ shaL (I ++ T))) := ⟨by rw [← kI, maskL_len]; exact LL.out.1, by rw [← kO, maskL_len]; exact LL.out.1, kT, by rw [← kT]; exact HH.out.2.2.2.2.1, by rw [hmacL, LL.out.2.1, kI, kO]⟩
            rw [kI, kO] at HF
            clear kI kO kT
            have H9 : Hid (Below w.heap.size w wr ∧ Row8 wr gi I ∧ Row8 wr gj O ∧ gi < wr.heap.size ∧ gj < wr.heap.size) := ⟨HF.out.1, HF.out.2.2.1, HF.out.2.2.2, World.block_lt_of_cell? wr _ (HF.out.2.2.1.1 0 (by rw [KK.out.1]; decide)), World.block_lt_of_cell? wr _ (HF.out.2.2.2.1 0 (by rw [KK.out.2.1]; decide))⟩
            clear HF LL
            refine (joined_any (by have := HH.out; omega) (by have := HH.out; omega) HH.out.2.1 _ (fun i hi => by obtain ⟨h1, h2, h3, h4⟩ := HH.out.1 i hi; exact ⟨cell_keep H9.out.1 h1, h2, h3, h4.keep H9.out.1⟩)).mono ?_
            rintro e w10 ⟨v10, rfl, o10, b10⟩
            rw [KK.out.2.2.1] at o10
            obtain ⟨ta, tb, to, tc, ev, hAt, hlen, hBy, htb⟩ := own_text o10 (by have := b10.size; have := H9.out; omega)
            subst ev
            have H10 : Hid (Below w.heap.size w w10 ∧ Row8 w10 gi I ∧ Row8 w10 gj O ∧ gj < w10.heap.size ∧ At ta tb to T ∧ T.length ≤ tc ∧ Byo w10 tb to T) := ⟨H9.out.1.trans (b10.mono H9.out.1.size), H9.out.2.1.keep b10 H9.out.2.2.2.1, H9.out.2.2.1.keep b10 H9.out.2.2.2.2, Nat.lt_of_lt_of_le H9.out.2.2.2.2 b10.size, hAt, hlen, hBy⟩
            clear H9 o10 b10 hAt hlen hBy htb
            go_wp2_with fail
            have b12 : Below w10.heap.size w10 (w10.alloc (.cells #[.slice (some ⟨gi, 0, none⟩) 64 64, .slice ta T.length tc] 24)) := (Below.refl _ _).alloc (Nat.le_refl _) _
            have p12 : Prts (w10.alloc (.cells #[.slice (some ⟨gi, 0, none⟩) 64 64, .slice ta T.length tc] 24)) w10.heap.size 0 [⟨some ⟨gi, 0, none⟩, gi, 0, 64, I⟩, ⟨ta, tb, to, tc, T⟩] := two_parts (W := w10) (p := ⟨some ⟨gi, 0, none⟩, gi, 0, 64, I⟩) (q := ⟨ta, tb, to, tc, T⟩) _ (by show _ = Value.slice _ I.length _; rw [KK.out.1]) rfl ⟨.inr rfl, by show I.length ≤ 64; rw [KK.out.1]; decide, H10.out.2.1.1⟩ ⟨H10.out.2.2.2.2.1, H10.out.2.2.2.2.2.1, H10.out.2.2.2.2.2.2⟩
            have h12 := sum_any (a := some ⟨w10.heap.size, 0, none⟩) (cp := 2) (by rw [cat_two, List.length_append]; show I.length + T.length < _; have := KK.out; omega) (by show 2 ≤ _; omega) (Nat.le_refl _) (.inr rfl) _ p12 ((HH.out.2.2.1.keep H10.out.1).keep b12) ((HH.out.2.2.2.1.keep H10.out.1).keep b12)
            clear p12
            obtain ⟨M, kM⟩ : ∃ M, M = shaL (I ++ T) := ⟨_, rfl⟩
            have lM : Hid (M.length = 32 ∧ hmacL X T = shaL (O ++ M)) := ⟨by rw [kM]; exact shaL_len _, by rw [KK.out.2.2.2.2, kM]⟩
            rw [cat_two] at h12
            dsimp only at h12
            rw [← kM] at h12
            clear kM
            refine h12.mono ?_
            clear h12
            rintro e w13 ⟨rfl, hb⟩
            have H13 : Hid (Below w.heap.size w w13 ∧ Row8 w13 gj O ∧ gj < w13.heap.size) := ⟨(H10.out.1.trans (b12.mono H10.out.1.size)).trans (hb.mono (Nat.le_trans H10.out.1.size b12.size)), (H10.out.2.2.1.keep b12 H10.out.2.2.2.1).keep hb (Nat.lt_of_lt_of_le H10.out.2.2.2.1 b12.size), Nat.lt_of_lt_of_le H10.out.2.2.2.1 (Nat.le_trans b12.size hb.size)⟩
            clear hb b12 H10
            have sz : ((byts M).toArray).size = 32 := by simp [byts_len, lM.out.1]
            have oc := one_byts M
            have il : (Tryd.prog.info? 27).map (·.size) = some ((byts M).toArray).size := by rw [sz]; kernel_rfl
            go_wp2_with ((with_reducible refine wpList_store_at (ty := 27) w13.heap.size 0 (byts M).toArray ?_ il oc ?_ ?_ ?_); rw [sz]; exact (Hsh.zeros _ rfl).there; rfl; rfl; refine wpList_world (fun V => Below w.heap.size w V ∧ Row8 V gj O ∧ gj < V.heap.size ∧ Hsh V w13.heap.size M) ⟨below_setCells H13.out.1.size _ 0 _ (H13.out.1.alloc H13.out.1.size _), (H13.out.2.1.keep ((Below.refl _ _).alloc (Nat.le_refl _) _) H13.out.2.2).off ((Off.refl w13.heap.size _).setCells _) (by have := H13.out; omega) (by have := H13.out; simp; omega), ?_, (Hsh.zeros _ rfl).stored lM.out.1⟩ ?_; exact Nat.lt_of_lt_of_le (Nat.lt_of_lt_of_le H13.out.2.2 (by simp)) ((Off.refl w13.heap.size _).setCells (o := 0) (byts M)).size; intro w14 h14; have H14 : Hid (Below w.heap.size w w14 ∧ Row8 w14 gj O ∧ gj < w14.heap.size ∧ Hsh w14 w13.heap.size M) := h14; clear h14)
            generalize w13.heap.size = gm at *
            clear H13 sz oc il
            have TB : Hid (∀ W, Below w14.heap.size w14 W → Below w.heap.size w W) := fun W hW => H14.out.1.trans (hW.mono H14.out.1.size)
            have CP : Hid (∀ W, Below w14.heap.size w14 W → Calls Tryd.prog 13 #[.slice ka X.length kc] W fun e w' => ∃ a b o c, e = .returned (.slice a X.length c) ∧ At a b o X ∧ X.length ≤ c ∧ Byo w' b o X ∧ Below W.heap.size W w') := by
              intro W hW
              refine (copied_any (by have := HX.out; omega) HX.out.1 W (HX.out.2.1.keep (TB.out W hW))).mono ?_
              rintro e w' ⟨v, rfl, ho, hb⟩
              obtain ⟨sa, sb, so, sc, ev, h1, h2, h3, _⟩ := own_text ho (by have := hb.size; have := (TB.out W hW).size; have := G0.out; omega)
              subst ev
              exact ⟨sa, sb, so, sc, rfl, h1, h2, h3, hb⟩
            have PA : Hid (∀ W, Below w14.heap.size w14 W → Calls Tryd.prog 16 #[.slice a PS.length cp] W fun e w' => ∃ g c, e = .returned (.slice (some ⟨g, 0, none⟩) PS.length c) ∧ PS.length ≤ c ∧ ∃ QS : List Part, QS.length = PS.length ∧ Prts w' g 0 QS ∧ catX QS = catX PS ∧ Below W.heap.size W w') := fun W hW => parcel_any (by have := HH.out; omega) (by have := HH.out; omega) HH.out.2.1 _ (prts_keep HH.out.1 (TB.out W hW))
            obtain ⟨R, kR⟩ : ∃ R, hmacL X T = R := ⟨_, rfl⟩
            have lR : R.length = 32 := by rw [← kR]; exact shaL_len _
            have KR : Hid (hmacL X T = R ∧ shaL (O ++ M) = R) := ⟨kR, by rw [← kR]; exact lM.out.2.symm⟩
            clear kR
            have q0 := fun w => eq_hash lR lR w
            simp only [decide_true] at q0
            have HM : Hid (∀ W V sa sb so sc g c (QS : List Part), Below w14.heap.size w14 V → Below V.heap.size V W → At sa sb so X → X.length ≤ sc → Byo V sb so X → PS.length ≤ c → QS.length = PS.length → Prts V g 0 QS → catX QS = catX PS → Calls Tryd.prog 15 #[.slice sa X.length sc, .slice (some ⟨g, 0, none⟩) PS.length c] W fun e w' => e = .returned (.agg (byts R).toArray) ∧ Below W.heap.size W w') := by
              intro W V sa sb so sc g c QS hV hW h1 h2 h3 h4 h5 h6 h7
              have hw := TB.out W (hV.trans (hW.mono hV.size))
              have h := hmac_any (PS := QS) (a := some ⟨g, 0, none⟩) (cp := c) (by have := HX.out; omega) h2 h1 (by rw [h7]; exact HH.out.2.2.2.2.1) (by rw [h5]; exact HH.out.2.2.2.2.2) (.inr rfl) W (h3.keep hW) (prts_keep h6 hW) (HH.out.2.2.1.keep hw) (HH.out.2.2.2.1.keep hw)
              rw [h7, KK.out.2.2.1, KR.out.1, h5] at h
              exact h
            have TP : Hid (∀ V t, Below w14.heap.size w14 V → Prts (V.alloc (.cells #[.slice (some ⟨gj, 0, none⟩) 64 64, .slice (some ⟨gm, 0, none⟩) 32 32] t)) V.heap.size 0 [⟨some ⟨gj, 0, none⟩, gj, 0, 64, O⟩, ⟨some ⟨gm, 0, none⟩, gm, 0, 32, M⟩]) := fun V t hV => two_parts (W := V) (p := ⟨some ⟨gj, 0, none⟩, gj, 0, 64, O⟩) (q := ⟨some ⟨gm, 0, none⟩, gm, 0, 32, M⟩) t (by show _ = Value.slice _ O.length _; rw [KK.out.2.1]) (by show _ = Value.slice _ M.length _; rw [lM.out.1]) ⟨.inr rfl, by show O.length ≤ 64; rw [KK.out.2.1]; decide, H14.out.2.1.1.keep hV⟩ ⟨.inr rfl, by show M.length ≤ 32; rw [lM.out.1]; decide, fun j hj => by rw [Nat.zero_add]; exact (H14.out.2.2.2.keep hV).2.1 j (by have := lM.out.1; have h : j < M.length := hj; omega)⟩
            have SU : Hid (∀ W gb, Below w14.heap.size w14 W → Prts W gb 0 [⟨some ⟨gj, 0, none⟩, gj, 0, 64, O⟩, ⟨some ⟨gm, 0, none⟩, gm, 0, 32, M⟩] → Calls Tryd.prog 12 #[.slice (some ⟨gb, 0, none⟩) 2 2] W fun e w' => e = .returned (.agg (byts R).toArray) ∧ Below W.heap.size W w') := by
              intro W gb hW hP
              have h := sum_any (a := some ⟨gb, 0, none⟩) (cp := 2) (by rw [cat_two, List.length_append]; show O.length + M.length < _; rw [KK.out.2.1, lM.out.1]; decide) (by show 2 ≤ _; omega) (Nat.le_refl _) (.inr rfl) W hP (HH.out.2.2.1.keep (TB.out W hW)) (HH.out.2.2.2.1.keep (TB.out W hW))
              rw [cat_two] at h
              dsimp only at h
              rw [KR.out.2] at h
              exact h
            have HW : Hid (Below w.heap.size w w14) := H14.out.1
            clear H14 lM KK
            (try simp only [Act.put])
            -- THE LAST ROW
            refine wp_region_held_drew (S := fun _ => True) (by kernel_rfl) trivial (fun hHeld => ?_)
            refine wpAnyH_take (i := 0) (oi := _) (v := .slice ka X.length kc) rfl (by kernel_rfl) (by kernel_rfl) (by kernel_rfl) (fun _ _ _ h => h) (Or.inl ⟨by rfl, ?_⟩) (by assumption) ?_
            · intro w hSw
              first | (go_simp; done) | (go_simp; rfl)
            (try simp only [Act.put, List.setIfInBounds_toArray])
            refine wpAnyH_take (i := 2) (oi := _) (v := .slice a PS.length cp) rfl (by kernel_rfl) (by kernel_rfl) (by kernel_rfl) (fun _ _ _ h => h) (Or.inl ⟨by rfl, ?_⟩) (by assumption) ?_
            · intro w hSw
              first | (go_simp; done) | (go_simp; rfl)
            (try simp only [Act.put])
            refine wpAnyH_take (i := 5) (oi := _) (v := .slice (some ⟨gj, 0, none⟩) 64 64) rfl (by kernel_rfl) (by kernel_rfl) (by kernel_rfl) (fun _ _ _ h => h) (Or.inl ⟨by rfl, ?_⟩) (by assumption) ?_
            · intro w hSw
              first | (go_simp; done) | (go_simp; rfl)
            (try simp only [Act.put])
            refine wpAnyH_take (i := 6) (oi := _) (v := .slice (some ⟨gm, 0, none⟩) 32 32) rfl (by kernel_rfl) (by kernel_rfl) (by kernel_rfl) (fun _ _ _ h => h) (Or.inl ⟨by rfl, ?_⟩) (by assumption) ?_
            · intro w hSw
              first | (go_simp; done) | (go_simp; rfl)
            (try simp only [Act.put])
            refine wpAnyH_ready (rs := [1, 7]) (by kernel_rfl) (by simp) ?_
            refine AllReadyH.cons rfl (fun K hK => ?_) (AllReadyH.cons rfl (fun K hK => ?_) AllReadyH.nil)
            · go_simp
              go_wp2_with (go_at_call 13; refine (CP.out _ (by (repeat (first | with_reducible assumption | with_reducible exact Below.refl _ _ | with_reducible refine Below.drew ?_ | with_reducible refine Below.alloc ?_ (by first | (simp; done) | (have := B1.size; simp; omega) | (have := B2.size; simp; omega) | (have := B3.size; simp; omega)) _)))).mono ?_; rintro e x1 ⟨sa, sb, so, sc, rfl, s1, s2, s3, hb1⟩; have B1 : Below w14.heap.size w14 x1 := (Below.trans (by (repeat (first | with_reducible assumption | with_reducible exact Below.refl _ _ | with_reducible refine Below.drew ?_ | with_reducible refine Below.alloc ?_ (by first | (simp; done) | (have := B1.size; simp; omega) | (have := B2.size; simp; omega) | (have := B3.size; simp; omega)) _))) (hb1.mono (by first | (simp; done) | (have := B1.size; simp; omega) | (have := B2.size; simp; omega) | (have := B3.size; simp; omega) | (have := B4.size; simp; omega)))))
              refine hK.out _ _ trivial (fun hHeld => ?_)
              clear hK K
              refine wpAnyH_ready (rs := [3, 7]) (by kernel_rfl) (by simp) ?_
              refine AllReadyH.cons rfl (fun K hK => ?_) (AllReadyH.cons rfl (fun K hK => ?_) AllReadyH.nil)
              · go_simp
                go_wp2_with (go_at_call 16; refine (PA.out _ (by (repeat (first | with_reducible assumption | with_reducible exact Below.refl _ _ | with_reducible refine Below.drew ?_ | with_reducible refine Below.alloc ?_ (by first | (simp; done) | (have := B1.size; simp; omega) | (have := B2.size; simp; omega) | (have := B3.size; simp; omega)) _)))).mono ?_; rintro e x2 ⟨g', c', rfl, hc1, QS, hq1, hq2, hq3, hb2⟩; have B2 : Below w14.heap.size w14 x2 := (Below.trans (by (repeat (first | with_reducible assumption | with_reducible exact Below.refl _ _ | with_reducible refine Below.drew ?_ | with_reducible refine Below.alloc ?_ (by first | (simp; done) | (have := B1.size; simp; omega) | (have := B2.size; simp; omega) | (have := B3.size; simp; omega)) _))) (hb2.mono (by first | (simp; done) | (have := B1.size; simp; omega) | (have := B2.size; simp; omega) | (have := B3.size; simp; omega) | (have := B4.size; simp; omega)))); have s4 : Byo x2 sb so X := s3.keep hb2)
                refine hK.out _ _ trivial (fun hHeld => ?_)
                clear hK K
                refine wpAnyH_ready (rs := [4, 7]) (by kernel_rfl) (by simp) ?_
                refine AllReadyH.cons rfl (fun K hK => ?_) (AllReadyH.cons rfl (fun K hK => ?_) AllReadyH.nil)
                · go_simp
                  go_wp2_with (go_at_call 15; refine (HM.out _ x2 sa sb so sc g' c' QS B2 (Below.refl _ _) s1 s2 s4 hc1 hq1 hq2 hq3).mono ?_; rintro e x3 ⟨rfl, hb3⟩; have B3 : Below w14.heap.size w14 x3 := (Below.trans (by (repeat (first | with_reducible assumption | with_reducible exact Below.refl _ _ | with_reducible refine Below.drew ?_ | with_reducible refine Below.alloc ?_ (by first | (simp; done) | (have := B1.size; simp; omega) | (have := B2.size; simp; omega) | (have := B3.size; simp; omega)) _))) (hb3.mono (by first | (simp; done) | (have := B1.size; simp; omega) | (have := B2.size; simp; omega) | (have := B3.size; simp; omega) | (have := B4.size; simp; omega)))))
                  refine hK.out _ _ trivial (fun hHeld => ?_)
                  clear hK K
                  refine wpAnyH_ready (rs := [7]) (by kernel_rfl) (by simp) ?_
                  refine AllReadyH.cons rfl (fun K hK => ?_) AllReadyH.nil
                  go_simp
                  refine hK.out _ _ trivial (fun hHeld => ?_)
                  clear hK K
                  refine wpAnyH_ready (rs := [8]) (by kernel_rfl) (by simp) ?_
                  refine AllReadyH.cons rfl (fun K hK => ?_) AllReadyH.nil
                  go_simp
                  go_wp2_with (go_at_call 12; refine (SU.out _ _ (by (repeat (first | with_reducible assumption | with_reducible exact Below.refl _ _ | with_reducible refine Below.drew ?_ | with_reducible refine Below.alloc ?_ (by first | (simp; done) | (have := B1.size; simp; omega) | (have := B2.size; simp; omega) | (have := B3.size; simp; omega)) _))) (TP.out _ _ (by (repeat (first | with_reducible assumption | with_reducible exact Below.refl _ _ | with_reducible refine Below.drew ?_ | with_reducible refine Below.alloc ?_ (by first | (simp; done) | (have := B1.size; simp; omega) | (have := B2.size; simp; omega) | (have := B3.size; simp; omega)) _))))).mono ?_; rintro e x4 ⟨rfl, hb4⟩; have B4 : Below w14.heap.size w14 x4 := (Below.trans (by (repeat (first | with_reducible assumption | with_reducible exact Below.refl _ _ | with_reducible refine Below.drew ?_ | with_reducible refine Below.alloc ?_ (by first | (simp; done) | (have := B1.size; simp; omega) | (have := B2.size; simp; omega) | (have := B3.size; simp; omega)) _))) (hb4.mono (by first | (simp; done) | (have := B1.size; simp; omega) | (have := B2.size; simp; omega) | (have := B3.size; simp; omega) | (have := B4.size; simp; omega)))))
                  refine hK.out _ _ trivial (fun hHeld => ?_)
                  clear hK K
                  refine wpAnyH_take (i := 9) (oi := _) (v := .bool true) rfl (by kernel_rfl) (by kernel_rfl) (by kernel_rfl) (fun _ _ _ h => h) (Or.inl ⟨by rfl, ?_⟩) (by assumption) ?_
                  · intro w hSw
                    first | (go_simp; done) | (go_simp; rfl)
                  (try simp only [Act.put, List.setIfInBounds_toArray])
                  refine wpAnyH_take (i := 10) (oi := _) (v := .bool true) rfl (by kernel_rfl) (by kernel_rfl) (by kernel_rfl) (fun _ _ _ h => h) (Or.inl ⟨by rfl, ?_⟩) (by assumption) ?_
                  · intro w hSw
                    first | (go_simp; done) | (go_simp; rfl)
                  (try simp only [Act.put])
                  refine wpAnyH_done (by kernel_rfl) ?_ _
                  have HE : Hid (Below w.heap.size w x4) := HW.out.trans (B4.mono HW.out.size)
                  clear q0 hb1 hb2 hb3 hb4 s1 s2 s3 s4 hc1 hq1 hq2 hq3 B1 B2 B3 B4 nb xb
                  refine exit_frame (fun A => A.tmps.getD 4 undef = .bool true ∧ A.defers = []) ⟨by rfl, by rfl⟩ ?_
                  intro A hA
                  go_wp2
                  refine bodyPost_ret (v := .bool true) ?_ hA.2 ⟨rfl, HE.out⟩
                  have h1 := hA.1
                  simp [results, Tryd.results4] at h1 ⊢
                  exact h1
                · go_simp
                  refine hK.out _ _ trivial (fun hHeld => ?_)
                  clear hK K
                  refine wpAnyH_ready (rs := [4]) (by kernel_rfl) (by simp) ?_
                  refine AllReadyH.cons rfl (fun K hK => ?_) AllReadyH.nil
                  go_simp
                  go_wp2_with (go_at_call 15; refine (HM.out _ x2 sa sb so sc g' c' QS B2 ((Below.refl _ _).alloc (Nat.le_refl _) _) s1 s2 s4 hc1 hq1 hq2 hq3).mono ?_; rintro e x3 ⟨rfl, hb3⟩; have B3 : Below w14.heap.size w14 x3 := (Below.trans (by (repeat (first | with_reducible assumption | with_reducible exact Below.refl _ _ | with_reducible refine Below.drew ?_ | with_reducible refine Below.alloc ?_ (by first | (simp; done) | (have := B1.size; simp; omega) | (have := B2.size; simp; omega) | (have := B3.size; simp; omega)) _))) (hb3.mono (by first | (simp; done) | (have := B1.size; simp; omega) | (have := B2.size; simp; omega) | (have := B3.size; simp; omega) | (have := B4.size; simp; omega)))); have P3 : Prts x3 _ 0 _ := prts_keep (TP.out _ _ (by (repeat (first | with_reducible assumption | with_reducible exact Below.refl _ _ | with_reducible refine Below.drew ?_ | with_reducible refine Below.alloc ?_ (by first | (simp; done) | (have := B1.size; simp; omega) | (have := B2.size; simp; omega) | (have := B3.size; simp; omega)) _)))) hb3)
                  refine hK.out _ _ trivial (fun hHeld => ?_)
                  clear hK K
                  refine wpAnyH_ready (rs := [8]) (by kernel_rfl) (by simp) ?_
                  refine AllReadyH.cons rfl (fun K hK => ?_) AllReadyH.nil
                  go_simp
                  go_wp2_with (go_at_call 12; refine (SU.out _ _ (by (repeat (first | with_reducible assumption | with_reducible exact Below.refl _ _ | with_reducible refine Below.drew ?_ | with_reducible refine Below.alloc ?_ (by first | (simp; done) | (have := B1.size; simp; omega) | (have := B2.size; simp; omega) | (have := B3.size; simp; omega)) _))) P3).mono ?_; rintro e x4 ⟨rfl, hb4⟩; have B4 : Below w14.heap.size w14 x4 := (Below.trans (by (repeat (first | with_reducible assumption | with_reducible exact Below.refl _ _ | with_reducible refine Below.drew ?_ | with_reducible refine Below.alloc ?_ (by first | (simp; done) | (have := B1.size; simp; omega) | (have := B2.size; simp; omega) | (have := B3.size; simp; omega)) _))) (hb4.mono (by first | (simp; done) | (have := B1.size; simp; omega) | (have := B2.size; simp; omega) | (have := B3.size; simp; omega) | (have := B4.size; simp; omega)))))
                  refine hK.out _ _ trivial (fun hHeld => ?_)
                  clear hK K
                  refine wpAnyH_take (i := 9) (oi := _) (v := .bool true) rfl (by kernel_rfl) (by kernel_rfl) (by kernel_rfl) (fun _ _ _ h => h) (Or.inl ⟨by rfl, ?_⟩) (by assumption) ?_
                  · intro w hSw
                    first | (go_simp; done) | (go_simp; rfl)
                  (try simp only [Act.put, List.setIfInBounds_toArray])
                  refine wpAnyH_take (i := 10) (oi := _) (v := .bool true) rfl (by kernel_rfl) (by kernel_rfl) (by kernel_rfl) (fun _ _ _ h => h) (Or.inl ⟨by rfl, ?_⟩) (by assumption) ?_
                  · intro w hSw
                    first | (go_simp; done) | (go_simp; rfl)
                  (try simp only [Act.put])
                  refine wpAnyH_done (by kernel_rfl) ?_ _
                  have HE : Hid (Below w.heap.size w x4) := HW.out.trans (B4.mono HW.out.size)
                  clear q0 hb1 hb2 hb3 hb4 s1 s2 s3 s4 hc1 hq1 hq2 hq3 B1 B2 B3 B4 nb xb
                  refine exit_frame (fun A => A.tmps.getD 4 undef = .bool true ∧ A.defers = []) ⟨by rfl, by rfl⟩ ?_
                  intro A hA
                  go_wp2
                  refine bodyPost_ret (v := .bool true) ?_ hA.2 ⟨rfl, HE.out⟩
                  have h1 := hA.1
                  simp [results, Tryd.results4] at h1 ⊢
                  exact h1
              · go_simp
                refine hK.out _ _ trivial (fun hHeld => ?_)
                clear hK K
                refine wpAnyH_ready (rs := [3]) (by kernel_rfl) (by simp) ?_
                refine AllReadyH.cons rfl (fun K hK => ?_) AllReadyH.nil
                go_simp
                go_wp2_with (go_at_call 16; refine (PA.out _ (by (repeat (first | with_reducible assumption | with_reducible exact Below.refl _ _ | with_reducible refine Below.drew ?_ | with_reducible refine Below.alloc ?_ (by first | (simp; done) | (have := B1.size; simp; omega) | (have := B2.size; simp; omega) | (have := B3.size; simp; omega)) _)))).mono ?_; rintro e x2 ⟨g', c', rfl, hc1, QS, hq1, hq2, hq3, hb2⟩; have B2 : Below w14.heap.size w14 x2 := (Below.trans (by (repeat (first | with_reducible assumption | with_reducible exact Below.refl _ _ | with_reducible refine Below.drew ?_ | with_reducible refine Below.alloc ?_ (by first | (simp; done) | (have := B1.size; simp; omega) | (have := B2.size; simp; omega) | (have := B3.size; simp; omega)) _))) (hb2.mono (by first | (simp; done) | (have := B1.size; simp; omega) | (have := B2.size; simp; omega) | (have := B3.size; simp; omega) | (have := B4.size; simp; omega)))); have s4 : Byo x2 sb so X := (s3.keep ((Below.refl _ _).alloc (Nat.le_refl _) _)).keep hb2; have P2 : Prts x2 _ 0 _ := prts_keep (TP.out _ _ (by (repeat (first | with_reducible assumption | with_reducible exact Below.refl _ _ | with_reducible refine Below.drew ?_ | with_reducible refine Below.alloc ?_ (by first | (simp; done) | (have := B1.size; simp; omega) | (have := B2.size; simp; omega) | (have := B3.size; simp; omega)) _)))) hb2)
                refine hK.out _ _ trivial (fun hHeld => ?_)
                clear hK K
                refine wpAnyH_ready (rs := [4]) (by kernel_rfl) (by simp) ?_
                refine AllReadyH.cons rfl (fun K hK => ?_) AllReadyH.nil
                go_simp
                go_wp2_with (go_at_call 15; refine (HM.out _ x2 sa sb so sc g' c' QS B2 (Below.refl _ _) s1 s2 s4 hc1 hq1 hq2 hq3).mono ?_; rintro e x3 ⟨rfl, hb3⟩; have B3 : Below w14.heap.size w14 x3 := (Below.trans (by (repeat (first | with_reducible assumption | with_reducible exact Below.refl _ _ | with_reducible refine Below.drew ?_ | with_reducible refine Below.alloc ?_ (by first | (simp; done) | (have := B1.size; simp; omega) | (have := B2.size; simp; omega) | (have := B3.size; simp; omega)) _))) (hb3.mono (by first | (simp; done) | (have := B1.size; simp; omega) | (have := B2.size; simp; omega) | (have := B3.size; simp; omega) | (have := B4.size; simp; omega)))); have P3 : Prts x3 _ 0 _ := prts_keep P2 hb3)
                refine hK.out _ _ trivial (fun hHeld => ?_)
                clear hK K
                refine wpAnyH_ready (rs := [8]) (by kernel_rfl) (by simp) ?_
                refine AllReadyH.cons rfl (fun K hK => ?_) AllReadyH.nil
                go_simp
                go_wp2_with (go_at_call 12; refine (SU.out _ _ (by (repeat (first | with_reducible assumption | with_reducible exact Below.refl _ _ | with_reducible refine Below.drew ?_ | with_reducible refine Below.alloc ?_ (by first | (simp; done) | (have := B1.size; simp; omega) | (have := B2.size; simp; omega) | (have := B3.size; simp; omega)) _))) P3).mono ?_; rintro e x4 ⟨rfl, hb4⟩; have B4 : Below w14.heap.size w14 x4 := (Below.trans (by (repeat (first | with_reducible assumption | with_reducible exact Below.refl _ _ | with_reducible refine Below.drew ?_ | with_reducible refine Below.alloc ?_ (by first | (simp; done) | (have := B1.size; simp; omega) | (have := B2.size; simp; omega) | (have := B3.size; simp; omega)) _))) (hb4.mono (by first | (simp; done) | (have := B1.size; simp; omega) | (have := B2.size; simp; omega) | (have := B3.size; simp; omega) | (have := B4.size; simp; omega)))))
                refine hK.out _ _ trivial (fun hHeld => ?_)
                clear hK K
                refine wpAnyH_take (i := 9) (oi := _) (v := .bool true) rfl (by kernel_rfl) (by kernel_rfl) (by kernel_rfl) (fun _ _ _ h => h) (Or.inl ⟨by rfl, ?_⟩) (by assumption) ?_
                · intro w hSw
                  first | (go_simp; done) | (go_simp; rfl)
                (try simp only [Act.put, List.setIfInBounds_toArray])
                refine wpAnyH_take (i := 10) (oi := _) (v := .bool true) rfl (by kernel_rfl) (by kernel_rfl) (by kernel_rfl) (fun _ _ _ h => h) (Or.inl ⟨by rfl, ?_⟩) (by assumption) ?_
                · intro w hSw
                  first | (go_simp; done) | (go_simp; rfl)
                (try simp only [Act.put])
                refine wpAnyH_done (by kernel_rfl) ?_ _
                have HE : Hid (Below w.heap.size w x4) := HW.out.trans (B4.mono HW.out.size)
                clear q0 hb1 hb2 hb3 hb4 s1 s2 s3 s4 hc1 hq1 hq2 hq3 B1 B2 B3 B4 nb xb
                refine exit_frame (fun A => A.tmps.getD 4 undef = .bool true ∧ A.defers = []) ⟨by rfl, by rfl⟩ ?_
                intro A hA
                go_wp2
                refine bodyPost_ret (v := .bool true) ?_ hA.2 ⟨rfl, HE.out⟩
                have h1 := hA.1
                simp [results, Tryd.results4] at h1 ⊢
                exact h1
            · go_simp
              refine hK.out _ _ trivial (fun hHeld => ?_)
              clear hK K
              refine wpAnyH_ready (rs := [1]) (by kernel_rfl) (by simp) ?_
              refine AllReadyH.cons rfl (fun K hK => ?_) AllReadyH.nil
              go_simp
              go_wp2_with (go_at_call 13; refine (CP.out _ (by (repeat (first | with_reducible assumption | with_reducible exact Below.refl _ _ | with_reducible refine Below.drew ?_ | with_reducible refine Below.alloc ?_ (by first | (simp; done) | (have := B1.size; simp; omega) | (have := B2.size; simp; omega) | (have := B3.size; simp; omega)) _)))).mono ?_; rintro e x1 ⟨sa, sb, so, sc, rfl, s1, s2, s3, hb1⟩; have B1 : Below w14.heap.size w14 x1 := (Below.trans (by (repeat (first | with_reducible assumption | with_reducible exact Below.refl _ _ | with_reducible refine Below.drew ?_ | with_reducible refine Below.alloc ?_ (by first | (simp; done) | (have := B1.size; simp; omega) | (have := B2.size; simp; omega) | (have := B3.size; simp; omega)) _))) (hb1.mono (Below.size (w := w14) (B := w14.heap.size) (by (repeat (first | with_reducible assumption | with_reducible exact Below.refl _ _ | with_reducible refine Below.drew ?_ | with_reducible refine Below.alloc ?_ (by first | (simp; done) | (have := B1.size; simp; omega) | (have := B2.size; simp; omega) | (have := B3.size; simp; omega)) _)))))); have P1 : Prts x1 _ 0 _ := prts_keep (prts_drew (TP.out _ _ (by (repeat (first | with_reducible assumption | with_reducible exact Below.refl _ _ | with_reducible refine Below.drew ?_ | with_reducible refine Below.alloc ?_ (by first | (simp; done) | (have := B1.size; simp; omega) | (have := B2.size; simp; omega) | (have := B3.size; simp; omega)) _))))) hb1)
              refine hK.out _ _ trivial (fun hHeld => ?_)
              clear hK K
              refine wpAnyH_ready (rs := [3]) (by kernel_rfl) (by simp) ?_
              refine AllReadyH.cons rfl (fun K hK => ?_) AllReadyH.nil
              go_simp
              go_wp2_with (go_at_call 16; refine (PA.out _ (by (repeat (first | with_reducible assumption | with_reducible exact Below.refl _ _ | with_reducible refine Below.drew ?_ | with_reducible refine Below.alloc ?_ (by first | (simp; done) | (have := B1.size; simp; omega) | (have := B2.size; simp; omega) | (have := B3.size; simp; omega)) _)))).mono ?_; rintro e x2 ⟨g', c', rfl, hc1, QS, hq1, hq2, hq3, hb2⟩; have B2 : Below w14.heap.size w14 x2 := (Below.trans (by (repeat (first | with_reducible assumption | with_reducible exact Below.refl _ _ | with_reducible refine Below.drew ?_ | with_reducible refine Below.alloc ?_ (by first | (simp; done) | (have := B1.size; simp; omega) | (have := B2.size; simp; omega) | (have := B3.size; simp; omega)) _))) (hb2.mono (by first | (simp; done) | (have := B1.size; simp; omega) | (have := B2.size; simp; omega) | (have := B3.size; simp; omega) | (have := B4.size; simp; omega)))); have s4 : Byo x2 sb so X := s3.keep hb2; have P2 : Prts x2 _ 0 _ := prts_keep P1 hb2)
              refine hK.out _ _ trivial (fun hHeld => ?_)
              clear hK K
              refine wpAnyH_ready (rs := [4]) (by kernel_rfl) (by simp) ?_
              refine AllReadyH.cons rfl (fun K hK => ?_) AllReadyH.nil
              go_simp
              go_wp2_with (go_at_call 15; refine (HM.out _ x2 sa sb so sc g' c' QS B2 (Below.refl _ _) s1 s2 s4 hc1 hq1 hq2 hq3).mono ?_; rintro e x3 ⟨rfl, hb3⟩; have B3 : Below w14.heap.size w14 x3 := (Below.trans (by (repeat (first | with_reducible assumption | with_reducible exact Below.refl _ _ | with_reducible refine Below.drew ?_ | with_reducible refine Below.alloc ?_ (by first | (simp; done) | (have := B1.size; simp; omega) | (have := B2.size; simp; omega) | (have := B3.size; simp; omega)) _))) (hb3.mono (by first | (simp; done) | (have := B1.size; simp; omega) | (have := B2.size; simp; omega) | (have := B3.size; simp; omega) | (have := B4.size; simp; omega)))); have P3 : Prts x3 _ 0 _ := prts_keep P2 hb3)
              refine hK.out _ _ trivial (fun hHeld => ?_)
              clear hK K
              refine wpAnyH_ready (rs := [8]) (by kernel_rfl) (by simp) ?_
              refine AllReadyH.cons rfl (fun K hK => ?_) AllReadyH.nil
              go_simp
              go_wp2_with (go_at_call 12; refine (SU.out _ _ (by (repeat (first | with_reducible assumption | with_reducible exact Below.refl _ _ | with_reducible refine Below.drew ?_ | with_reducible refine Below.alloc ?_ (by first | (simp; done) | (have := B1.size; simp; omega) | (have := B2.size; simp; omega) | (have := B3.size; simp; omega)) _))) P3).mono ?_; rintro e x4 ⟨rfl, hb4⟩; have B4 : Below w14.heap.size w14 x4 := (Below.trans (by (repeat (first | with_reducible assumption | with_reducible exact Below.refl _ _ | with_reducible refine Below.drew ?_ | with_reducible refine Below.alloc ?_ (by first | (simp; done) | (have := B1.size; simp; omega) | (have := B2.size; simp; omega) | (have := B3.size; simp; omega)) _))) (hb4.mono (by first | (simp; done) | (have := B1.size; simp; omega) | (have := B2.size; simp; omega) | (have := B3.size; simp; omega) | (have := B4.size; simp; omega)))))
              refine hK.out _ _ trivial (fun hHeld => ?_)
              clear hK K
              refine wpAnyH_take (i := 9) (oi := _) (v := .bool true) rfl (by kernel_rfl) (by kernel_rfl) (by kernel_rfl) (fun _ _ _ h => h) (Or.inl ⟨by rfl, ?_⟩) (by assumption) ?_
              · intro w hSw
                first | (go_simp; done) | (go_simp; rfl)
              (try simp only [Act.put, List.setIfInBounds_toArray])
              refine wpAnyH_take (i := 10) (oi := _) (v := .bool true) rfl (by kernel_rfl) (by kernel_rfl) (by kernel_rfl) (fun _ _ _ h => h) (Or.inl ⟨by rfl, ?_⟩) (by assumption) ?_
              · intro w hSw
                first | (go_simp; done) | (go_simp; rfl)
              (try simp only [Act.put])
              refine wpAnyH_done (by kernel_rfl) ?_ _
              have HE : Hid (Below w.heap.size w x4) := HW.out.trans (B4.mono HW.out.size)
              clear q0 hb1 hb2 hb3 hb4 s1 s2 s3 s4 hc1 hq1 hq2 hq3 B1 B2 B3 B4 nb xb
              refine exit_frame (fun A => A.tmps.getD 4 undef = .bool true ∧ A.defers = []) ⟨by rfl, by rfl⟩ ?_
              intro A hA
              go_wp2
              refine bodyPost_ret (v := .bool true) ?_ hA.2 ⟨rfl, HE.out⟩
              have h1 := hA.1
              simp [results, Tryd.results4] at h1 ⊢
              exact h1
            -- ITS END
          · have hi' : (i : Int) < 64 := by omega
            have lt : i < 64 := by omega
            have q0 := HF.out.2.1 i (by rw [LL.out.1]; exact lt)
            rw [Nat.zero_add] at q0
            have q1 := HF.out.2.2.1.1 i (by rw [mixAt_len 54 LL.out.1 hi]; exact lt)
            have q2 := HF.out.2.2.2.1 i (by rw [mixAt_len 92 LL.out.1 hi]; exact lt)
            rw [Nat.zero_add] at q1 q2
            have f1 := HF.out.2.2.1.2 i (by rw [mixAt_len 54 LL.out.1 hi]; exact lt)
            have f2 := HF.out.2.2.2.2 i (by rw [mixAt_len 92 LL.out.1 hi]; exact lt)
            have N1 : Hid ((mixAt L 54 i).set i (L.getD i 0 ^^^ 54) = mixAt L 54 (i + 1)) := mixAt_set 54 LL.out.1 lt
            have N2 : Hid ((mixAt L 92 i).set i (L.getD i 0 ^^^ 92) = mixAt L 92 (i + 1)) := mixAt_set 92 LL.out.1 lt
            have L1 : Hid (i < (mixAt L 54 i).length ∧ i < (mixAt L 92 i).length) := ⟨by rw [mixAt_len 54 LL.out.1 hi]; exact lt, by rw [mixAt_len 92 LL.out.1 hi]; exact lt⟩
            generalize L.getD i 0 = x at *
            have v1 := Y_xor x 54
            have v2 := Y_xor x 92
            rw [y1.out.1] at v1
            rw [y1.out.2] at v2
            have hic : (i : Int) < c := by omega
            clear lt
            go_wp2
            go_roundg (64 - (i + 1))
            case measure => have := HK.out; omega
            case rel =>
              refine ⟨i + 1, rfl, by omega, by go_num, (HF.out.1.setCell LL.out.2.2.1 _).setCell LL.out.2.2.2 _, (HF.out.2.1.far n1.symm).far n2.symm, ?_, ?_⟩
              · rw [← N1.out]
                exact (HF.out.2.2.1.set i L1.out.1 _).far n3.symm
              · rw [← N2.out]
                exact (HF.out.2.2.2.far n3).set i L1.out.2 _
      · obtain ⟨a', c', ev⟩ := own_slice HF.out.1
        subst ev
        have hlt' : (L.length : Int) < 64 := by omega
        have LR : Hid (L.length < 64) := Nat.lt_of_le_of_ne hl9 h8
        go_wp2_with ((at_builtin; go_loud (refine wpList_append_own_at _ rfl _ _ 24 rfl B 5 i0 (.int .u8 0) 1 1 Tryd.underlying24 hi hz0 hz1 hz2 rfl (by decide) _ _ _ rfl (HF.out.1.row.alloc _) ⟨wr.heap.size, 0, none⟩ 1 1 [.int .u8 0] rfl rfl (cell_one_new _ _ _) (fun u hu => by simp at hu; subst hu; rfl) (by unfold maxLen; have := LR.out; omega) (by have := LR.out; omega) (by have := HF.out.2.2.2.1; simp; omega) ?_); intro v' w3' hown' hgrow3 hnil3 hblk))
        have HO : Hid (Own B w3' v' (L ++ [0]) ∧ Below w.heap.size w w3' ∧ w.heap.size ≤ B ∧ B ≤ w3'.heap.size ∧ keyL X = (L ++ [0]) ++ List.replicate (64 - (L ++ [(0 : BitVec 8)]).length) 0) := by
          have hB : Below w.heap.size w w3' := (HF.out.2.1.alloc HF.out.2.1.size _).grown hgrow3 (by have := HF.out.2.1.size; simp; omega) (fun k hk => Nat.le_trans HF.out.2.2.1 (HF.out.1.row.lt k hk).1)
          refine ⟨?_, hB, HF.out.2.2.1, ?_, ?_⟩
          · rw [Own, List.length_append, ← byts_snoc, y0.out]
            exact hown'
          · have h := hgrow3.size; have := HF.out.2.2.2.1; simp at h; omega
          · rw [HF.out.2.2.2.2, List.append_assoc, List.length_append, List.length_singleton, show 64 - L.length = (64 - (L.length + 1)) + 1 by have := LR.out; omega, List.replicate_succ]
            rfl
        clear hown' hgrow3 hnil3 hblk
        go_roundg (64 - (L ++ [(0 : BitVec 8)]).length)
        case measure => rw [List.length_append, List.length_singleton]; have := HK.out; have := LR.out; omega
        case rel => exact ⟨L ++ [0], rfl, by rw [List.length_append, List.length_singleton]; have := LR.out; omega, HO.out⟩)

end Go.Proofs.YtniabadlbockaaaDoor

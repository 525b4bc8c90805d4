import Derived.Test.YtniabadlbockaaaDoorSHangs0
import Derived.Test.YtniabadlbockaaaDoorSParcel
namespace Go.Proofs.YtniabadlbockaaaDoor
open Go.RowKit Go.Sort

theorem own_text {B : Nat} {W : World} {v : Value} {X : List (BitVec 8)} (h : Own B W v X) (h0 : 0 < W.heap.size) : ∃ a b o c, v = .slice a X.length c ∧ At a b o X ∧ X.length ≤ c ∧ Byo W b o X ∧ b < W.heap.size := by
  obtain ⟨p, ev, ex, ok, _, hb⟩ := own_part h
  subst ex
  rcases hb with hx | ⟨_, hx⟩
  · exact ⟨p.a, 0, 0, p.c, ev, .inl hx, ok.2.1, fun i hi => by rw [hx] at hi; exact absurd hi (Nat.not_lt_zero _), h0⟩
  · exact ⟨p.a, p.b, p.o, p.c, ev, ok.1, ok.2.1, ok.2.2, hx⟩

theorem exit_frame {K : Act → World → Prop} {Q : Exit → Act → World → Prop} {x : Exit} {a : Act} {w : World} (S : Act → Prop) (h : S a) (k : ∀ A, S A → Exit.then K Q x A w) : Exit.then K Q x a w := k a h
theorem own_apart {B b : Nat} {W : World} {v : Value} {X : List (BitVec 8)} (h : Own B W v X) (hb : b < B) : ∃ a sb so c, v = .slice a X.length c ∧ At a sb so X ∧ X.length ≤ c ∧ Byo W sb so X ∧ sb ≠ b := by
  obtain ⟨p, ev, ex, ok, _, hx⟩ := own_part h
  subst ex
  rcases hx with hx | ⟨hx, _⟩
  · exact ⟨p.a, b + 1, 0, p.c, ev, .inl hx, ok.2.1, fun i hi => by rw [hx] at hi; exact absurd hi (Nat.not_lt_zero _), by omega⟩
  · exact ⟨p.a, p.b, p.o, p.c, ev, ok.1, ok.2.1, ok.2.2, by omega⟩

set_option maxRecDepth 100000 in
set_option maxHeartbeats 4000000 in
theorem folds_any {a : Option Addr} {bp op cp : Nat} {PS : List Part} (hs : (catX PS).length < 1073730000) (hn : PS.length ≤ 1073730000) (ha : PS = [] ∨ a = some ⟨bp, op, none⟩) (w : World) (hP : Prts w bp op PS) (hf : Wds w 0 0 hN) (hk : Wds w 1 0 kN) :
    Calls Tryd.prog 6 #[.slice a PS.length cp] w fun e w' => e = .returned (.bool true) ∧ Below w.heap.size w w' := by
  have HH : Hid (Prts w bp op PS ∧ (PS = [] ∨ a = some ⟨bp, op, none⟩) ∧ Wds w 0 0 hN ∧ Wds w 1 0 kN ∧ (catX PS).length < 1073730000 ∧ PS.length ≤ 1073730000) := ⟨hP, ha, hf, hk, hs, hn⟩
  have nb : (PS.length : Int) ≤ 1073730000 := by omega
  have G0 : Hid (0 < w.heap.size ∧ 1 < w.heap.size) := ⟨hf.lt (by decide), hk.lt (by decide)⟩
  clear hP ha hf hk hs hn
  obtain ⟨T, kT⟩ : ∃ T, catX PS = T := ⟨_, rfl⟩
  obtain ⟨D, kD⟩ : ∃ D, shaL T = D := ⟨_, rfl⟩
  have KT : Hid (catX PS = T ∧ shaL T = D ∧ T.length < 1073730000) := ⟨kT, kD, by rw [← kT]; exact HH.out.2.2.2.2.1⟩
  have lD : Hid (D.length = 32) := by rw [← kD]; exact shaL_len T
  have sz : ((byts D).toArray).size = 32 := by simp [byts_len, lD.out]
  have oc := one_byts D
  have il : (Tryd.prog.info? 27).map (·.size) = some ((byts D).toArray).size := by rw [sz]; kernel_rfl
  clear kT kD
  go_enter Tryd.func6, Tryd.ntmps6
  go_wp2_with fail
  refine (joined_any (by have := HH.out; omega) (by have := HH.out; omega) HH.out.2.1 _ HH.out.1).mono ?_
  rintro e w1 ⟨v1, rfl, o1, b1⟩
  rw [KT.out.1] at o1
  obtain ⟨ta, tb, to, tc, ev, hAt, hlen, hBy, htb⟩ := own_text o1 (by have := b1.size; have := G0.out; omega)
  subst ev
  have H1 : Hid (Below w.heap.size w w1 ∧ At ta tb to T ∧ T.length ≤ tc ∧ Byo w1 tb to T ∧ tb < w1.heap.size) := ⟨b1, hAt, hlen, hBy, htb⟩
  clear o1 b1 hAt hlen hBy htb
  have tbound : (T.length : Int) < 1073730000 := by have := KT.out; omega
  go_wp2_with fail
  refine (folded_any (by have := KT.out; omega) H1.out.2.2.1 H1.out.2.1 _ H1.out.2.2.2.1 (HH.out.2.2.1.keep H1.out.1) (HH.out.2.2.2.1.keep H1.out.1)).mono ?_
  rw [KT.out.2.1]
  rintro e w2 ⟨rfl, hb⟩
  have H2 : Hid (Below w.heap.size w w2 ∧ Byo w2 tb to T ∧ tb < w2.heap.size) := ⟨H1.out.1.trans (hb.mono H1.out.1.size), H1.out.2.2.2.1.keep hb, Nat.lt_of_lt_of_le H1.out.2.2.2.2 hb.size⟩
  have TT : Hid (At ta tb to T ∧ T.length ≤ tc) := ⟨H1.out.2.1, H1.out.2.2.1⟩
  clear hb H1
  go_wp2_with ((with_reducible refine wpList_store_at (ty := 27) w2.heap.size 0 (byts D).toArray ?_ il oc ?_ ?_ ?_); rw [sz]; exact (Hsh.zeros _ rfl).there; rfl; rfl; refine wpList_world (fun V => Below w.heap.size w V ∧ Byo V tb to T ∧ Hsh V w2.heap.size D ∧ tb < w2.heap.size) ⟨below_setCells H2.out.1.size _ 0 _ (H2.out.1.alloc H2.out.1.size _), (H2.out.2.1.keep ((Below.refl _ _).alloc (Nat.le_refl _) _)).farCells (by have := H2.out.2.2; omega) _, (Hsh.zeros _ rfl).stored lD.out, H2.out.2.2⟩ ?_; intro w3 h3; have H3 : Hid (Below w.heap.size w w3 ∧ Byo w3 tb to T ∧ Hsh w3 w2.heap.size D ∧ tb < w2.heap.size) := h3; clear h3)
  generalize w2.heap.size = g0 at *
  clear sz oc il H2
  refine (new_any _).mono ?_
  rintro e w4 ⟨rfl, ht, hb⟩
  have H4 : Hid (Below w.heap.size w w4 ∧ Byo w4 tb to T ∧ Hsh w4 g0 D ∧ Tx w4 w3.heap.size []) := ⟨H3.out.1.trans (hb.mono H3.out.1.size), H3.out.2.1.keep hb, H3.out.2.2.1.keep hb, ht⟩
  have NB : Hid (w.heap.size ≤ w3.heap.size ∧ g0 < w3.heap.size ∧ tb < w3.heap.size) := ⟨H3.out.1.size, H3.out.2.2.1.lt, Nat.lt_trans H3.out.2.2.2 H3.out.2.2.1.lt⟩
  clear hb ht H3
  generalize w3.heap.size = b at *
  go_wp2_with fail
  go_loopg [7] PS.length (fun k iv wr => ∃ i : Nat, k = PS.length - i ∧ i ≤ PS.length ∧ iv = .int .i64 i ∧ Below w.heap.size w wr ∧ Byo wr tb to T ∧ Hsh wr g0 D ∧ Tx wr b (catX (PS.take i)))
  case atStart => exact ⟨0, rfl, Nat.zero_le _, rfl, H4.out⟩
  case round =>
    clear H4
    obtain ⟨i, hk, hi, rfl, hf⟩ := hrel
    have HK : Hid (gk = PS.length - i) := hk
    have HF : Hid (Below w.heap.size w wr ∧ Byo wr tb to T ∧ Hsh wr g0 D ∧ Tx wr b (catX (PS.take i))) := hf
    clear hk hf
    by_cases h8 : i = PS.length
    · subst h8
      rw [List.take_length, KT.out.1] at HF
      have q0 := fun w => eq_hash lD.out lD.out w
      simp only [decide_true] at q0
      have TB : Hid (∀ W, Below wr.heap.size wr W → Below w.heap.size w W) := fun W hW => HF.out.1.trans (hW.mono HF.out.1.size)
      have PA : Hid (∀ W, Below wr.heap.size wr W → Calls Tryd.prog 16 #[.slice a PS.length cp] W fun e w' => ∃ g c, e = .returned (.slice (some ⟨g, 0, none⟩) PS.length c) ∧ PS.length ≤ c ∧ ∃ QS : List Part, QS.length = PS.length ∧ Prts w' g 0 QS ∧ catX QS = catX PS ∧ Below W.heap.size W w') := fun W hW => parcel_any (by have := HH.out; omega) (by have := HH.out; omega) HH.out.2.1 _ (fun i hi => by
        obtain ⟨h1, h2, h3, h4⟩ := HH.out.1 i hi
        exact ⟨cell_keep (TB.out W hW) h1, h2, h3, h4.keep (TB.out W hW)⟩)
      have S1 : Hid (∀ W g c (QS : List Part), Below wr.heap.size wr W → PS.length ≤ c → QS.length = PS.length → Prts W g 0 QS → catX QS = catX PS → Calls Tryd.prog 12 #[.slice (some ⟨g, 0, none⟩) PS.length c] W fun e w' => e = .returned (.agg (byts D).toArray) ∧ Below W.heap.size W w') := by
        intro W g c QS hW h1 h2 h3 h4
        have h := sum_any (PS := QS) (a := some ⟨g, 0, none⟩) (cp := c) (by rw [h4]; have := HH.out; omega) (by have := HH.out; omega) (by omega) (.inr rfl) W h3 (HH.out.2.2.1.keep (TB.out W hW)) (HH.out.2.2.2.1.keep (TB.out W hW))
        rw [h4, KT.out.1, KT.out.2.1, h2] at h
        exact h
      have CP : Hid (∀ W, Below wr.heap.size wr W → Calls Tryd.prog 13 #[.slice ta T.length tc] W fun e w' => ∃ a c, e = .returned (.slice a T.length c) ∧ Own W.heap.size w' (.slice a T.length c) T ∧ Below W.heap.size W w') := by
        intro W hW
        refine (copied_any (by have := KT.out; omega) TT.out.1 W (HF.out.2.1.keep hW)).mono ?_
        rintro e w' ⟨v, rfl, ho, hb⟩
        obtain ⟨sa, sc, ev⟩ := own_slice ho
        subst ev
        exact ⟨sa, sc, rfl, ho, hb⟩
      have S2 : Hid (∀ W B sa sc t, Below wr.heap.size wr W → Own B W (.slice sa T.length sc) T → Calls Tryd.prog 12 #[.slice (some ⟨W.heap.size, 0, none⟩) 1 1] (W.alloc (.cells #[.slice sa T.length sc] t)) fun e w' => e = .returned (.agg (byts D).toArray) ∧ Below W.heap.size W w') := by
        intro W B sa sc t hW ho
        have h := sum_own (W := W) t (by have := KT.out; omega) ho (HH.out.2.2.1.keep (TB.out W hW)) (HH.out.2.2.2.1.keep (TB.out W hW))
        rw [KT.out.2.1] at h
        exact h
      have S3 : Hid (∀ W, Below wr.heap.size wr W → Calls Tryd.prog 10 #[.pointer (some ⟨b, 0, none⟩)] W fun e w' => e = .returned (.agg (byts D).toArray) ∧ Below W.heap.size W w') := by
        intro W hW
        have h := ssum_any (by have := KT.out; omega) W (HF.out.2.2.2.keep hW) (HH.out.2.2.1.keep (TB.out W hW)) (HH.out.2.2.2.1.keep (TB.out W hW))
        rw [KT.out.2.1] at h
        exact h
      have S4 : Hid (∀ W, Below wr.heap.size wr W → Calls Tryd.prog 9 #[.pointer (some ⟨b, 0, none⟩)] W fun e w' => e = .returned (.int .i64 (T.length : Int)) ∧ Below W.heap.size W w') := fun W hW => (len_any W (HF.out.2.2.2.keep hW)).mono fun _ _ ⟨h1, h2⟩ => ⟨h1, by rw [h2]; exact Below.refl _ _⟩
      have SK : Hid (∀ W, Below wr.heap.size wr W → W.rangeAt g0 0 (byts D)) := fun W hW => (HF.out.2.2.1.keep hW).range
      have un := Tryd.underlying27
      have lB : (byts D).length = 32 := by rw [byts_len, lD.out]
      have ilB : (Tryd.prog.info? 27).map (·.size) = some (byts D).length := by rw [lB]; kernel_rfl
      have HW : Hid (Below w.heap.size w wr) := HF.out.1
      clear HF
      go_wp2_with fail
      -- THE LAST ROW
      refine wp_region_held_drew (S := fun w' => w'.rangeAt g0 0 (byts D)) (by kernel_rfl) ?_ (fun hHeld => ?_)
      · refine SK.out _ ?_
        (repeat (first | with_reducible assumption | with_reducible exact Below.refl _ _ | with_reducible refine Below.drew ?_ | with_reducible refine Below.alloc ?_ (by first | (simp; done) | (have := B1.size; simp; omega) | (have := B3.size; simp; omega)) _))
      refine wpAnyH_take (i := 0) (oi := _) (v := .slice a PS.length cp) rfl (by kernel_rfl) (by kernel_rfl) (by kernel_rfl) (fun _ _ _ h => h) (Or.inl ⟨by rfl, ?_⟩) (by assumption) ?_
      · intro w hSw
        first | (go_simp; done) | (go_simp; rfl)
      (try simp only [Act.put, List.setIfInBounds_toArray])
      refine wpAnyH_take (i := 3) (oi := _) (v := .agg (byts D).toArray) rfl (by kernel_rfl) (by kernel_rfl) (by kernel_rfl) (fun _ _ _ h => h) (yieldsIf_load_mid (by rfl) _ _ rfl g0 0 rfl (byts D) _ (fun w h => h) un rfl ilB) (by assumption) ?_
      (try simp only [Act.put])
      refine wpAnyH_ready (rs := [1]) (by kernel_rfl) (by simp) ?_
      refine AllReadyH.cons rfl (fun K hK => ?_) AllReadyH.nil
      go_simp
      go_wp2_with (go_at_call 16; refine (PA.out _ (by (repeat (first | with_reducible assumption | with_reducible exact Below.refl _ _ | with_reducible refine Below.drew ?_ | with_reducible refine Below.alloc ?_ (by first | (simp; done) | (have := B1.size; simp; omega) | (have := B3.size; simp; omega)) _)))).mono ?_; rintro e x1 ⟨g, c, rfl, hc1, QS, hq1, hq2, hq3, hb1⟩; have B1 : Below wr.heap.size wr x1 := (Below.trans (by (repeat (first | with_reducible assumption | with_reducible exact Below.refl _ _ | with_reducible refine Below.drew ?_ | with_reducible refine Below.alloc ?_ (by first | (simp; done) | (have := B1.size; simp; omega) | (have := B3.size; simp; omega)) _))) (hb1.mono (by first | (simp; done) | (have := B1.size; omega) | (have := B2.size; omega) | (have := B3.size; omega) | (have := B4.size; omega) | (have := B5.size; omega)))))
      refine hK.out _ _ ?_ (fun hHeld => ?_)
      · refine SK.out _ ?_
        (repeat (first | with_reducible assumption | with_reducible exact Below.refl _ _ | with_reducible refine Below.drew ?_ | with_reducible refine Below.alloc ?_ (by first | (simp; done) | (have := B1.size; simp; omega) | (have := B3.size; simp; omega)) _))
      clear hK K
      refine wpAnyH_ready (rs := [2]) (by kernel_rfl) (by simp) ?_
      refine AllReadyH.cons rfl (fun K hK => ?_) AllReadyH.nil
      go_simp
      go_wp2_with (go_at_call 12; refine (S1.out x1 g c QS B1 hc1 hq1 hq2 hq3).mono ?_; rintro e x2 ⟨rfl, hb2⟩; have B2 : Below wr.heap.size wr x2 := (Below.trans (by (repeat (first | with_reducible assumption | with_reducible exact Below.refl _ _ | with_reducible refine Below.drew ?_ | with_reducible refine Below.alloc ?_ (by first | (simp; done) | (have := B1.size; simp; omega) | (have := B3.size; simp; omega)) _))) (hb2.mono (by first | (simp; done) | (have := B1.size; omega) | (have := B2.size; omega) | (have := B3.size; omega) | (have := B4.size; omega) | (have := B5.size; omega)))))
      refine hK.out _ _ ?_ (fun hHeld => ?_)
      · refine SK.out _ ?_
        (repeat (first | with_reducible assumption | with_reducible exact Below.refl _ _ | with_reducible refine Below.drew ?_ | with_reducible refine Below.alloc ?_ (by first | (simp; done) | (have := B1.size; simp; omega) | (have := B3.size; simp; omega)) _))
      clear hK K
      refine wpAnyH_take (i := 4) (oi := _) (v := .bool true) rfl (by kernel_rfl) (by kernel_rfl) (by kernel_rfl) (fun _ _ _ h => h) (Or.inl ⟨by rfl, ?_⟩) (by assumption) ?_
      · intro w hSw
        first | (go_simp; done) | (go_simp; rfl)
      (try simp only [Act.put, List.setIfInBounds_toArray])
      refine wpAnyH_take (i := 5) (oi := _) (v := .bool true) rfl (by kernel_rfl) (by kernel_rfl) (by kernel_rfl) (fun _ _ _ h => h) (Or.inl ⟨by rfl, ?_⟩) (by assumption) ?_
      · intro w hSw
        first | (go_simp; done) | (go_simp; rfl)
      (try simp only [Act.put])
      refine wpAnyH_take (i := 10) (oi := _) (v := .agg (byts D).toArray) rfl (by kernel_rfl) (by kernel_rfl) (by kernel_rfl) (fun _ _ _ h => h) (yieldsIf_load_mid (by rfl) _ _ rfl g0 0 rfl (byts D) _ (fun w h => h) un rfl ilB) (by assumption) ?_
      (try simp only [Act.put])
      refine wpAnyH_take (i := 6) (oi := _) (v := .slice ta T.length tc) rfl (by kernel_rfl) (by kernel_rfl) (by kernel_rfl) (fun _ _ _ h => h) (Or.inl ⟨by rfl, ?_⟩) (by assumption) ?_
      · intro w hSw
        first | (go_simp; done) | (go_simp; rfl)
      (try simp only [Act.put])
      refine wpAnyH_ready (rs := [7]) (by kernel_rfl) (by simp) ?_
      refine AllReadyH.cons rfl (fun K hK => ?_) AllReadyH.nil
      go_simp
      go_wp2_with (go_at_call 13; refine (CP.out _ (by (repeat (first | with_reducible assumption | with_reducible exact Below.refl _ _ | with_reducible refine Below.drew ?_ | with_reducible refine Below.alloc ?_ (by first | (simp; done) | (have := B1.size; simp; omega) | (have := B3.size; simp; omega)) _)))).mono ?_; rintro e x3 ⟨sa, sc, rfl, so3, hb3⟩; have B3 : Below wr.heap.size wr x3 := (Below.trans (by (repeat (first | with_reducible assumption | with_reducible exact Below.refl _ _ | with_reducible refine Below.drew ?_ | with_reducible refine Below.alloc ?_ (by first | (simp; done) | (have := B1.size; simp; omega) | (have := B3.size; simp; omega)) _))) (hb3.mono (by first | (simp; done) | (have := B1.size; omega) | (have := B2.size; omega) | (have := B3.size; omega) | (have := B4.size; omega) | (have := B5.size; omega)))))
      refine hK.out _ _ ?_ (fun hHeld => ?_)
      · refine SK.out _ ?_
        (repeat (first | with_reducible assumption | with_reducible exact Below.refl _ _ | with_reducible refine Below.drew ?_ | with_reducible refine Below.alloc ?_ (by first | (simp; done) | (have := B1.size; simp; omega) | (have := B3.size; simp; omega)) _))
      clear hK K
      refine wpAnyH_ready (rs := [8]) (by kernel_rfl) (by simp) ?_
      refine AllReadyH.cons rfl (fun K hK => ?_) AllReadyH.nil
      go_simp
      refine hK.out _ _ ?_ (fun hHeld => ?_)
      · refine SK.out _ ?_
        (repeat (first | with_reducible assumption | with_reducible exact Below.refl _ _ | with_reducible refine Below.drew ?_ | with_reducible refine Below.alloc ?_ (by first | (simp; done) | (have := B1.size; simp; omega) | (have := B3.size; simp; omega)) _))
      clear hK K
      refine wpAnyH_ready (rs := [9]) (by kernel_rfl) (by simp) ?_
      refine AllReadyH.cons rfl (fun K hK => ?_) AllReadyH.nil
      go_simp
      go_wp2_with (go_at_call 12; refine (S2.out x3 _ sa sc _ B3 so3).mono ?_; rintro e x4 ⟨rfl, hb4⟩; have B4 : Below wr.heap.size wr x4 := (Below.trans (by (repeat (first | with_reducible assumption | with_reducible exact Below.refl _ _ | with_reducible refine Below.drew ?_ | with_reducible refine Below.alloc ?_ (by first | (simp; done) | (have := B1.size; simp; omega) | (have := B3.size; simp; omega)) _))) (hb4.mono (by first | (simp; done) | (have := B1.size; omega) | (have := B2.size; omega) | (have := B3.size; omega) | (have := B4.size; omega) | (have := B5.size; omega)))))
      refine hK.out _ _ ?_ (fun hHeld => ?_)
      · refine SK.out _ ?_
        (repeat (first | with_reducible assumption | with_reducible exact Below.refl _ _ | with_reducible refine Below.drew ?_ | with_reducible refine Below.alloc ?_ (by first | (simp; done) | (have := B1.size; simp; omega) | (have := B3.size; simp; omega)) _))
      clear hK K
      refine wpAnyH_take (i := 11) (oi := _) (v := .bool true) rfl (by kernel_rfl) (by kernel_rfl) (by kernel_rfl) (fun _ _ _ h => h) (Or.inl ⟨by rfl, ?_⟩) (by assumption) ?_
      · intro w hSw
        first | (go_simp; done) | (go_simp; rfl)
      (try simp only [Act.put, List.setIfInBounds_toArray])
      refine wpAnyH_take (i := 12) (oi := _) (v := .bool true) rfl (by kernel_rfl) (by kernel_rfl) (by kernel_rfl) (fun _ _ _ h => h) (Or.inl ⟨by rfl, ?_⟩) (by assumption) ?_
      · intro w hSw
        first | (go_simp; done) | (go_simp; rfl)
      (try simp only [Act.put])
      refine wpAnyH_take (i := 13) (oi := _) (v := .bool true) rfl (by kernel_rfl) (by kernel_rfl) (by kernel_rfl) (fun _ _ _ h => h) (Or.inl ⟨by rfl, ?_⟩) (by assumption) ?_
      · intro w hSw
        first | (go_simp; done) | (go_simp; rfl)
      (try simp only [Act.put])
      refine wpAnyH_take (i := 16) (oi := _) (v := .agg (byts D).toArray) rfl (by kernel_rfl) (by kernel_rfl) (by kernel_rfl) (fun _ _ _ h => h) (yieldsIf_load_mid (by rfl) _ _ rfl g0 0 rfl (byts D) _ (fun w h => h) un rfl ilB) (by assumption) ?_
      (try simp only [Act.put])
      refine wpAnyH_take (i := 14) (oi := _) (v := .pointer (some ⟨b, 0, none⟩)) rfl (by kernel_rfl) (by kernel_rfl) (by kernel_rfl) (fun _ _ _ h => h) (Or.inl ⟨by rfl, ?_⟩) (by assumption) ?_
      · intro w hSw
        first | (go_simp; done) | (go_simp; rfl)
      (try simp only [Act.put])
      refine wpAnyH_ready (rs := [15]) (by kernel_rfl) (by simp) ?_
      refine AllReadyH.cons rfl (fun K hK => ?_) AllReadyH.nil
      go_simp
      go_wp2_with (go_at_call 10; refine (S3.out _ (by (repeat (first | with_reducible assumption | with_reducible exact Below.refl _ _ | with_reducible refine Below.drew ?_ | with_reducible refine Below.alloc ?_ (by first | (simp; done) | (have := B1.size; simp; omega) | (have := B3.size; simp; omega)) _)))).mono ?_; rintro e x5 ⟨rfl, hb5⟩; have B5 : Below wr.heap.size wr x5 := (Below.trans (by (repeat (first | with_reducible assumption | with_reducible exact Below.refl _ _ | with_reducible refine Below.drew ?_ | with_reducible refine Below.alloc ?_ (by first | (simp; done) | (have := B1.size; simp; omega) | (have := B3.size; simp; omega)) _))) (hb5.mono (by first | (simp; done) | (have := B1.size; omega) | (have := B2.size; omega) | (have := B3.size; omega) | (have := B4.size; omega) | (have := B5.size; omega)))))
      refine hK.out _ _ ?_ (fun hHeld => ?_)
      · refine SK.out _ ?_
        (repeat (first | with_reducible assumption | with_reducible exact Below.refl _ _ | with_reducible refine Below.drew ?_ | with_reducible refine Below.alloc ?_ (by first | (simp; done) | (have := B1.size; simp; omega) | (have := B3.size; simp; omega)) _))
      clear hK K
      refine wpAnyH_take (i := 17) (oi := _) (v := .bool true) rfl (by kernel_rfl) (by kernel_rfl) (by kernel_rfl) (fun _ _ _ h => h) (Or.inl ⟨by rfl, ?_⟩) (by assumption) ?_
      · intro w hSw
        first | (go_simp; done) | (go_simp; rfl)
      (try simp only [Act.put, List.setIfInBounds_toArray])
      refine wpAnyH_take (i := 18) (oi := _) (v := .bool true) rfl (by kernel_rfl) (by kernel_rfl) (by kernel_rfl) (fun _ _ _ h => h) (Or.inl ⟨by rfl, ?_⟩) (by assumption) ?_
      · intro w hSw
        first | (go_simp; done) | (go_simp; rfl)
      (try simp only [Act.put])
      refine wpAnyH_take (i := 19) (oi := _) (v := .bool true) rfl (by kernel_rfl) (by kernel_rfl) (by kernel_rfl) (fun _ _ _ h => h) (Or.inl ⟨by rfl, ?_⟩) (by assumption) ?_
      · intro w hSw
        first | (go_simp; done) | (go_simp; rfl)
      (try simp only [Act.put])
      refine wpAnyH_take (i := 20) (oi := _) (v := .pointer (some ⟨b, 0, none⟩)) rfl (by kernel_rfl) (by kernel_rfl) (by kernel_rfl) (fun _ _ _ h => h) (Or.inl ⟨by rfl, ?_⟩) (by assumption) ?_
      · intro w hSw
        first | (go_simp; done) | (go_simp; rfl)
      (try simp only [Act.put])
      refine wpAnyH_take (i := 22) (oi := _) (v := .slice ta T.length tc) rfl (by kernel_rfl) (by kernel_rfl) (by kernel_rfl) (fun _ _ _ h => h) (Or.inl ⟨by rfl, ?_⟩) (by assumption) ?_
      · intro w hSw
        first | (go_simp; done) | (go_simp; rfl)
      (try simp only [Act.put])
      refine wpAnyH_take (i := 23) (oi := _) (v := .int .i64 (T.length : Int)) rfl (by kernel_rfl) (by kernel_rfl) (by kernel_rfl) (fun _ _ _ h => h) (Or.inl ⟨by rfl, ?_⟩) (by assumption) ?_
      · intro w hSw
        first | (go_simp; done) | (go_simp; rfl)
      (try simp only [Act.put])
      refine wpAnyH_ready (rs := [21]) (by kernel_rfl) (by simp) ?_
      refine AllReadyH.cons rfl (fun K hK => ?_) AllReadyH.nil
      go_simp
      go_wp2_with (go_at_call 9; refine (S4.out _ (by (repeat (first | with_reducible assumption | with_reducible exact Below.refl _ _ | with_reducible refine Below.drew ?_ | with_reducible refine Below.alloc ?_ (by first | (simp; done) | (have := B1.size; simp; omega) | (have := B3.size; simp; omega)) _)))).mono ?_; rintro e x6 ⟨rfl, hb6⟩; have B6 : Below wr.heap.size wr x6 := (Below.trans (by (repeat (first | with_reducible assumption | with_reducible exact Below.refl _ _ | with_reducible refine Below.drew ?_ | with_reducible refine Below.alloc ?_ (by first | (simp; done) | (have := B1.size; simp; omega) | (have := B3.size; simp; omega)) _))) (hb6.mono (by first | (simp; done) | (have := B1.size; omega) | (have := B2.size; omega) | (have := B3.size; omega) | (have := B4.size; omega) | (have := B5.size; omega)))))
      refine hK.out _ _ ?_ (fun hHeld => ?_)
      · refine SK.out _ ?_
        (repeat (first | with_reducible assumption | with_reducible exact Below.refl _ _ | with_reducible refine Below.drew ?_ | with_reducible refine Below.alloc ?_ (by first | (simp; done) | (have := B1.size; simp; omega) | (have := B3.size; simp; omega)) _))
      clear hK K
      refine wpAnyH_take (i := 24) (oi := _) (v := .bool true) rfl (by kernel_rfl) (by kernel_rfl) (by kernel_rfl) (fun _ _ _ h => h) (Or.inl ⟨by rfl, ?_⟩) (by assumption) ?_
      · intro w hSw
        first | (go_simp; done) | (go_simp; rfl)
      (try simp only [Act.put, List.setIfInBounds_toArray])
      refine wpAnyH_take (i := 25) (oi := _) (v := .bool true) rfl (by kernel_rfl) (by kernel_rfl) (by kernel_rfl) (fun _ _ _ h => h) (Or.inl ⟨by rfl, ?_⟩) (by assumption) ?_
      · intro w hSw
        first | (go_simp; done) | (go_simp; rfl)
      (try simp only [Act.put])
      refine wpAnyH_take (i := 26) (oi := _) (v := .bool true) rfl (by kernel_rfl) (by kernel_rfl) (by kernel_rfl) (fun _ _ _ h => h) (Or.inl ⟨by rfl, ?_⟩) (by assumption) ?_
      · intro w hSw
        first | (go_simp; done) | (go_simp; rfl)
      (try simp only [Act.put])
      refine wpAnyH_done (by kernel_rfl) ?_ _
      have HE : Hid (Below w.heap.size w x6) := HW.out.trans (B6.mono HW.out.size)
      clear hc1 hq1 hq2 hq3 hb1 hb2 hb3 hb4 hb5 hb6 so3 q0 lB ilB un B1 B2 B3 B4 B5 B6 nb tbound
      refine exit_frame (fun A => A.tmps.getD 2 undef = .bool true ∧ A.defers = []) ⟨by rfl, by rfl⟩ ?_
      intro A hA
      go_wp2
      refine bodyPost_ret (v := .bool true) ?_ hA.2 ⟨rfl, HE.out⟩
      have h1 := hA.1
      simp [results, Tryd.results6] at h1 ⊢
      exact h1
    · have hlt : i < PS.length := by omega
      have hlt' : (i : Int) < (PS.length : Int) := by omega
      have ea : a = some ⟨bp, op, none⟩ := by
        rcases HH.out.2.1 with h | h
        · rw [h] at hlt; simp at hlt
        · exact h
      subst ea
      obtain ⟨p, kp⟩ : ∃ p, p = PS.getD i .none := ⟨_, rfl⟩
      have g1 : wr.cell? ⟨bp, op + i, none⟩ = some (.slice p.a p.X.length p.c) := by
        have h := (HH.out.1 i hlt).1
        rw [HF.out.1.cell (p := ⟨bp, op + i, none⟩) (World.block_lt_of_cell? w _ h), h, ← kp]
        rfl
      have NX : Hid (catX (PS.take (i + 1)) = catX (PS.take i) ++ p.X) := by rw [kp]; exact catX_next hlt
      have LN : Hid ((catX (PS.take i)).length + p.X.length < 1073730000) := by
        have h1 := catX_le (PS := PS) (i + 1)
        rw [NX.out, List.length_append] at h1
        have := HH.out.2.2.2.2.1
        have h : (catX (PS.take i)).length + p.X.length < 1073730000 := by omega
        exact h
      have OK : Hid (At p.a p.b p.o p.X ∧ Byo wr p.b p.o p.X) := by
        have h := (HH.out.1 i hlt).2
        rw [← kp] at h
        exact ⟨h.1, h.2.2.keep HF.out.1⟩
      clear kp
      go_wp2_with fail
      refine (copied_any (by have := LN.out; omega) OK.out.1 _ OK.out.2).mono ?_
      rintro e w5 ⟨v5, rfl, o5, hb⟩
      obtain ⟨sa, sb, so, sc, ev, sAt, slen, sBy, sne⟩ := own_apart o5 (b := b) (Hs.lt HF.out.2.2.2)
      subst ev
      have H5 : Hid (Below w.heap.size w w5 ∧ Byo w5 tb to T ∧ Hsh w5 g0 D ∧ Tx w5 b (catX (PS.take i))) := ⟨HF.out.1.trans (hb.mono HF.out.1.size), HF.out.2.1.keep hb, HF.out.2.2.1.keep hb, HF.out.2.2.2.keep hb⟩
      have SS : Hid (At sa sb so p.X ∧ p.X.length ≤ sc ∧ Byo w5 sb so p.X ∧ sb ≠ b) := ⟨sAt, slen, sBy, sne⟩
      clear o5 hb sAt slen sBy sne OK HF g1
      go_wp2_with fail
      refine (write_any SS.out.2.2.2 (by have := NB.out; have := G0.out; omega) (by have := NB.out; have := G0.out; omega) (by have := LN.out; omega) SS.out.2.1 SS.out.1 _ H5.out.2.2.2 SS.out.2.2.1 (HH.out.2.2.1.keep H5.out.1) (HH.out.2.2.2.1.keep H5.out.1)).mono ?_
      rintro e w6 ⟨rfl, ht, ho⟩
      have H6 : Hid (Below w.heap.size w w6 ∧ Byo w6 tb to T ∧ Hsh w6 g0 D ∧ Tx w6 b (catX (PS.take (i + 1)))) := ⟨H5.out.1.trans (ho.below H5.out.1.size NB.out.1), H5.out.2.1.off ho (by have := NB.out; omega), H5.out.2.2.1.off ho (by have := NB.out; omega), by rw [NX.out]; exact ht⟩
      clear ht ho H5 SS
      go_wp2_with fail
      refine (ssum_any (by rw [NX.out, List.length_append]; have := LN.out; omega) _ H6.out.2.2.2 (HH.out.2.2.1.keep H6.out.1) (HH.out.2.2.2.1.keep H6.out.1)).mono ?_
      rintro e w7 ⟨rfl, hb⟩
      have H7 : Hid (Below w.heap.size w w7 ∧ Byo w7 tb to T ∧ Hsh w7 g0 D ∧ Tx w7 b (catX (PS.take (i + 1)))) := ⟨H6.out.1.trans (hb.mono H6.out.1.size), H6.out.2.1.keep hb, H6.out.2.2.1.keep hb, H6.out.2.2.2.keep hb⟩
      clear hb H6
      generalize byts (shaL (catX (PS.take (i + 1)))) = NZ at *
      go_wp2
      go_roundg (PS.length - (i + 1))
      case measure => have := HK.out; omega
      case rel => exact ⟨i + 1, rfl, by omega, by go_num, H7.out⟩

end Go.Proofs.YtniabadlbockaaaDoor

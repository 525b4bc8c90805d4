import Derived.Test.YtcjabligkeaafaaDoorKSums
/- The program's Sum of great texts. -/
namespace Go.Proofs.YtcjabligkeaafaaDoor.K
open Go.RowKit Go.Sort

set_option maxHeartbeats 4000000 in
theorem write_big {b bd od cd : Nat} {a : Option Addr} {k : Int} {L : List (BitVec 64)} {t : Nat} {X : List (BitVec 8)} (ne : bd ≠ b) (nt : 1 ≠ b) (nm : 0 ≠ b) (hs : t + X.length < 140737488355328) (hc : X.length ≤ cd) (hx : At a bd od X) (w : World) (hS : Sp w b k L t) (hX : Byo w bd od X) (ht : Tab w 1 turnsN) (hm : Lns w 0 marksN) :
    Calls Tryd.prog 21 #[.pointer (some ⟨b, 0, none⟩), .slice a X.length cd] w fun e w' => e = .returned (.tuple #[]) ∧ Sp w' b k (absb L t X) (t + X.length) ∧ Off b w w' := by
  have NN : Hid (bd ≠ b ∧ 1 ≠ b ∧ 0 ≠ b) := ⟨ne, nt, nm⟩
  have HH : Hid (Byo w bd od X ∧ Tab w 1 turnsN ∧ Lns w 0 marksN) := ⟨hX, ht, hm⟩
  clear ne nt nm hX ht hm
  go_enter Tryd.func21, Tryd.ntmps21
  go_wp2_with fail
  go_loopg [1] X.length (fun g v wr => ∃ (n : Nat) (a' : Option Addr) (c' : Nat), g = X.length - n ∧ n ≤ X.length ∧ v = .slice a' (X.length - n) c' ∧ X.length - n ≤ c' ∧ At a' bd (od + n) (X.drop n) ∧ Sp wr b k (absb L t (X.take n)) (t + n) ∧ Off b w wr)
  case atStart => exact ⟨0, a, cd, rfl, Nat.zero_le _, rfl, hc, hx, hS, Off.refl _ _⟩
  case round =>
    clear hS hx hc
    obtain ⟨n, a', c', hk, hn, rfl, hc, ha, hS, hO⟩ := hrel
    have HK : Hid (gk = X.length - n) := hk
    have HF : Hid (Sp wr b k (absb L t (X.take n)) (t + n) ∧ Off b w wr ∧ At a' bd (od + n) (X.drop n)) := ⟨hS, hO, ha⟩
    clear hk hS hO ha
    by_cases h8 : n = X.length
    · subst h8
      have e0 : X.length - X.length = 0 := Nat.sub_self _
      go_wp2
      all_goals go_end0
      all_goals exact ⟨rfl, by have h := HF.out.1; rw [List.take_length] at h; exact h, HF.out.2.1⟩
    · have hd : (X.drop n).length = X.length - n := List.length_drop
      have ea : a' = some ⟨bd, od + n, none⟩ := by
        rcases HF.out.2.2 with h | h
        · rw [h] at hd; simp at hd; omega
        · exact h
      subst ea
      obtain ⟨T, eT⟩ : ∃ T, T = t + n := ⟨_, rfl⟩
      obtain ⟨p, ep⟩ : ∃ p : Nat, p = T % 136 := ⟨_, rfl⟩
      have EP : Hid ((T : Int) % 136 = (p : Int)) := by have h : (T : Int) % 136 = (p : Int) := (by omega); exact h
      have p0 : (p : Int) < 136 := by omega
      have hT : (T : Int) < 140737488355328 := by omega
      obtain ⟨m, em⟩ : ∃ m : Nat, m = min (X.length - n) (136 - p) := ⟨_, rfl⟩
      have m0 : 0 < m := by omega
      have m1 : m ≤ X.length - n := by omega
      have m2 : p + m ≤ 136 := by omega
      have g26 : wr.cell? ⟨b, 26, none⟩ = some (.int .i64 (T : Int)) := by rw [eT]; exact HF.out.1.2.2.2.1
      obtain ⟨A, kA⟩ : ∃ A, A = absb L t (X.take n) := ⟨_, rfl⟩
      have HS : Hid (Sp wr b k A T) := by rw [kA, eT]; exact HF.out.1
      obtain ⟨Z, kZ⟩ : ∃ Z, Z = (X.drop n).take m := ⟨_, rfl⟩
      have lZ : Z.length = m := by rw [kZ, List.length_take, hd]; omega
      have HZ : Hid (Byo wr bd (od + n) Z) := by
        intro i hi
        have h := (HH.out.1.off HF.out.2.1 NN.out.1).drop (n := n) i (by omega)
        rw [h, kZ]
        simp [List.getD, show i < m by omega]
      have FIN : Hid (absb L t (X.take (n + m)) = turn (mixs A p Z) (T + m)) := by
        have e1 : X.take (n + m) = X.take n ++ Z := by rw [kZ, List.take_add]
        rw [e1, absb_app, ← kA, List.length_take, Nat.min_eq_left (by omega), ← eT, absb_piece _ _ _ (by omega) (by omega), lZ, ep]
        exact rfl
      have HO : Hid (Off b w wr) := HF.out.2.1
      have LZ : Hid (Z.length = m) := lZ
      have ET : Hid (T = t + n ∧ p = T % 136) := ⟨eT, ep⟩
      have EM : Hid (m = min (X.length - n) (136 - p)) := em
      have HN : Hid (n ≤ X.length ∧ ¬ n = X.length ∧ t + X.length < 140737488355328) := ⟨hn, h8, hs⟩
      have rb : ((X.length - n : Nat) : Int) < 140737488355328 := by omega
      clear kA kZ lZ HF hd eT ep em hn h8 hs
      generalize hr : X.length - n = r at *
      have RL : Hid (X.length - n = r) := hr
      clear hr
      have em' : (if 136 - (T : Int) % 136 < (r : Int) then 136 - (T : Int) % 136 else (r : Int)) = (m : Int) := by have := EM.out; rw [EP.out]; split <;> omega
      have M3 : Hid (0 < m ∧ m ≤ r ∧ p + m ≤ 136) := ⟨m0, m1, m2⟩
      have m3 : 0 < r := by omega
      have m4 : m ≤ c' := by omega
      clear m0 m2
      go_wp2_with fail
      go_loopg [27] m (fun g iv wr => ∃ i : Nat, g = m - i ∧ i ≤ m ∧ iv = .int .i64 i ∧ Sp wr b k (mixs A p (Z.take i)) T ∧ Off b w wr ∧ Byo wr bd (od + n) Z)
      case atStart => exact ⟨0, rfl, Nat.zero_le _, rfl, HS.out, HO.out, HZ.out⟩
      case round =>
        clear HS HO HZ g26
        obtain ⟨i, hk, hi, rfl, hf⟩ := hrel
        have HK2 : Hid (gk = m - i) := hk
        have HF : Hid (Sp wr b k (mixs A p (Z.take i)) T ∧ Off b w wr ∧ Byo wr bd (od + n) Z) := hf
        clear hk hf
        by_cases h9 : i = m
        · subst h9
          obtain ⟨C, kC⟩ : ∃ C, C = mixs A p Z := ⟨_, rfl⟩
          have HS : Hid (Sp wr b k C T) := by have h := HF.out.1; rw [← LZ.out, List.take_length, ← kC] at h; exact h
          have HO : Hid (Off b w wr) := HF.out.2.1
          have FIN2 : Hid (absb L t (X.take (n + i)) = turn C (T + i)) := by rw [FIN.out, kC]; exact rfl
          clear HF FIN kC
          have g26 := HS.out.2.2.2.1
          have f26 := HS.out.2.2.2.2 26 (by decide)
          obtain ⟨q, eq⟩ : ∃ q : Nat, q = (T + i) % 136 := ⟨_, rfl⟩
          have EQ : Hid (q = (T + i) % 136) := eq
          have h136 : i ≤ 136 := by have := M3.out; omega
          obtain ⟨a2, ha2⟩ : ∃ a2, (if c' = i then some (⟨bd, od + n, none⟩ : Addr) else some ⟨bd, od + n + i, none⟩) = a2 := ⟨_, rfl⟩
          have AT : Hid (At a2 bd (od + (n + i)) (X.drop (n + i))) := by
            by_cases h : c' = i
            · refine .inl (List.drop_eq_nil_of_le ?_)
              have := RL.out; have := HN.out; omega
            · rw [if_neg h] at ha2
              exact .inr (by rw [← ha2, Nat.add_assoc])
          have RR : Hid (X.length - (n + i) = r - i ∧ n + i ≤ X.length ∧ r - i ≤ c' - i ∧ X.length - (n + i) < X.length - n) := by
            have := RL.out; have := HN.out; have := M3.out
            exact ⟨by omega, by omega, by omega, by omega⟩
          by_cases hq : q = 0
          · have q1 : ((T : Int) + (i : Int)) % 136 = 0 := by omega
            have q2 : (((T : Int) + (i : Int)) % 136 == 0) = true := beq_iff_eq.2 q1
            have HQ : Hid (q = 0) := hq
            clear eq hq q1
            have HM : Hid ((lanes C).length = 25) := by rw [lanes_len]; exact HS.out.1
            go_wp2_with (refine wpList_load_mid rfl 58 _ rfl b 1 rfl (lanes C) _ ((HS.out.taken (T + i)).range) Tryd.underlying58 rfl (by rw [HM.out]; kernel_rfl) ?_)
            have HW : Hid (Sp (wr.setCell ⟨b, 26, none⟩ (.int .i64 ((T : Int) + (i : Int)))) b k C (T + i) ∧ Off b w (wr.setCell ⟨b, 26, none⟩ (.int .i64 ((T : Int) + (i : Int))))) := ⟨HS.out.taken (T + i), HO.out.setCell _⟩
            refine calls_world (fun W => Sp W b k C (T + i) ∧ Off b w W) HW.out ?_
            clear HW HS HO g26 f26 q2
            rintro W2 ⟨hs, ho⟩
            refine (perm_any hs.1 _ (ho.tab NN.out.2.1 HH.out.2.1) (ho.lns NN.out.2.2 HH.out.2.2)).mono ?_
            rintro e w3 ⟨rfl, hb⟩
            have HS : Hid (Sp w3 b k C (T + i) ∧ Off b w w3) := ⟨hs.keep hb, ho.trans (.of_below hb)⟩
            clear hs ho hb W2
            have lP : (perm C).length = 25 := perm_len HS.out.1.1
            have LP : Hid ((perm C).length = 25) := lP
            have sz := lanes_size lP
            have tr : w3.there b 1 ((lanes (perm C)).toArray).size := by rw [sz]; exact HS.out.1.there
            have oc := one_lanes (perm C)
            clear lP
            go_wp2_with (refine wpList_store_mid rfl 58 _ _ rfl b 1 _ rfl rfl tr (by rw [sz]; kernel_rfl) oc ?_)
            go_roundg (X.length - (n + i))
            case measure => have := HK.out; have := RR.out; have := RL.out; omega
            case rel =>
              refine ⟨n + i, a2, c' - i, rfl, RR.out.2.1, by rw [RR.out.1], by rw [RR.out.1]; exact RR.out.2.2.1, AT.out, ?_⟩
              rw [FIN2.out]
              rw [turn, if_pos (by have := EQ.out; have := HQ.out; omega), show t + (n + i) = T + i by have := ET.out; omega]
              exact ⟨HS.out.1.stored LP.out, HS.out.2.setCells _⟩
          · have q1 : ¬ ((T : Int) + (i : Int)) % 136 = 0 := by omega
            have q2 : (((T : Int) + (i : Int)) % 136 == 0) = false := beq_eq_false_iff_ne.2 q1
            clear eq q1
            have HQ : Hid (¬ q = 0) := hq
            clear hq
            go_wp2
            go_roundg (X.length - (n + i))
            case measure => have := HK.out; have := RR.out; have := RL.out; omega
            case rel =>
              refine ⟨n + i, a2, c' - i, rfl, RR.out.2.1, by rw [RR.out.1], by rw [RR.out.1]; exact RR.out.2.2.1, AT.out, ?_⟩
              rw [FIN2.out]
              rw [turn, if_neg (by have := EQ.out; have := HQ.out; omega), show t + (n + i) = T + i by have := ET.out; omega]
              exact ⟨HS.out.taken (T + i), HO.out.setCell _⟩
        · have hi' : (i : Int) < m := by omega
          have hlt : i < m := by omega
          have gy := HF.out.2.2 i (by rw [LZ.out]; omega)
          obtain ⟨y, ky⟩ : ∃ y, y = Z.getD i 0 := ⟨_, rfl⟩
          rw [← ky] at gy
          have KY : Hid (mixs A p (Z.take (i + 1)) = mixL (mixs A p (Z.take i)) (p + i) y) := by rw [ky]; exact mixs_next (by rw [LZ.out]; omega)
          obtain ⟨C, kC⟩ : ∃ C, C = mixs A p (Z.take i) := ⟨_, rfl⟩
          have HS : Hid (Sp wr b k C T ∧ Off b w wr ∧ Byo wr bd (od + n) Z) := by rw [kC]; exact HF.out
          rw [← kC] at KY
          clear ky kC HF
          have M5 := M3.out
          go_wp2_with fail
          have lC : C.length = 25 := HS.out.1.1
          rw [show (T : Int) % 136 + (i : Int) = ((p + i : Nat) : Int) by rw [EP.out]; omega]
          refine (mix_any (p := p + i) (z := C.getD ((p + i) / 8) 0) y (by omega) _ (HS.out.1.2.2.1 _ (by omega)) (HS.out.1.2.2.2.2 _ (by omega))).mono ?_
          rintro e w1 ⟨rfl, h1⟩
          have HS2 : Hid (Sp w1 b k (mixs A p (Z.take (i + 1))) T ∧ Off b w w1 ∧ Byo w1 bd (od + n) Z) := by
            rw [KY.out, h1]
            exact ⟨HS.out.1.drew.mix (by omega) y, HS.out.2.1.drew.setCell _, fun j hj => by rw [World.cell?_setCell_far _ _ _ _ NN.out.1.symm]; exact HS.out.2.2 j hj⟩
          clear h1 HS KY lC M5
          go_wp2
          go_roundg (m - (i + 1))
          case measure => have := HK2.out; omega
          case rel => exact ⟨i + 1, rfl, by omega, by go_num, HS2.out⟩

set_option maxRecDepth 100000 in
set_option maxHeartbeats 4000000 in
theorem ssum_big {b : Nat} {k : Int} {L : List (BitVec 64)} {t : Nat} (tb : t < 140737488355328) (w : World) (hS : Sp w b k L t) (ht : Tab w 1 turnsN) (hm : Lns w 0 marksN) :
    Calls Tryd.prog 22 #[.pointer (some ⟨b, 0, none⟩)] w fun e w' => e = .returned (.agg (byts (hashL (finL k L t))).toArray) ∧ Below w.heap.size w w' := by
  have HH : Hid (Tab w 1 turnsN ∧ Lns w 0 marksN) := ⟨ht, hm⟩
  have HS : Hid (Sp w b k L t) := hS
  have lb : b < w.heap.size := hS.lt
  have HM : Hid ((lanes L).length = 25) := by rw [lanes_len]; exact hS.1
  have sz := lanes_size hS.1
  have oc := one_lanes L
  have HL : Hid (L.length = 25) := hS.1
  have TB : Hid (t < 140737488355328 ∧ b < w.heap.size) := ⟨tb, lb⟩
  clear ht hm hS lb
  go_enter Tryd.func22, Tryd.ntmps22
  go_wp2_with (first | refine wpList_load_mid rfl 58 _ rfl b 1 rfl (lanes L) _ ((HS.out.alloc _).range) Tryd.underlying58 rfl (by rw [HM.out]; kernel_rfl) ?_ | (refine wpList_store_mid rfl 58 _ _ rfl (w.heap.size + 1) 0 _ rfl rfl (by rw [sz]; exact (fresh_arr (by simp)).there) (by rw [sz]; kernel_rfl) oc ?_; refine wpList_world (fun W => Below w.heap.size w W ∧ Hsh W w.heap.size (List.replicate 32 0) ∧ Arr W (w.heap.size + 1) L) ⟨below_setCells (by omega) _ 0 _ (((Below.refl _ _).alloc (Nat.le_refl _) _).alloc (by simp) _), ((Hsh.zeros _ rfl).alloc _).otherCells (by omega) _, (fresh_arr (by simp)).stored HL.out⟩ ?_; intro W2 hh; have HY : Hid (Below w.heap.size w W2 ∧ Hsh W2 w.heap.size (List.replicate 32 0) ∧ Arr W2 (w.heap.size + 1) L) := hh; clear hh))
  simp only [Act.put]
  have NN : Hid (w.heap.size + 1 ≠ w.heap.size ∧ w.heap.size ≤ w.heap.size + 1) := ⟨by omega, by omega⟩
  generalize w.heap.size + 1 = n1 at *
  have g26 : W2.cell? ⟨b, 26, none⟩ = some (.int .i64 (t : Int)) := by rw [HY.out.1.cell (p := ⟨b, 26, none⟩) TB.out.2]; exact HS.out.2.2.2.1
  have g0 : W2.cell? ⟨b, 0, none⟩ = some (.int .i64 k) := by rw [HY.out.1.cell (p := ⟨b, 0, none⟩) TB.out.2]; exact HS.out.2.1
  have G0 : Hid (W2.cell? ⟨b, 0, none⟩ = some (.int .i64 k)) := g0
  clear g0 sz oc HM
  have t1 : (t : Int) < 140737488355328 := by have := TB.out.1; omega
  have P0 : Hid (∀ W, W = W2.drew → Calls Tryd.prog 25 #[.pointer (some ⟨b, 0, none⟩)] W fun e w' => e = .returned (.int .u8 (Y (fstB k))) ∧ w' = W) := by rintro W rfl; exact first_any _ G0.out
  refine region_tail 7 (by kernel_rfl) (by kernel_rfl) ?_
  simp only [List.take_succ_cons, List.take_zero, List.drop_succ_cons, List.drop_zero]
  repeat (first | go_big_quiet_skip | (go_big_quiet_want; go_big_quiet_op; first | go_big_quiet_on | (with_reducible refine ⟨_, P0.out _ rfl, ?_⟩; go_big_quiet_on)))
  refine wpQuiet_nil ?_
  go_wp2_with fail
  rw [show (t : Int) % 136 = ((t % 136 : Nat) : Int) by omega]
  refine (mix_any (b := n1) (o := 0) (p := t % 136) (z := L.getD (t % 136 / 8) 0) (fstB k) (by omega) _ (by rw [Nat.zero_add]; exact HY.out.2.2.2.1 _ (by rw [HL.out]; omega)) (by rw [Nat.zero_add]; exact HY.out.2.2.2.2 _ (by omega))).mono ?_
  rintro e w3 ⟨rfl, h3⟩
  obtain ⟨A, kA⟩ : ∃ A, A = mixL L (t % 136) (fstB k) := ⟨_, rfl⟩
  have H3 : Hid (Below w.heap.size w w3 ∧ Hsh w3 w.heap.size (List.replicate 32 0) ∧ Arr w3 n1 A) := by
    rw [h3, kA]
    exact ⟨HY.out.1.drew.drew.setCell NN.out.2 _, HY.out.2.1.drew.drew.other NN.out.1 _, HY.out.2.2.drew.drew.mix (by omega) _⟩
  clear h3 HY g26 G0 P0 t1
  go_wp2_with fail
  have y128 : Y 128 = 128 := by rw [Y_eq]; rfl
  have lA : A.length = 25 := H3.out.2.2.1
  refine (mix_n (b := n1) (o := 0) (p := 135) (z := A.getD (135 / 8) 0) y128 (by decide) _ (H3.out.2.2.2.1 (135 / 8) (by omega)) (H3.out.2.2.2.2 (135 / 8) (by decide))).mono ?_
  rintro e w4 ⟨rfl, h4⟩
  obtain ⟨C, kC⟩ : ∃ C, C = mixL A 135 128 := ⟨_, rfl⟩
  have H4 : Hid (Below w.heap.size w w4 ∧ Hsh w4 w.heap.size (List.replicate 32 0) ∧ Arr w4 n1 C) := by
    rw [h4, kC]
    exact ⟨H3.out.1.drew.setCell NN.out.2 _, H3.out.2.1.drew.other NN.out.1 _, H3.out.2.2.drew.mix (by decide) _⟩
  have FIN : Hid (finL k L t = perm C) := by rw [kC, kA]; exact rfl
  clear h4 H3 kA kC y128 lA
  have lC : Hid (C.length = 25) := H4.out.2.2.1
  have HM : Hid ((lanes C).length = 25) := by rw [lanes_len]; exact lC.out
  go_wp2_with (refine wpList_load_mid rfl 58 _ rfl n1 0 rfl (lanes C) _ (H4.out.2.2.2.1.range) Tryd.underlying58 rfl (by rw [HM.out]; kernel_rfl) ?_)
  refine (perm_any lC.out _ (HH.out.1.keep H4.out.1) (HH.out.2.keep H4.out.1)).mono ?_
  rintro e w5 ⟨rfl, hb⟩
  have H5 : Hid (Below w.heap.size w w5 ∧ Hsh w5 w.heap.size (List.replicate 32 0)) := ⟨H4.out.1.trans (hb.mono H4.out.1.size), H4.out.2.1.keep hb⟩
  clear hb H4
  go_wp2_with fail
  refine (squeeze_any (perm_len lC.out) _).mono ?_
  rintro e w6 ⟨rfl, hb⟩
  have H6 : Hid (Below w.heap.size w w6 ∧ Hsh w6 w.heap.size (List.replicate 32 0)) := ⟨H5.out.1.trans (hb.mono H5.out.1.size), H5.out.2.keep hb⟩
  clear hb H5
  rw [← FIN.out]
  have lN : (byts (hashL (finL k L t))).length = 32 := by rw [byts_len, hashL_len]
  have oc := one_byts (hashL (finL k L t))
  generalize hN : byts (hashL (finL k L t)) = N at *
  have EN : Hid (byts (hashL (finL k L t)) = N) := hN
  clear hN
  have sz : (N.toArray).size = 32 := by simp [lN]
  have tr : w6.there w.heap.size 0 (N.toArray).size := by rw [sz]; exact H6.out.2.there
  have HN : Hid (N.length = 32) := lN
  clear lN
  go_wp2_with (refine wpList_store_mid rfl 26 _ _ rfl w.heap.size 0 _ rfl rfl tr (by rw [sz]; kernel_rfl) oc ?_)
  have ld := run_loadVar_mid (P := Tryd.prog) (w6.setCells w.heap.size 0 N) w.heap.size 0 26 N _ (World.rangeAt_setCells_same _ _ _ _ (by simpa using tr)) Tryd.underlying26 rfl (by rw [HN.out]; kernel_rfl)
  refine bodyPost_ret (v := .agg N.toArray) ?_ rfl ⟨by rw [EN.out], below_setCells (Nat.le_refl _) N 0 w6 H6.out.1⟩
  simp [results, Tryd.results22, Act.put, asAddr, ld]

set_option maxHeartbeats 4000000 in
theorem digest_big {k : Int} {a : Option Addr} {bp op cp : Nat} {PS : List Part} (hs : (catX PS).length < 140737488355328) (hn : PS.length ≤ 140737488355328) (hc : PS.length ≤ cp) (ha : PS = [] ∨ a = some ⟨bp, op, none⟩) (w : World) (hP : Prts w bp op PS) (ht : Tab w 1 turnsN) (hm : Lns w 0 marksN) :
    Calls Tryd.prog 18 #[.int .i64 k, .slice a PS.length cp] w fun e w' => e = .returned (.agg (byts (hashL (finL k (absb (List.replicate 25 0) 0 (catX PS)) (catX PS).length))).toArray) ∧ Below w.heap.size w w' := by
  have HH : Hid (Prts w bp op PS ∧ Tab w 1 turnsN ∧ Lns w 0 marksN) := ⟨hP, ht, hm⟩
  have HC : Hid ((catX PS).length < 140737488355328 ∧ PS.length ≤ cp ∧ (PS = [] ∨ a = some ⟨bp, op, none⟩)) := ⟨hs, hc, ha⟩
  clear hP ht hm hs hc ha
  have oc := sponge_ones k
  go_enter Tryd.func18, Tryd.ntmps18
  have sz := sponge_size k
  have NL : Hid (PS.length ≤ 140737488355328) := hn
  go_wp2_with (refine wpList_store_mid rfl 60 _ _ rfl (w.heap.size + 1) 0 ([.int .i64 k, .int .u64 0, .int .u64 0, .int .u64 0, .int .u64 0, .int .u64 0, .int .u64 0, .int .u64 0, .int .u64 0, .int .u64 0, .int .u64 0, .int .u64 0, .int .u64 0, .int .u64 0, .int .u64 0, .int .u64 0, .int .u64 0, .int .u64 0, .int .u64 0, .int .u64 0, .int .u64 0, .int .u64 0, .int .u64 0, .int .u64 0, .int .u64 0, .int .u64 0, .int .i64 0] : List Value).toArray rfl rfl ?th sz oc ?go; exact fresh_sponge2 k (by simp); refine wpList_world (fun W => Below w.heap.size w W ∧ Hsh W w.heap.size (List.replicate 32 0) ∧ Sp W (w.heap.size + 1) k (List.replicate 25 0) 0) ⟨below_setCells (by omega) _ 0 _ (((Below.refl _ _).alloc (Nat.le_refl _) _).alloc (by simp) _), ((Hsh.zeros _ rfl).alloc _).otherCells (by omega) _, Sp.zeros k (fresh_sponge (by simp))⟩ ?_; intro W2 hh; have HY : Hid (Below w.heap.size w W2 ∧ Hsh W2 w.heap.size (List.replicate 32 0) ∧ Sp W2 (w.heap.size + 1) k (List.replicate 25 0) 0) := hh; clear hh)
  have NN : Hid (w.heap.size ≠ w.heap.size + 1 ∧ w.heap.size ≤ w.heap.size + 1) := ⟨by omega, by omega⟩
  have LT : Hid (1 < w.heap.size ∧ 0 < w.heap.size) := ⟨HH.out.2.1.lt (by decide), HH.out.2.2.lt (by decide)⟩
  clear sz oc
  generalize hbs : w.heap.size + 1 = bs at *
  have BS : Hid (w.heap.size + 1 = bs) := hbs
  clear hbs
  go_loopg [12] PS.length (fun g iv wr => ∃ i : Nat, g = PS.length - i ∧ i ≤ PS.length ∧ iv = .int .i64 i ∧ Below w.heap.size w wr ∧ Hsh wr w.heap.size (List.replicate 32 0) ∧ Sp wr bs k (absb (List.replicate 25 0) 0 (catX (PS.take i))) (catX (PS.take i)).length)
  case atStart => exact ⟨0, rfl, Nat.zero_le _, rfl, HY.out⟩
  case round =>
    clear HY
    obtain ⟨i, hk, hi, rfl, hf⟩ := hrel
    have HK : Hid (gk = PS.length - i) := hk
    have HF : Hid (Below w.heap.size w wr ∧ Hsh wr w.heap.size (List.replicate 32 0) ∧ Sp wr bs k (absb (List.replicate 25 0) 0 (catX (PS.take i))) (catX (PS.take i)).length) := hf
    clear hk hf
    by_cases h8 : i = PS.length
    · subst h8
      rw [List.take_length] at HF
      go_wp2_with fail
      refine (ssum_big HC.out.1 _ HF.out.2.2 (HH.out.2.1.keep HF.out.1) (HH.out.2.2.keep HF.out.1)).mono ?_
      rintro e w6 ⟨rfl, hb⟩
      have H6 : Hid (Below w.heap.size w w6 ∧ Hsh w6 w.heap.size (List.replicate 32 0)) := ⟨HF.out.1.trans (hb.mono HF.out.1.size), HF.out.2.1.keep hb⟩
      clear hb HF
      have oc := one_byts (hashL (finL k (absb (List.replicate 25 0) 0 (catX PS)) (catX PS).length))
      have lN : (byts (hashL (finL k (absb (List.replicate 25 0) 0 (catX PS)) (catX PS).length))).length = 32 := by rw [byts_len, hashL_len]
      generalize hN : byts (hashL (finL k (absb (List.replicate 25 0) 0 (catX PS)) (catX PS).length)) = N at *
      have EN : Hid (byts (hashL (finL k (absb (List.replicate 25 0) 0 (catX PS)) (catX PS).length)) = N) := hN
      have sz : (N.toArray).size = 32 := by simp [lN]
      have tr : w6.there w.heap.size 0 (N.toArray).size := by rw [sz]; exact H6.out.2.there
      have HN : Hid (N.length = 32) := lN
      clear lN hN
      go_wp2_with (refine wpList_store_mid rfl 26 _ _ rfl w.heap.size 0 _ rfl rfl tr (by rw [sz]; kernel_rfl) oc ?_)
      have ld := run_loadVar_mid (P := Tryd.prog) (w6.setCells w.heap.size 0 N) w.heap.size 0 26 N _ (World.rangeAt_setCells_same _ _ _ _ (by simpa using tr)) Tryd.underlying26 rfl (by rw [HN.out]; kernel_rfl)
      refine bodyPost_ret (v := .agg N.toArray) ?_ rfl ⟨by rw [EN.out], below_setCells (Nat.le_refl _) N 0 w6 H6.out.1⟩
      simp [results, Tryd.results18, Act.put, asAddr, ld]
    · have hlt : i < PS.length := by omega
      have hlt' : (i : Int) < PS.length := by omega
      have ea : a = some ⟨bp, op, none⟩ := by
        rcases HC.out.2.2 with h | h
        · rw [h] at hlt; simp at hlt
        · exact h
      subst ea
      obtain ⟨p, kp⟩ : ∃ p, p = PS.getD i .none := ⟨_, rfl⟩
      have g0 : wr.cell? ⟨bp, op + i, none⟩ = some (.slice p.a p.X.length p.c) := by
        have h := (HH.out.1 i hlt).1
        rw [HF.out.1.cell (p := ⟨bp, op + i, none⟩) (World.block_lt_of_cell? w _ h), h, ← kp]
        rfl
      have OK : Hid (p.ok wr) := by
        have h := (HH.out.1 i hlt).2
        rw [← kp] at h
        exact ⟨h.1, h.2.1, fun j hj => by rw [HF.out.1.cell (p := ⟨p.b, p.o + j, none⟩) (World.block_lt_of_cell? w _ (h.2.2 j hj))]; exact h.2.2 j hj⟩
      have LB : Hid (p.X = [] ∨ p.b < w.heap.size) := by
        by_cases h0 : p.X = []
        · exact .inl h0
        · refine .inr ?_
          have h := (HH.out.1 i hlt).2
          rw [← kp] at h
          exact World.block_lt_of_cell? w _ (h.2.2 0 (List.length_pos_iff.2 h0))
      have NX : Hid (catX (PS.take (i + 1)) = catX (PS.take i) ++ p.X) := by rw [kp]; exact catX_next hlt
      have LN : Hid ((catX (PS.take i)).length + p.X.length < 140737488355328) := by
        have h1 := catX_le (PS := PS) (i + 1)
        rw [NX.out, List.length_append] at h1
        have := HC.out.1
        have h : (catX (PS.take i)).length + p.X.length < 140737488355328 := by omega
        exact h
      clear kp
      obtain ⟨bd, NB, hAt, hByo⟩ : ∃ bd, Hid (bd ≠ bs) ∧ Hid (At p.a bd p.o p.X) ∧ Hid (Byo wr bd p.o p.X) := by
        rcases LB.out with h | h
        · refine ⟨bs + 1, ?_, .inl h, ?_⟩
          · have h : bs + 1 ≠ bs := by omega
            exact h
          · intro j hj; rw [h] at hj; simp at hj
        · refine ⟨p.b, ?_, OK.out.1, OK.out.2.2⟩
          have h : p.b ≠ bs := by have := BS.out; omega
          exact h
      go_wp2_with fail
      refine (write_big NB.out (by have := BS.out; have := LT.out; omega) (by have := BS.out; have := LT.out; omega) LN.out OK.out.2.1 hAt.out _ HF.out.2.2 hByo.out (HH.out.2.1.keep HF.out.1) (HH.out.2.2.keep HF.out.1)).mono ?_
      rintro e w5 ⟨rfl, hs5, ho5⟩
      have H5 : Hid (Below w.heap.size w w5 ∧ Hsh w5 w.heap.size (List.replicate 32 0) ∧ Sp w5 bs k (absb (List.replicate 25 0) 0 (catX (PS.take (i + 1)))) (catX (PS.take (i + 1))).length) := by
        rw [NX.out, absb_app, List.length_append, Nat.zero_add]
        exact ⟨HF.out.1.trans (ho5.below HF.out.1.size NN.out.2), HF.out.2.1.off ho5 NN.out.1, hs5⟩
      clear hs5 ho5 HF OK LB NX LN g0 hAt hByo NB
      go_wp2
      go_roundg (PS.length - (i + 1))
      case measure => have := HK.out; omega
      case rel => exact ⟨i + 1, rfl, by omega, by go_num, H5.out⟩

set_option maxHeartbeats 4000000 in
theorem sum_big {a : Option Addr} {bp op cp : Nat} {PS : List Part} (hs : (catX PS).length < 140737488355328) (hn : PS.length ≤ 140737488355328) (hc : PS.length ≤ cp) (ha : PS = [] ∨ a = some ⟨bp, op, none⟩) (w : World) (hP : Prts w bp op PS) (ht : Tab w 1 turnsN) (hm : Lns w 0 marksN) :
    Calls Tryd.prog 14 #[.slice a PS.length cp] w fun e w' => e = .returned (digV 0 (catX PS)) ∧ Below w.heap.size w w' := by
  have HH : Hid (Prts w bp op PS ∧ Tab w 1 turnsN ∧ Lns w 0 marksN) := ⟨hP, ht, hm⟩
  have HC : Hid ((catX PS).length < 140737488355328 ∧ PS.length ≤ 140737488355328 ∧ PS.length ≤ cp ∧ (PS = [] ∨ a = some ⟨bp, op, none⟩)) := ⟨hs, hn, hc, ha⟩
  clear hP ht hm hs hc ha hn
  go_enter Tryd.func14, Tryd.ntmps14
  go_wp2_with fail
  refine calls_world (fun W => Below w.heap.size w W ∧ Hsh W w.heap.size (List.replicate 32 0)) ⟨(Below.refl _ _).alloc (Nat.le_refl _) _, Hsh.zeros _ rfl⟩ ?_
  rintro W ⟨B, hR⟩
  have PP : Prts W bp op PS := fun i hi => by
    obtain ⟨h1, h2, h3, h4⟩ := HH.out.1 i hi
    exact ⟨by rw [B.cell (p := ⟨bp, op + i, none⟩) (World.block_lt_of_cell? w _ h1)]; exact h1, h2, h3, fun j hj => by rw [B.cell (World.block_lt_of_cell? w _ (h4 j hj))]; exact h4 j hj⟩
  refine (digest_big (k := 0) HC.out.1 HC.out.2.1 HC.out.2.2.1 HC.out.2.2.2 _ PP (HH.out.2.1.keep B) (HH.out.2.2.keep B)).mono ?_
  rintro e w6 ⟨rfl, hb⟩
  have H6 : Hid (Below w.heap.size w w6 ∧ Hsh w6 w.heap.size (List.replicate 32 0)) := ⟨B.trans (hb.mono B.size), hR.keep hb⟩
  clear hb B hR PP
  have oc := one_byts (hashL (finL 0 (absb (List.replicate 25 0) 0 (catX PS)) (catX PS).length))
  have lN : (byts (hashL (finL 0 (absb (List.replicate 25 0) 0 (catX PS)) (catX PS).length))).length = 32 := by rw [byts_len, hashL_len]
  generalize hN : byts (hashL (finL 0 (absb (List.replicate 25 0) 0 (catX PS)) (catX PS).length)) = N at *
  have EN : Hid (byts (hashL (finL 0 (absb (List.replicate 25 0) 0 (catX PS)) (catX PS).length)) = N) := hN
  clear hN
  have sz : (N.toArray).size = 32 := by simp [lN]
  have tr : w6.there w.heap.size 0 (N.toArray).size := by rw [sz]; exact H6.out.2.there
  have HN : Hid (N.length = 32) := lN
  clear lN
  go_wp2_with (refine wpList_store_mid rfl 26 _ _ rfl w.heap.size 0 _ rfl rfl tr (by rw [sz]; kernel_rfl) oc ?_)
  have ld := run_loadVar_mid (P := Tryd.prog) (w6.setCells w.heap.size 0 N) w.heap.size 0 26 N _ (World.rangeAt_setCells_same _ _ _ _ (by simpa using tr)) Tryd.underlying26 rfl (by rw [HN.out]; kernel_rfl)
  refine bodyPost_ret (v := .agg N.toArray) ?_ rfl ⟨by rw [digV, EN.out], below_setCells (Nat.le_refl _) N 0 w6 H6.out.1⟩
  simp [results, Tryd.results14, Act.put, asAddr, ld]
end Go.Proofs.YtcjabligkeaafaaDoor.K

import Derived.Test.YtpgpciaafjodgaaGreatDoorKAbs
import Derived.Test.YtpgpciaafjodgaaGreatDoorKUnlike
import Derived.Deep.Upon
namespace Go.Proofs.YtpgpciaafjodgaaGreatDoor
open Go.RowKit Go.Sort

/-- Block b holds these bytes from offset o on. -/
def Byo (W : World) (b o : Nat) (X : List (BitVec 8)) : Prop := ∀ i, i < X.length → W.cell? ⟨b, o + i, none⟩ = some (.int .u8 (Y (X.getD i 0)))
theorem Byo.keep {W w1 : World} {b o : Nat} {X : List (BitVec 8)} (h : Byo W b o X) (hb : Below W.heap.size W w1) : Byo w1 b o X := fun i hi => cell_keep hb (h i hi)
theorem Byo.off {b b' o : Nat} {w w' : World} {X : List (BitVec 8)} (h : Byo w b o X) (ho : Off b' w w') (ne : b ≠ b') : Byo w' b o X := fun i hi => ho.cell ne (h i hi)
theorem Byo.drop {W : World} {b o n : Nat} {X : List (BitVec 8)} (h : Byo W b o X) : Byo W b (o + n) (X.drop n) := fun i hi => by
  rw [List.length_drop] at hi
  have := h (n + i) (by omega)
  rw [show o + n + i = o + (n + i) by omega, this]
  simp [List.getD, List.getElem?_drop]

theorem Sp.range {W : World} {b : Nat} {k : Int} {L : List (BitVec 64)} {t : Nat} (h : Sp W b k L t) : W.rangeAt b 1 (lanes L) := by
  intro j v hv
  unfold lanes at hv
  rw [List.getElem?_map] at hv
  obtain ⟨x, hx, rfl⟩ := Option.map_eq_some_iff.1 hv
  have hj : j < L.length := (List.getElem?_eq_some_iff.1 hx).1
  rw [h.2.2.1 j hj]
  simp [List.getD, hx]
theorem Sp.there {W : World} {b : Nat} {k : Int} {L : List (BitVec 64)} {t : Nat} (h : Sp W b k L t) : W.there b 1 25 := by
  intro j hj
  exact ⟨by rw [h.2.2.1 j (by rw [h.1]; exact hj)]; rfl, h.2.2.2.2 (1 + j) (by omega)⟩
theorem Sp.stored {W : World} {b : Nat} {k : Int} {L M : List (BitVec 64)} {t : Nat} (h : Sp W b k L t) (hl : M.length = 25) : Sp (W.setCells b 1 (lanes M)) b k M t := by
  refine ⟨hl, ?_, fun j hj => ?_, ?_, h.2.2.2.2.setCells _ _ _⟩
  · rw [World.cell?_setCells_out _ _ _ _ _ (fun _ _ => .inl (by simp))]; exact h.2.1
  · have := World.rangeAt_setCells_same W b 1 (lanes M) (by rw [lanes_len, hl]; exact h.there) j (.int .u64 (V (M.getD j 0))) (by simp [lanes, List.getD, hj])
    exact this
  · rw [World.cell?_setCells_out _ _ _ _ _ (fun _ _ => .inr (by rw [lanes_len, hl]; exact Nat.le_refl 26))]; exact h.2.2.2.1
theorem Off.setCells {b o : Nat} {w w' : World} (h : Off b w w') (cs : List Value) : Off b w (w'.setCells b o cs) := by
  have := below_setCells (B := 0) (a := w') (Nat.zero_le b) cs o w' (Below.refl _ _)
  refine h.trans ⟨this.os, this.tape, this.output, this.size, fun k hk hb => World.heap_setCells_other _ _ _ _ hk hb⟩

/-- What a slice of bytes is: where there are any, it says where they lie. -/
def At (a : Option Addr) (b o : Nat) (X : List (BitVec 8)) : Prop := X = [] ∨ a = some ⟨b, o, none⟩

set_option maxHeartbeats 4000000 in
theorem write_any {b bd od cd : Nat} {a : Option Addr} {k : Int} {L : List (BitVec 64)} {t : Nat} {X : List (BitVec 8)} (ne : bd ≠ b) (nt : 2 ≠ b) (nm : 1 ≠ b) (hs : t + X.length < 1073741824) (hc : X.length ≤ cd) (hx : At a bd od X) (w : World) (hS : Sp w b k L t) (hX : Byo w bd od X) (ht : Tab w 2 turnsN) (hm : Lns w 1 marksN) :
    Calls Tryz.prog 92 #[.pointer (some ⟨b, 0, none⟩), .slice a X.length cd] w fun e w' => e = .returned (.tuple #[]) ∧ Sp w' b k (absb L t X) (t + X.length) ∧ Off b w w' := by
  have NN : Hid (bd ≠ b ∧ 2 ≠ b ∧ 1 ≠ b) := ⟨ne, nt, nm⟩
  have HH : Hid (Byo w bd od X ∧ Tab w 2 turnsN ∧ Lns w 1 marksN) := ⟨hX, ht, hm⟩
  clear ne nt nm hX ht hm
  go_enter Tryz.func92, Tryz.ntmps92
  go_wp2_with fail
  go_loopg [1] X.length (fun g v wr => ∃ (n : Nat) (a' : Option Addr) (c' : Nat), g = X.length - n ∧ n ≤ X.length ∧ v = .slice a' (X.length - n) c' ∧ X.length - n ≤ c' ∧ At a' bd (od + n) (X.drop n) ∧ Sp wr b k (absb L t (X.take n)) (t + n) ∧ Off b w wr)
  case atStart => exact ⟨0, a, cd, rfl, Nat.zero_le _, rfl, hc, hx, hS, Off.refl _ _⟩
  case round =>
    clear hS hx hc
    obtain ⟨n, a', c', hk, hn, rfl, hc, ha, hS, hO⟩ := hrel
    have HK : Hid (gk = X.length - n) := hk
    have HF : Hid (Sp wr b k (absb L t (X.take n)) (t + n) ∧ Off b w wr ∧ At a' bd (od + n) (X.drop n)) := ⟨hS, hO, ha⟩
    clear hk hS hO ha
    by_cases h8 : n = X.length
    · subst h8
      have e0 : X.length - X.length = 0 := Nat.sub_self _
      go_wp2
      all_goals go_end0
      all_goals exact ⟨rfl, by have h := HF.out.1; rw [List.take_length] at h; exact h, HF.out.2.1⟩
    · have hd : (X.drop n).length = X.length - n := List.length_drop
      have ea : a' = some ⟨bd, od + n, none⟩ := by
        rcases HF.out.2.2 with h | h
        · rw [h] at hd; simp at hd; omega
        · exact h
      subst ea
      obtain ⟨T, eT⟩ : ∃ T, T = t + n := ⟨_, rfl⟩
      obtain ⟨p, ep⟩ : ∃ p : Nat, p = T % 136 := ⟨_, rfl⟩
      have EP : Hid ((T : Int) % 136 = (p : Int)) := by have h : (T : Int) % 136 = (p : Int) := (by omega); exact h
      have p0 : (p : Int) < 136 := by omega
      have hT : (T : Int) < 1073741824 := by omega
      obtain ⟨m, em⟩ : ∃ m : Nat, m = min (X.length - n) (136 - p) := ⟨_, rfl⟩
      have m0 : 0 < m := by omega
      have m1 : m ≤ X.length - n := by omega
      have m2 : p + m ≤ 136 := by omega
      have g26 : wr.cell? ⟨b, 26, none⟩ = some (.int .i64 (T : Int)) := by rw [eT]; exact HF.out.1.2.2.2.1
      obtain ⟨A, kA⟩ : ∃ A, A = absb L t (X.take n) := ⟨_, rfl⟩
      have HS : Hid (Sp wr b k A T) := by rw [kA, eT]; exact HF.out.1
      obtain ⟨Z, kZ⟩ : ∃ Z, Z = (X.drop n).take m := ⟨_, rfl⟩
      have lZ : Z.length = m := by rw [kZ, List.length_take, hd]; omega
      have HZ : Hid (Byo wr bd (od + n) Z) := by
        intro i hi
        have h := (HH.out.1.off HF.out.2.1 NN.out.1).drop (n := n) i (by omega)
        rw [h, kZ]
        simp [List.getD, show i < m by omega]
      have FIN : Hid (absb L t (X.take (n + m)) = turn (mixs A p Z) (T + m)) := by
        have e1 : X.take (n + m) = X.take n ++ Z := by rw [kZ, List.take_add]
        rw [e1, absb_app, ← kA, List.length_take, Nat.min_eq_left (by omega), ← eT, absb_piece _ _ _ (by omega) (by omega), lZ, ep]
        exact rfl
      have HO : Hid (Off b w wr) := HF.out.2.1
      have LZ : Hid (Z.length = m) := lZ
      have ET : Hid (T = t + n ∧ p = T % 136) := ⟨eT, ep⟩
      have EM : Hid (m = min (X.length - n) (136 - p)) := em
      have HN : Hid (n ≤ X.length ∧ ¬ n = X.length ∧ t + X.length < 1073741824) := ⟨hn, h8, hs⟩
      have rb : ((X.length - n : Nat) : Int) < 1073741824 := by omega
      clear kA kZ lZ HF hd eT ep em hn h8 hs
      generalize hr : X.length - n = r at *
      have RL : Hid (X.length - n = r) := hr
      clear hr
      have em' : (if 136 - (T : Int) % 136 < (r : Int) then 136 - (T : Int) % 136 else (r : Int)) = (m : Int) := by have := EM.out; rw [EP.out]; split <;> omega
      have M3 : Hid (0 < m ∧ m ≤ r ∧ p + m ≤ 136) := ⟨m0, m1, m2⟩
      have m3 : 0 < r := by omega
      have m4 : m ≤ c' := by omega
      clear m0 m2
      go_wp2_with fail
      go_loopg [27] m (fun g iv wr => ∃ i : Nat, g = m - i ∧ i ≤ m ∧ iv = .int .i64 i ∧ Sp wr b k (mixs A p (Z.take i)) T ∧ Off b w wr ∧ Byo wr bd (od + n) Z)
      case atStart => exact ⟨0, rfl, Nat.zero_le _, rfl, HS.out, HO.out, HZ.out⟩
      case round =>
        clear HS HO HZ g26
        obtain ⟨i, hk, hi, rfl, hf⟩ := hrel
        have HK2 : Hid (gk = m - i) := hk
        have HF : Hid (Sp wr b k (mixs A p (Z.take i)) T ∧ Off b w wr ∧ Byo wr bd (od + n) Z) := hf
        clear hk hf
        by_cases h9 : i = m
        · subst h9
          obtain ⟨C, kC⟩ : ∃ C, C = mixs A p Z := ⟨_, rfl⟩
          have HS : Hid (Sp wr b k C T) := by have h := HF.out.1; rw [← LZ.out, List.take_length, ← kC] at h; exact h
          have HO : Hid (Off b w wr) := HF.out.2.1
          have FIN2 : Hid (absb L t (X.take (n + i)) = turn C (T + i)) := by rw [FIN.out, kC]; exact rfl
          clear HF FIN kC
          have g26 := HS.out.2.2.2.1
          have f26 := HS.out.2.2.2.2 26 (by decide)
          obtain ⟨q, eq⟩ : ∃ q : Nat, q = (T + i) % 136 := ⟨_, rfl⟩
          have EQ : Hid (q = (T + i) % 136) := eq
          have h136 : i ≤ 136 := by have := M3.out; omega
          obtain ⟨a2, ha2⟩ : ∃ a2, (if c' = i then some (⟨bd, od + n, none⟩ : Addr) else some ⟨bd, od + n + i, none⟩) = a2 := ⟨_, rfl⟩
          have AT : Hid (At a2 bd (od + (n + i)) (X.drop (n + i))) := by
            by_cases h : c' = i
            · refine .inl (List.drop_eq_nil_of_le ?_)
              have := RL.out; have := HN.out; omega
            · rw [if_neg h] at ha2
              exact .inr (by rw [← ha2, Nat.add_assoc])
          have RR : Hid (X.length - (n + i) = r - i ∧ n + i ≤ X.length ∧ r - i ≤ c' - i ∧ X.length - (n + i) < X.length - n) := by
            have := RL.out; have := HN.out; have := M3.out
            exact ⟨by omega, by omega, by omega, by omega⟩
          by_cases hq : q = 0
          · have q1 : ((T : Int) + (i : Int)) % 136 = 0 := by omega
            have q2 : (((T : Int) + (i : Int)) % 136 == 0) = true := beq_iff_eq.2 q1
            have HQ : Hid (q = 0) := hq
            clear eq hq q1
            have HM : Hid ((lanes C).length = 25) := by rw [lanes_len]; exact HS.out.1
            go_wp2_with (refine wpList_load_mid rfl 148 _ rfl b 1 rfl (lanes C) _ ((HS.out.taken (T + i)).range) Tryz.underlying148 rfl (by rw [HM.out]; kernel_rfl) ?_)
            have HW : Hid (Sp (wr.setCell ⟨b, 26, none⟩ (.int .i64 ((T : Int) + (i : Int)))) b k C (T + i) ∧ Off b w (wr.setCell ⟨b, 26, none⟩ (.int .i64 ((T : Int) + (i : Int))))) := ⟨HS.out.taken (T + i), HO.out.setCell _⟩
            refine calls_world (fun W => Sp W b k C (T + i) ∧ Off b w W) HW.out ?_
            clear HW HS HO g26 f26 q2
            rintro W2 ⟨hs, ho⟩
            refine (perm_any hs.1 _ (ho.tab NN.out.2.1 HH.out.2.1) (ho.lns NN.out.2.2 HH.out.2.2)).mono ?_
            rintro e w3 ⟨rfl, hb⟩
            have HS : Hid (Sp w3 b k C (T + i) ∧ Off b w w3) := ⟨hs.keep hb, ho.trans (.of_below hb)⟩
            clear hs ho hb W2
            have lP : (perm C).length = 25 := perm_len HS.out.1.1
            have LP : Hid ((perm C).length = 25) := lP
            have sz := lanes_size lP
            have tr : w3.there b 1 ((lanes (perm C)).toArray).size := by rw [sz]; exact HS.out.1.there
            have oc := one_lanes (perm C)
            clear lP
            go_wp2_with (refine wpList_store_mid rfl 148 _ _ rfl b 1 _ rfl rfl tr (by rw [sz]; kernel_rfl) oc ?_)
            go_roundg (X.length - (n + i))
            case measure => have := HK.out; have := RR.out; have := RL.out; omega
            case rel =>
              refine ⟨n + i, a2, c' - i, rfl, RR.out.2.1, by rw [RR.out.1], by rw [RR.out.1]; exact RR.out.2.2.1, AT.out, ?_⟩
              rw [FIN2.out]
              rw [turn, if_pos (by have := EQ.out; have := HQ.out; omega), show t + (n + i) = T + i by have := ET.out; omega]
              exact ⟨HS.out.1.stored LP.out, HS.out.2.setCells _⟩
          · have q1 : ¬ ((T : Int) + (i : Int)) % 136 = 0 := by omega
            have q2 : (((T : Int) + (i : Int)) % 136 == 0) = false := beq_eq_false_iff_ne.2 q1
            clear eq q1
            have HQ : Hid (¬ q = 0) := hq
            clear hq
            go_wp2
            go_roundg (X.length - (n + i))
            case measure => have := HK.out; have := RR.out; have := RL.out; omega
            case rel =>
              refine ⟨n + i, a2, c' - i, rfl, RR.out.2.1, by rw [RR.out.1], by rw [RR.out.1]; exact RR.out.2.2.1, AT.out, ?_⟩
              rw [FIN2.out]
              rw [turn, if_neg (by have := EQ.out; have := HQ.out; omega), show t + (n + i) = T + i by have := ET.out; omega]
              exact ⟨HS.out.taken (T + i), HO.out.setCell _⟩
        · have hi' : (i : Int) < m := by omega
          have hlt : i < m := by omega
          have gy := HF.out.2.2 i (by rw [LZ.out]; omega)
          obtain ⟨y, ky⟩ : ∃ y, y = Z.getD i 0 := ⟨_, rfl⟩
          rw [← ky] at gy
          have KY : Hid (mixs A p (Z.take (i + 1)) = mixL (mixs A p (Z.take i)) (p + i) y) := by rw [ky]; exact mixs_next (by rw [LZ.out]; omega)
          obtain ⟨C, kC⟩ : ∃ C, C = mixs A p (Z.take i) := ⟨_, rfl⟩
          have HS : Hid (Sp wr b k C T ∧ Off b w wr ∧ Byo wr bd (od + n) Z) := by rw [kC]; exact HF.out
          rw [← kC] at KY
          clear ky kC HF
          have M5 := M3.out
          go_wp2_with fail
          have lC : C.length = 25 := HS.out.1.1
          rw [show (T : Int) % 136 + (i : Int) = ((p + i : Nat) : Int) by rw [EP.out]; omega]
          refine (mix_any (p := p + i) (z := C.getD ((p + i) / 8) 0) y (by omega) _ (HS.out.1.2.2.1 _ (by omega)) (HS.out.1.2.2.2.2 _ (by omega))).mono ?_
          rintro e w1 ⟨rfl, h1⟩
          have HS2 : Hid (Sp w1 b k (mixs A p (Z.take (i + 1))) T ∧ Off b w w1 ∧ Byo w1 bd (od + n) Z) := by
            rw [KY.out, h1]
            exact ⟨HS.out.1.drew.mix (by omega) y, HS.out.2.1.drew.setCell _, fun j hj => by rw [World.cell?_setCell_far _ _ _ _ NN.out.1.symm]; exact HS.out.2.2 j hj⟩
          clear h1 HS KY lC M5
          go_wp2
          go_roundg (m - (i + 1))
          case measure => have := HK2.out; omega
          case rel => exact ⟨i + 1, rfl, by omega, by go_num, HS2.out⟩

end Go.Proofs.YtpgpciaafjodgaaGreatDoor

import Derived.Test.YtncpjgpioajbeaaDoorSComp
import Derived.Laws.IdiomCopy
import Derived.Test.YtncpjgpioajbeaaDoorSPad
/- What a text makes of a hasher, piece by piece. -/
namespace Go.Proofs.YtncpjgpioajbeaaDoor.S
open Go.RowKit Go.Sort

def restX (X : List (BitVec 8)) : List (BitVec 8) := X.drop (64 * (X.length / 64))
theorem restX_len (X : List (BitVec 8)) : (restX X).length = X.length % 64 := by rw [restX, List.length_drop]; omega
def bkX (X : List (BitVec 8)) : List (BitVec 8) := restX X ++ List.replicate (64 - X.length % 64) 0
theorem bkX_len (X : List (BitVec 8)) : (bkX X).length = 64 := by rw [bkX, List.length_append, restX_len, List.length_replicate]; omega
def stX (X : List (BitVec 8)) : List (BitVec 32) := if X.length < 64 then List.replicate 8 0 else stAt X (X.length / 64)
theorem stX_len (X : List (BitVec 8)) : (stX X).length = 8 := by
  unfold stX
  split
  · simp
  · exact stAt_len _ _
/-- Bytes laid over a block, from p on. -/
def over (K Z : List (BitVec 8)) (p : Nat) : List (BitVec 8) := K.take p ++ (Z ++ K.drop (p + Z.length))
theorem over_len {K Z : List (BitVec 8)} {p : Nat} (h : p + Z.length ≤ K.length) : (over K Z p).length = K.length := by rw [over, List.length_append, List.length_append, List.length_take, List.length_drop]; omega
theorem over_bk {X Z : List (BitVec 8)} : over (bkX X) Z (X.length % 64) = restX X ++ (Z ++ List.replicate (64 - X.length % 64 - Z.length) 0) := by
  rw [over, bkX, List.take_left' (restX_len X), ← List.drop_drop, List.drop_left' (restX_len X), List.drop_replicate]
theorem piece_in {X Z : List (BitVec 8)} (h : X.length % 64 + Z.length < 64) : stX (X ++ Z) = stX X ∧ bkX (X ++ Z) = over (bkX X) Z (X.length % 64) := by
  have e : (X ++ Z).length = X.length + Z.length := List.length_append
  have q : (X.length + Z.length) / 64 = X.length / 64 := by omega
  have m : (X.length + Z.length) % 64 = X.length % 64 + Z.length := by omega
  refine ⟨?_, ?_⟩
  · unfold stX
    rw [e, q, stAt_app _ (by omega)]
    by_cases h6 : X.length < 64
    · rw [if_pos h6, if_pos (by omega)]
    · rw [if_neg h6, if_neg (by omega)]
  · rw [over_bk, bkX, restX, e, q, m, List.drop_append_of_le_length (by omega), restX, List.append_assoc, Nat.sub_sub]
theorem piece_full {X Z : List (BitVec 8)} (h : X.length % 64 + Z.length = 64) : compL (if X.length + Z.length = 64 then hN else stX X) (over (bkX X) Z (X.length % 64)) = stX (X ++ Z) ∧ bkX (X ++ Z) = List.replicate 64 0 := by
  have e : (X ++ Z).length = X.length + Z.length := List.length_append
  have q : (X.length + Z.length) / 64 = X.length / 64 + 1 := by omega
  have m : (X.length + Z.length) % 64 = 0 := by omega
  refine ⟨?_, ?_⟩
  · have hb : over (bkX X) Z (X.length % 64) = blk (X ++ Z) (X.length / 64) := by
      rw [over_bk, blk, List.drop_append_of_le_length (by omega), show 64 - X.length % 64 - Z.length = 0 by omega, List.replicate_zero, List.append_nil, ← restX]
      exact (List.take_of_length_le (by rw [List.length_append, restX_len]; omega)).symm
    have hs : (if X.length + Z.length = 64 then hN else stX X) = stAt X (X.length / 64) := by
      by_cases h6 : X.length + Z.length = 64
      · rw [if_pos h6, show X.length / 64 = 0 by omega]; rfl
      · rw [if_neg h6, stX, if_neg (by omega)]
    rw [hb, hs, stX, e, if_neg (by omega), q, stAt, stAt_app _ (by omega)]
  · rw [bkX, restX, e, q, m, List.drop_eq_nil_of_le (by rw [e]; omega)]
    rfl
/-- Block b holds the hasher that has taken this text in. -/
def Tx (W : World) (b : Nat) (X : List (BitVec 8)) : Prop := Hs W b (stX X) (bkX X) X.length
theorem Hs.part {W : World} {b : Nat} {S : List (BitVec 32)} {K Z : List (BitVec 8)} {T p : Nat} (h : Hs W b S K T) (hp : p + Z.length ≤ 64) : Hs (W.setCells b (8 + p) (byts Z)) b S (over K Z p) T := by
  have hl : (over K Z p).length = 64 := by rw [over_len (by rw [h.kl]; exact hp), h.kl]
  refine ⟨h.sl, hl, fun j hj => ?_, fun j hj => ?_, ?_, h.ls.setCells _ _ _⟩
  · rw [World.cell?_setCells_out _ _ _ _ _ (fun _ _ => .inl (by have := h.sl; show 0 + j < 8 + p; omega))]; exact h.st j hj
  · have tp : (K.take p).length = p := by rw [List.length_take, h.kl]; omega
    have hc := h.bk j (by rw [h.kl]; omega)
    by_cases h1 : j < p
    · rw [World.cell?_setCells_out _ _ _ _ _ (fun _ _ => .inl (by show 8 + j < 8 + p; omega)), hc]
      rw [over, List.getD, List.getD, List.getElem?_append_left (by omega), List.getElem?_take, if_pos h1]
    · by_cases h2 : j < p + Z.length
      · have th : W.there b (8 + p) (byts Z).length := fun i hi => by
          rw [byts_len] at hi
          have := h.thereK (p + i) (by omega)
          rwa [← Nat.add_assoc] at this
        have k := World.rangeAt_setCells_same W b (8 + p) (byts Z) th (j - p) (.int .u8 (Y (Z.getD (j - p) 0))) (by simp [byts, List.getD, show j - p < Z.length by omega])
        rw [show 8 + p + (j - p) = 8 + j by omega] at k
        rw [k, over, List.getD, List.getD, List.getElem?_append_right (by omega), tp, List.getElem?_append_left (by omega)]
      · rw [World.cell?_setCells_out _ _ _ _ _ (fun _ _ => .inr (by rw [byts_len]; show 8 + p + Z.length ≤ 8 + j; omega)), hc]
        rw [over, List.getD, List.getD, List.getElem?_append_right (by omega), tp, List.getElem?_append_right (by omega), List.getElem?_drop, show p + Z.length + (j - p - Z.length) = j by omega]
  · rw [World.cell?_setCells_out _ _ _ _ _ (fun _ _ => .inr (by rw [byts_len]; show 8 + p + Z.length ≤ 72; omega))]; exact h.tk

/-- A copy into a hasher's block. -/
theorem wpList_copy_hs {P : Program} {w : World} {ops : Array Oper} {rest : List Oper} {a : Act} {Q : Exit → Act → World → Prop} {nd : Nat} {tt : TypeId} {pos : String} {after : Array Edge} {d s : Operand} {dT sT elem : TypeId}
    {b p n r dCap m sCap bs os T : Nat} {S : List (BitVec 32)} {K Z X : List (BitVec 8)} (hu : P.underlying dT = some (.slice elem)) (hsz : (P.info? elem).map (·.size) = some 1) (hH : Hs w b S K T) (hX : Byo w bs os X) (hZ : Z = X.take n) (hn : n = min m r) (hm : m = X.length) (hr : p + r = 64)
    (hd : a.eval d = .slice (some ⟨b, 8 + p, none⟩) r dCap) (hs : a.eval s = .slice (some ⟨bs, os, none⟩) m sCap)
    (h : ∀ w', Hs w' b S (over K Z p) T → Off b w w' → wpList P ops Q rest (a.put (some nd) (goInt n)) w') : wpList P ops Q (⟨some nd, .call { callee := .builtin .copy, args := #[d, s], argTypes := #[dT, sT] }, tt, pos, after, none⟩ :: rest) a w := by
  have lZ : Z.length = n := by rw [hZ, List.length_take]; omega
  refine wpList_plain rfl fun K' hK => ?_
  have hrun := run_copy_cells (P := P) w dT sT tt elem b (8 + p) r dCap ⟨bs, os, none⟩ m sCap (byts Z) hu hsz (by rw [byts_len, lZ, hn]) (fun j v hv => by
      unfold byts at hv
      rw [List.getElem?_map] at hv
      obtain ⟨x, hx, rfl⟩ := Option.map_eq_some_iff.1 hv
      have hj : j < Z.length := (List.getElem?_eq_some_iff.1 hx).1
      rw [Addr.add_mid, hX j (by omega)]
      rw [hZ, List.getElem?_take, if_pos (by omega)] at hx
      simp [List.getD, hx]) (fun j hj => by
      rw [byts_len] at hj
      rw [Nat.add_assoc, hH.bk (p + j) (by rw [hH.kl]; omega)]
      rfl) (fun j hj => by
      rw [byts_len] at hj
      rw [Nat.add_assoc]
      exact hH.ls (8 + (p + j)) (by omega)) (fun v hv => by obtain ⟨x, _, rfl⟩ := List.mem_map.1 hv; rfl)
  rw [byts_len, lZ] at hrun
  unfold Oper.wp
  simp [execOp, resolve, invoke, builtin, hd, hs, hrun, Result.andThen]
  exact hK _ _ (h _ (hH.part (by omega)) ((Off.refl _ _).setCells _))

end Go.Proofs.YtncpjgpioajbeaaDoor.S

namespace Go.Proofs.YtncpjgpioajbeaaDoor.S
open Go.RowKit Go.Sort

theorem slice_blk {b p : Nat} (hp : p < 64) (w : World) : (Instr.sliceAt 54 (.pointer (some ⟨b, 8, none⟩)) (some (.int .i64 (p : Int))) none none).run Tryd.prog w = .ok (.slice (some ⟨b, 8 + p, none⟩) (64 - p) (64 - p)) w := by
  have tu := Tryd.underlying54
  have tz := Tryd.sizeOf5
  have hb : (Instr.sliceBounds false 64 64 (some (.int .i64 (p : Int))) none none).run Tryd.prog w = .ok (p, 64, 64) w := by
    have h1 : (p : Int) ≤ 64 := by omega
    simp [Instr.sliceBounds, go_sem, h1]
  have hz : (sizeOf 5).run Tryd.prog w = .ok 1 w := by simp [go_sem, tz]
  simp only [Instr.sliceAt, Instr.sureAddr, Sem.run_bind, Sem.run_pure, Result.andThen_ok, run_underlying tu, hb, hz]
  rw [if_neg (by omega)]
  simp [Addr.add]
set_option maxHeartbeats 4000000 in
theorem write_any {b bd od cd : Nat} {a : Option Addr} {A X : List (BitVec 8)} (ne : bd ≠ b) (nf : 1 ≠ b) (ns : 2 ≠ b) (hs : A.length + X.length < 1073741824) (hc : X.length ≤ cd) (hx : At a bd od X) (w : World) (hS : Tx w b A) (hX : Byo w bd od X) (hf : Wds w 1 0 hN) (hk : Wds w 2 0 kN) :
    Calls Tryd.prog 32 #[.pointer (some ⟨b, 0, none⟩), .slice a X.length cd] w fun e w' => e = .returned (.tuple #[]) ∧ Tx w' b (A ++ X) ∧ Off b w w' := by
  have NN : Hid (bd ≠ b ∧ 1 ≠ b ∧ 2 ≠ b) := ⟨ne, nf, ns⟩
  have HH : Hid (Byo w bd od X ∧ Wds w 1 0 hN ∧ Wds w 2 0 kN) := ⟨hX, hf, hk⟩
  clear ne nf ns hX hf hk
  go_enter Tryd.func32, Tryd.ntmps32
  go_wp2_with fail
  go_loopg [1] X.length (fun g v wr => ∃ (n : Nat) (a' : Option Addr) (c' : Nat), g = X.length - n ∧ n ≤ X.length ∧ v = .slice a' (X.length - n) c' ∧ X.length - n ≤ c' ∧ At a' bd (od + n) (X.drop n) ∧ Tx wr b (A ++ X.take n) ∧ Off b w wr)
  case atStart => exact ⟨0, a, cd, rfl, Nat.zero_le _, rfl, hc, hx, by rw [List.take_zero, List.append_nil]; exact hS, Off.refl _ _⟩
  case round =>
    clear hS hx hc
    obtain ⟨n, a', c', hk, hn, rfl, hc, ha, hS, hO⟩ := hrel
    have HK : Hid (gk = X.length - n) := hk
    have HF : Hid (Tx wr b (A ++ X.take n) ∧ Off b w wr ∧ At a' bd (od + n) (X.drop n)) := ⟨hS, hO, ha⟩
    clear hk hS hO ha
    by_cases h8 : n = X.length
    · subst h8
      have e0 : X.length - X.length = 0 := Nat.sub_self _
      go_wp2
      all_goals go_end0
      all_goals exact ⟨rfl, by have h := HF.out.1; rw [List.take_length] at h; exact h, HF.out.2.1⟩
    · have hd : (X.drop n).length = X.length - n := List.length_drop
      have ea : a' = some ⟨bd, od + n, none⟩ := by
        rcases HF.out.2.2 with h | h
        · rw [h] at hd; simp at hd; omega
        · exact h
      subst ea
      obtain ⟨C, kC⟩ : ∃ C, C = A ++ X.take n := ⟨_, rfl⟩
      have lC : C.length = A.length + n := by rw [kC, List.length_append, List.length_take]; omega
      obtain ⟨D, kD⟩ : ∃ D, D = X.drop n := ⟨_, rfl⟩
      obtain ⟨r, hr⟩ : ∃ r, X.length - n = r := ⟨_, rfl⟩
      have lD : D.length = r := by rw [kD, hd, hr]
      obtain ⟨p, ep⟩ : ∃ p : Nat, p = C.length % 64 := ⟨_, rfl⟩
      obtain ⟨T, eT⟩ : ∃ T : Nat, T = C.length := ⟨_, rfl⟩
      have EP : Hid ((T : Int) % 64 = (p : Int)) := by have h : (T : Int) % 64 = (p : Int) := (by omega); exact h
      obtain ⟨m, em⟩ : ∃ m : Nat, m = min r (64 - p) := ⟨_, rfl⟩
      obtain ⟨Z, kZ⟩ : ∃ Z, Z = D.take m := ⟨_, rfl⟩
      have lZ : Z.length = m := by rw [kZ, List.length_take, lD]; omega
      have HS : Hid (Hs wr b (stX C) (bkX C) T) := by have h := HF.out.1; rw [← kC] at h; rw [eT]; exact h
      have HD : Hid (Byo wr bd (od + n) D ∧ D.length = r ∧ Z = D.take m ∧ Z.length = m ∧ m = min r (64 - p) ∧ p + (64 - p) = 64) := ⟨by rw [kD]; exact (HH.out.1.off HF.out.2.1 NN.out.1).drop, lD, kZ, lZ, em, by omega⟩
      have EC : Hid (A ++ X.take (n + m) = C ++ Z ∧ C.length = T ∧ T % 64 = p) := by
        refine ⟨?_, eT.symm, by omega⟩
        rw [List.take_add, ← List.append_assoc, ← kC, ← kD, ← kZ]
      have HO : Hid (Off b w wr) := HF.out.2.1
      have HN : Hid (n ≤ X.length ∧ ¬ n = X.length ∧ A.length + X.length < 1073741824 ∧ X.length - n = r ∧ r ≤ c' ∧ T = A.length + n ∧ 0 < r) := ⟨hn, h8, hs, hr, by omega, by omega, by omega⟩
      have g72 := HS.out.tk
      have hT : (T : Int) < 1073741824 := by omega
      have r1 : (r : Int) < 1073741824 := by omega
      have r0 : 0 < r := by omega
      have p1 : (T : Int) % 64 ≤ 64 := by omega
      have hp : (p : Int) < 64 := by omega
      have hp2 : p < 64 := by omega
      have hp3 : p ≤ 64 := by omega
      have ep2 : (T : Int) % 64 = (p : Int) := EP.out
      have hp4 : ¬ (64 = p) := by omega
      have hp5 : ¬ (64 - p = 0) := by omega
      rw [hr]
      clear kC lC kD lD ep eT kZ lZ HF hd hn h8 hs em hc hr
      go_wp2_with fail
      refine region_tail 10 (by kernel_rfl) (by kernel_rfl) ?_
      simp only [List.take_succ_cons, List.take_zero, List.drop_succ_cons, List.drop_zero]
      repeat (first | go_big_quiet_skip | (go_big_quiet_want; go_big_quiet_op; go_big_quiet_on))
      rw [EP.out]
      have sla := fun w => slice_blk (b := b) hp2 w
      repeat (first | go_big_quiet_skip | (go_big_quiet_want; go_big_quiet_op; go_big_quiet_on))
      refine wpQuiet_nil ?_
      clear sla g72 ep2 hp hp2 hp3 hp4 hp5 p1
      have isz : (Tryd.prog.info? 5).map (·.size) = some 1 := by kernel_rfl
      refine wpList_copy_hs (dT := 46) (p := p) (n := m) (Z := Z) (X := D) Tryd.underlying46 isz HS.out.drew HD.out.1 HD.out.2.2.1 HD.out.2.2.2.2.1 HD.out.2.1.symm HD.out.2.2.2.2.2 rfl rfl ?_
      intro w2 h2 o2
      have H2 : Hid (Hs w2 b (stX C) (over (bkX C) Z p) T ∧ Off b w w2) := ⟨h2, HO.out.drew.trans o2⟩
      clear h2 o2 HS HO isz
      have g72 := H2.out.1.tk
      have f72 := H2.out.1.ls 72 (by decide)
      have m1 : m ≤ r := by have := HD.out.2.2.2.2.1; omega
      have m2 : m ≤ c' := by have := HN.out; omega
      have m3 : (m : Int) ≤ 64 := by have := HD.out.2.2.2.2.1; omega
      have m4 : 0 < m := by have := HD.out.2.2.2.2; have := HN.out; have := EC.out; omega
      obtain ⟨a2, ha2⟩ : ∃ a2, (if c' = m then some (⟨bd, od + n, none⟩ : Addr) else some ⟨bd, od + n + m, none⟩) = a2 := ⟨_, rfl⟩
      have AT : Hid (At a2 bd (od + (n + m)) (X.drop (n + m))) := by
        by_cases h : c' = m
        · refine .inl (List.drop_eq_nil_of_le ?_)
          have := HN.out; omega
        · rw [if_neg h] at ha2
          exact .inr (by rw [← ha2, Nat.add_assoc])
      have RR : Hid (X.length - (n + m) = r - m ∧ n + m ≤ X.length ∧ r - m ≤ c' - m ∧ X.length - (n + m) < X.length - n) := by
        have := HN.out
        exact ⟨by omega, by omega, by omega, by omega⟩
      obtain ⟨q, eq⟩ : ∃ q : Nat, q = (T + m) % 64 := ⟨_, rfl⟩
      have EQ : Hid (q = (T + m) % 64) := eq
      have PZ : Hid (C.length % 64 + Z.length ≤ 64 ∧ C.length % 64 = p ∧ Z.length = m) := by
        have h1 := EC.out; have h2 := HD.out.2.2.2
        exact ⟨by rw [h1.2.1, h1.2.2, h2.1]; omega, by rw [h1.2.1, h1.2.2], h2.1⟩
      by_cases hq : q = 0
      · have q1 : ((T : Int) + (m : Int)) % 64 = 0 := by omega
        have q2 : (((T : Int) + (m : Int)) % 64 == 0) = true := beq_iff_eq.2 q1
        have FZ : Hid (C.length % 64 + Z.length = 64) := by have h : C.length % 64 + Z.length = 64 := (by have := PZ.out; have := EC.out; omega); exact h
        clear eq q1
        go_wp2_with fail
        have H3 : Hid (Hs (w2.setCell ⟨b, 72, none⟩ (.int .i64 ((T : Int) + (m : Int)))) b (stX C) (over (bkX C) Z p) (T + m) ∧ Off b w (w2.setCell ⟨b, 72, none⟩ (.int .i64 ((T : Int) + (m : Int))))) := ⟨H2.out.1.setT (T + m), H2.out.2.setCell _⟩
        refine calls_world (fun W => Hs W b (stX C) (over (bkX C) Z p) (T + m) ∧ Off b w W) H3.out ?_
        clear H3 H2 g72 f72 q2
        rintro W3 ⟨h3, o3⟩
        refine (close_any (by have := HN.out; omega) NN.out.2.1 NN.out.2.2 _ h3 (HH.out.2.1.off o3 NN.out.2.1) (HH.out.2.2.off o3 NN.out.2.2)).mono ?_
        rintro e w4 ⟨rfl, h4, o4⟩
        have H4 : Hid (Tx w4 b (C ++ Z) ∧ Off b w w4) := by
          obtain ⟨i1, i2⟩ := piece_full FZ.out
          rw [PZ.out.2.1, PZ.out.2.2, EC.out.2.1] at i1
          rw [i1] at h4
          refine ⟨?_, o3.trans o4⟩
          rw [Tx, i2, List.length_append, PZ.out.2.2, EC.out.2.1]
          exact h4
        clear h3 o3 h4 o4 W3
        go_wp2
        go_roundg (X.length - (n + m))
        case measure => have := HK.out; have := RR.out; omega
        case rel =>
          refine ⟨n + m, a2, c' - m, rfl, RR.out.2.1, by rw [RR.out.1], by rw [RR.out.1]; exact RR.out.2.2.1, AT.out, ?_, H4.out.2⟩
          rw [EC.out.1]
          exact H4.out.1
      · have q1 : ¬ ((T : Int) + (m : Int)) % 64 = 0 := by omega
        have q2 : (((T : Int) + (m : Int)) % 64 == 0) = false := beq_eq_false_iff_ne.2 q1
        have FZ : Hid (C.length % 64 + Z.length < 64) := by have h : C.length % 64 + Z.length < 64 := (by have := PZ.out; have := EC.out; omega); exact h
        clear eq q1
        go_wp2
        go_roundg (X.length - (n + m))
        case measure => have := HK.out; have := RR.out; omega
        case rel =>
          refine ⟨n + m, a2, c' - m, rfl, RR.out.2.1, by rw [RR.out.1], by rw [RR.out.1]; exact RR.out.2.2.1, AT.out, ?_, H2.out.2.setCell _⟩
          obtain ⟨i1, i2⟩ := piece_in FZ.out
          rw [EC.out.1, Tx, i1, i2, List.length_append, PZ.out.2.1, PZ.out.2.2, EC.out.2.1]
          exact H2.out.1.setT (T + m)

end Go.Proofs.YtncpjgpioajbeaaDoor.S

namespace Go.Proofs.YtncpjgpioajbeaaDoor.S
open Go.RowKit Go.Sort

/-- A hasher's cells. -/
noncomputable def hcells (S : List (BitVec 32)) (K : List (BitVec 8)) (T : Nat) : List Value := wrds S ++ (byts K ++ [.int .i64 (T : Int)])
theorem hcells_len {S : List (BitVec 32)} {K : List (BitVec 8)} (T : Nat) (h1 : S.length = 8) (h2 : K.length = 64) : (hcells S K T).length = 73 := by simp [hcells, wrds_len, byts_len, h1, h2]
theorem one_hcells (S : List (BitVec 32)) (K : List (BitVec 8)) (T : Nat) : (hcells S K T).toArray.all (·.oneCell') = true := all_oneCell_toArray (by
  intro v hv
  rw [hcells, List.mem_append, List.mem_append] at hv
  rcases hv with h | h | h
  · obtain ⟨x, _, rfl⟩ := List.mem_map.1 h; rfl
  · obtain ⟨x, _, rfl⟩ := List.mem_map.1 h; rfl
  · simp at h; subst h; rfl)
theorem hcells_S {S : List (BitVec 32)} {K : List (BitVec 8)} {T i : Nat} (h1 : S.length = 8) (hi : i < 8) : (hcells S K T)[i]? = some (.int .u32 (U (S.getD i 0))) := by
  rw [hcells, List.getElem?_append_left (by rw [wrds_len]; omega)]
  simp [wrds, List.getD, show i < S.length by omega]
theorem hcells_K {S : List (BitVec 32)} {K : List (BitVec 8)} {T i : Nat} (h1 : S.length = 8) (h2 : K.length = 64) (hi : i < 64) : (hcells S K T)[8 + i]? = some (.int .u8 (Y (K.getD i 0))) := by
  rw [hcells, List.getElem?_append_right (by rw [wrds_len]; omega), wrds_len, h1, Nat.add_sub_cancel_left, List.getElem?_append_left (by rw [byts_len]; omega)]
  simp [byts, List.getD, show i < K.length by omega]
theorem hcells_T {S : List (BitVec 32)} {K : List (BitVec 8)} {T : Nat} (h1 : S.length = 8) (h2 : K.length = 64) : (hcells S K T)[72]? = some (.int .i64 (T : Int)) := by
  rw [hcells, List.getElem?_append_right (by rw [wrds_len]; omega), wrds_len, h1, List.getElem?_append_right (by rw [byts_len]; omega), byts_len, h2]
  rfl
theorem Hs.range {W : World} {b : Nat} {S : List (BitVec 32)} {K : List (BitVec 8)} {T : Nat} (h : Hs W b S K T) : W.rangeAt b 0 (hcells S K T) := by
  intro j v hv
  rw [Nat.zero_add]
  have hj : j < 73 := by
    have := (List.getElem?_eq_some_iff.1 hv).1
    rw [hcells_len T h.sl h.kl] at this
    exact this
  by_cases h1 : j < 8
  · rw [hcells_S h.sl h1] at hv
    have := h.st j (by rw [h.sl]; exact h1)
    rw [Nat.zero_add] at this
    rw [this, hv]
  · by_cases h2 : j < 72
    · obtain ⟨i, rfl⟩ : ∃ i, j = 8 + i := ⟨j - 8, by omega⟩
      rw [hcells_K h.sl h.kl (by omega)] at hv
      rw [h.bk i (by rw [h.kl]; omega), hv]
    · obtain rfl : j = 72 := by omega
      rw [hcells_T h.sl h.kl] at hv
      rw [h.tk, hv]
theorem Hs.of_range {W : World} {b : Nat} {S : List (BitVec 32)} {K : List (BitVec 8)} {T : Nat} (h1 : S.length = 8) (h2 : K.length = 64) (h : W.rangeAt b 0 (hcells S K T)) (hl : Loose W b 73) : Hs W b S K T := by
  refine ⟨h1, h2, fun j hj => ?_, fun j hj => ?_, ?_, hl⟩
  · exact h j _ (hcells_S h1 (by omega))
  · have := h (8 + j) _ (hcells_K h1 h2 (by omega)); rwa [Nat.zero_add] at this
  · have := h 72 _ (hcells_T h1 h2); exact this

theorem zeroHs (w : World) : (zeroValue 60).run Tryd.prog w = .ok (.agg #[.int .u32 0, .int .u32 0, .int .u32 0, .int .u32 0, .int .u32 0, .int .u32 0, .int .u32 0, .int .u32 0, .int .u8 0, .int .u8 0, .int .u8 0, .int .u8 0, .int .u8 0, .int .u8 0, .int .u8 0, .int .u8 0, .int .u8 0, .int .u8 0, .int .u8 0, .int .u8 0, .int .u8 0, .int .u8 0, .int .u8 0, .int .u8 0, .int .u8 0, .int .u8 0, .int .u8 0, .int .u8 0, .int .u8 0, .int .u8 0, .int .u8 0, .int .u8 0, .int .u8 0, .int .u8 0, .int .u8 0, .int .u8 0, .int .u8 0, .int .u8 0, .int .u8 0, .int .u8 0, .int .u8 0, .int .u8 0, .int .u8 0, .int .u8 0, .int .u8 0, .int .u8 0, .int .u8 0, .int .u8 0, .int .u8 0, .int .u8 0, .int .u8 0, .int .u8 0, .int .u8 0, .int .u8 0, .int .u8 0, .int .u8 0, .int .u8 0, .int .u8 0, .int .u8 0, .int .u8 0, .int .u8 0, .int .u8 0, .int .u8 0, .int .u8 0, .int .u8 0, .int .u8 0, .int .u8 0, .int .u8 0, .int .u8 0, .int .u8 0, .int .u8 0, .int .u8 0, .int .i64 0]) w := by
  have h : (Tryd.prog.info? 60).map (·.zero) = some (some (.agg #[.int .u32 0, .int .u32 0, .int .u32 0, .int .u32 0, .int .u32 0, .int .u32 0, .int .u32 0, .int .u32 0, .int .u8 0, .int .u8 0, .int .u8 0, .int .u8 0, .int .u8 0, .int .u8 0, .int .u8 0, .int .u8 0, .int .u8 0, .int .u8 0, .int .u8 0, .int .u8 0, .int .u8 0, .int .u8 0, .int .u8 0, .int .u8 0, .int .u8 0, .int .u8 0, .int .u8 0, .int .u8 0, .int .u8 0, .int .u8 0, .int .u8 0, .int .u8 0, .int .u8 0, .int .u8 0, .int .u8 0, .int .u8 0, .int .u8 0, .int .u8 0, .int .u8 0, .int .u8 0, .int .u8 0, .int .u8 0, .int .u8 0, .int .u8 0, .int .u8 0, .int .u8 0, .int .u8 0, .int .u8 0, .int .u8 0, .int .u8 0, .int .u8 0, .int .u8 0, .int .u8 0, .int .u8 0, .int .u8 0, .int .u8 0, .int .u8 0, .int .u8 0, .int .u8 0, .int .u8 0, .int .u8 0, .int .u8 0, .int .u8 0, .int .u8 0, .int .u8 0, .int .u8 0, .int .u8 0, .int .u8 0, .int .u8 0, .int .u8 0, .int .u8 0, .int .u8 0, .int .i64 0])) := by kernel_rfl
  obtain ⟨i, hi, hz⟩ := Option.map_eq_some_iff.1 h
  simp [zeroValue, typeInfo, go_sem, hi, hz]
theorem there_new {W : World} {b n : Nat} (arr : Array Value) (t : TypeId) (e : b = W.heap.size) (hn : arr.size = n) : (W.alloc (.cells arr t)).there b 0 n := by
  subst e hn
  intro j hj
  rw [Nat.zero_add, World.cell?_alloc_mark]
  refine ⟨?_, by simp [go_sem]⟩
  rw [Array.getElem?_eq_getElem hj]
  rfl
theorem Hs.stored {W : World} {b : Nat} {S : List (BitVec 32)} {K : List (BitVec 8)} {T : Nat} (h1 : S.length = 8) (h2 : K.length = 64) (h : W.there b 0 73) : Hs (W.setCells b 0 (hcells S K T)) b S K T :=
  .of_range h1 h2 (World.rangeAt_setCells_same _ _ _ _ (by rw [hcells_len T h1 h2]; exact h)) (Loose.setCells (fun i hi => by have := (h i hi).2; rwa [Nat.zero_add] at this) _ _ _)

set_option maxRecDepth 100000 in
set_option maxHeartbeats 4000000 in
theorem ssum_any {b : Nat} {X : List (BitVec 8)} (hl : X.length < 1073740000) (w : World) (hX : Tx w b X) (hf : Wds w 1 0 hN) (hk : Wds w 2 0 kN) :
    Calls Tryd.prog 33 #[.pointer (some ⟨b, 0, none⟩)] w fun e w' => e = .returned (.agg (byts (shaL X)).toArray) ∧ Below w.heap.size w w' := by
  have HH : Hid (Tx w b X ∧ Wds w 1 0 hN ∧ Wds w 2 0 kN ∧ X.length < 1073740000 ∧ b < w.heap.size) := ⟨hX, hf, hk, hl, Hs.lt hX⟩
  clear hX hf hk hl
  go_enter Tryd.func33, Tryd.ntmps33
  obtain ⟨N, kN⟩ : ∃ N, N = hcells (stX X) (bkX X) X.length := ⟨_, rfl⟩
  have lN : Hid (N.length = 73) := by rw [kN]; exact hcells_len _ (stX_len X) (bkX_len X)
  have il2 : (Tryd.prog.info? 60).map (·.size) = some N.length := by rw [lN.out]; kernel_rfl
  have sz : N.toArray.size = 73 := by simp [lN.out]
  have il3 : (Tryd.prog.info? 60).map (·.size) = some N.toArray.size := by rw [sz]; kernel_rfl
  have oc : N.toArray.all (·.oneCell') = true := by rw [kN]; exact one_hcells _ _ _
  have KN : Hid (N = hcells (stX X) (bkX X) X.length) := kN
  have rb2 := fun o => (show (w.alloc o).rangeAt b 0 N from by rw [KN.out]; exact (Hs.keep HH.out.1 ((Below.refl _ _).alloc (Nat.le_refl _) o)).range)
  clear kN
  have zh := zeroHs
  go_wp2_with (first
    | ((with_reducible refine wpList_load_at (ty := 60) b 0 N _ (rb2 _) Tryd.underlying60 ?_ il2 ?_ ?_); rfl; rfl; simp only [Act.put, List.setIfInBounds_toArray, List.set_cons_succ, List.set_cons_zero])
    | ((with_reducible refine wpList_store_at (ty := 60) (w.heap.size + 1) 0 N.toArray ?_ il3 oc ?_ ?_ ?_); rw [sz]; exact there_new _ _ (by simp) rfl; rfl; rfl; refine wpList_world (fun W => Below w.heap.size w W ∧ Hsh W w.heap.size (List.replicate 32 0) ∧ Tx W (w.heap.size + 1) X) ⟨below_setCells (by omega) _ 0 _ (((Below.refl _ _).alloc (Nat.le_refl _) _).alloc (by simp) _), ((Hsh.zeros _ rfl).alloc _).otherCells (by omega) _, by rw [KN.out]; exact Hs.stored (stX_len X) (bkX_len X) (there_new _ _ (by simp) rfl)⟩ ?_; intro W2 h2; have H2 : Hid (Below w.heap.size w W2 ∧ Hsh W2 w.heap.size (List.replicate 32 0) ∧ Tx W2 (w.heap.size + 1) X) := h2; have g72 : W2.cell? ⟨b, 72, none⟩ = some (.int .i64 (X.length : Int)) := (by rw [h2.1.cell (p := ⟨b, 72, none⟩) HH.out.2.2.2.2]; exact HH.out.1.tk); clear h2))
  clear il2 il3 sz oc rb2 zh KN lN g72
  refine (pad_any (n := X.length) (by have := HH.out.2.2.2.1; omega) _).mono ?_
  rintro e w3 ⟨rfl, hO, hB⟩
  obtain ⟨P, kP⟩ : ∃ P, P = padL X.length := ⟨_, rfl⟩
  rw [← kP] at hO ⊢
  have H3 : Hid (Below w.heap.size w w3 ∧ Hsh w3 w.heap.size (List.replicate 32 0) ∧ Tx w3 (w.heap.size + 1) X ∧ Byo w3 W2.heap.size 0 P ∧ P.length ≤ 72 ∧ w.heap.size + 1 < W2.heap.size) := by
    refine ⟨H2.out.1.trans (hB.mono H2.out.1.size), H2.out.2.1.keep hB, Hs.keep H2.out.2.2 hB, fun i hi => ?_, ?_, Hs.lt H2.out.2.2⟩
    · rw [Nat.zero_add, hO.row.cellAt i (by omega)]
      simp [byts, List.getD, hi]
    · rw [kP, padL_len]; have := zn_lt X.length; omega
  have EF : Hid (X ++ P = fullX X) := by rw [kP]; exact rfl
  have LF : Hid ((fullX X).length = X.length + P.length ∧ (X.length + P.length) % 64 = 0 ∧ 0 < P.length) := by rw [kP]; exact ⟨fullX_len X, pad_whole _, by rw [padL_len]; omega⟩
  clear hO hB kP H2
  generalize W2.heap.size = bp at *
  go_wp2_with fail
  refine (write_any (b := w.heap.size + 1) (bd := bp) (od := 0) (A := X) (X := P) (by have := H3.out; omega) (by have := HH.out.2.1.lt (by decide); omega) (by have := HH.out.2.2.1.lt (by decide); omega) (by have := H3.out; have := HH.out; omega) (Nat.le_refl _) (.inr rfl) _ H3.out.2.2.1 H3.out.2.2.2.1 (HH.out.2.1.keep H3.out.1) (HH.out.2.2.1.keep H3.out.1)).mono ?_
  rintro e w4 ⟨rfl, h4, o4⟩
  obtain ⟨S, kS⟩ : ∃ S, S = stAt (fullX X) ((fullX X).length / 64) := ⟨_, rfl⟩
  have H4 : Hid (Below w.heap.size w w4 ∧ Hsh w4 w.heap.size (List.replicate 32 0) ∧ Wds w4 (w.heap.size + 1) 0 S ∧ S.length = 8 ∧ shaL X = hashS S) := by
    refine ⟨H3.out.1.trans (o4.below H3.out.1.size (by omega)), H3.out.2.1.off o4 (by omega), ?_, by rw [kS]; exact stAt_len _ _, by rw [kS]; rfl⟩
    rw [EF.out] at h4
    have h := h4.st
    rw [stX, if_neg (by have := LF.out; omega), ← kS] at h
    exact h
  clear h4 o4 H3 kS
  have NN : Hid (w.heap.size ≤ w.heap.size + 1) := by have h : w.heap.size ≤ w.heap.size + 1 := (by omega); exact h
  generalize w.heap.size + 1 = bf at *
  go_wp2_with fail
  refine wp_world (fun W => Below w.heap.size w W ∧ Hsh W w.heap.size (List.replicate 32 0) ∧ Wds W bf 0 S ∧ Hsh W w4.heap.size (List.replicate 32 0)) ⟨H4.out.1.alloc H4.out.1.size _, H4.out.2.1.alloc _, H4.out.2.2.1.alloc _, Hsh.zeros _ rfl⟩ ?_
  rintro W ⟨hB, hR, hA, hO⟩
  have NB : Hid (w4.heap.size ≠ w.heap.size ∧ w4.heap.size ≠ bf ∧ w.heap.size ≤ w4.heap.size) := by
    have h1 := H4.out.2.1.lt
    have h2 := H4.out.2.2.1.lt (by rw [H4.out.2.2.2.1]; decide)
    exact ⟨by omega, by omega, H4.out.1.size⟩
  have HS : Hid (S.length = 8 ∧ shaL X = hashS S) := H4.out.2.2.2
  clear H4 EF LF NN
  generalize w4.heap.size = bo at *
  go_loopg [24] 32 (fun k iv wr => ∃ (i : Nat) (M : List (BitVec 8)), k = 32 - i ∧ i ≤ 32 ∧ iv = .int .i64 i ∧ (∀ t, t < i → M.getD t 0 = cut8 (S.getD (t / 4) 0) (24 - t % 4 * 8)) ∧ Below w.heap.size w wr ∧ Wds wr bf 0 S ∧ Hsh wr w.heap.size (List.replicate 32 0) ∧ Hsh wr bo M)
  case atStart => exact ⟨0, _, rfl, by decide, rfl, fun t h => absurd h (Nat.not_lt_zero _), hB, hA, hR, hO⟩
  case round =>
    clear hB hA hR hO
    obtain ⟨i, M, hk, hi, rfl, up, hf⟩ := hrel
    have HK : Hid (gk = 32 - i) := hk
    have HF : Hid (Below w.heap.size w wr ∧ Wds wr bf 0 S ∧ Hsh wr w.heap.size (List.replicate 32 0) ∧ Hsh wr bo M) := hf
    have UP : Hid (∀ t, t < i → M.getD t 0 = cut8 (S.getD (t / 4) 0) (24 - t % 4 * 8)) := up
    clear hk hf up
    by_cases h8 : i = 32
    · subst h8
      have EL : Hid (M = hashS S) := hashS_ext HF.out.2.2.2.1 UP.out
      have rb := HF.out.2.2.2.range
      have sz : ((byts M).toArray).size = 32 := by simp [byts_len, HF.out.2.2.2.1]
      have tr : wr.there w.heap.size 0 ((byts M).toArray).size := by rw [sz]; exact HF.out.2.2.1.there
      have oc := one_byts M
      obtain ⟨N, kN⟩ : ∃ N, byts M = N := ⟨_, rfl⟩
      rw [kN] at rb sz tr oc
      have HM : Hid (N.length = 32 ∧ byts (shaL X) = N) := ⟨by rw [← kN, byts_len]; exact HF.out.2.2.2.1, by rw [HS.out.2, ← EL.out, kN]⟩
      clear kN
      have il : (Tryd.prog.info? 26).map (·.size) = some N.length := by rw [HM.out.1]; kernel_rfl
      have il3 : (Tryd.prog.info? 26).map (·.size) = some N.toArray.size := by rw [sz]; kernel_rfl
      go_wp2_with (first
        | ((with_reducible refine wpList_load_at (ty := 26) bo 0 N _ rb Tryd.underlying26 ?_ il ?_ ?_); rfl; rfl; simp only [Act.put, List.setIfInBounds_toArray, List.set_cons_succ, List.set_cons_zero])
        | ((with_reducible refine wpList_store_at (ty := 26) w.heap.size 0 N.toArray tr il3 oc ?_ ?_ ?_); rfl; rfl))
      have ld := run_loadVar_mid (P := Tryd.prog) (wr.setCells w.heap.size 0 N) w.heap.size 0 26 N _ (World.rangeAt_setCells_same _ _ _ _ (by simpa using tr)) Tryd.underlying26 rfl il
      refine bodyPost_ret (v := .agg N.toArray) ?_ rfl ⟨by rw [HM.out.2], below_setCells (Nat.le_refl _) N 0 wr HF.out.1⟩
      simp [results, Tryd.results33, Act.put, asAddr, ld]
    · have hi' : (i : Int) < 32 := by omega
      have e1 : ((i : Int) / 4).toNat = i / 4 := by omega
      have e2 : (24 - (i : Int) % 4 * 8).toNat = 24 - i % 4 * 8 := by omega
      have g0 := HF.out.2.1 (i / 4) (by rw [HS.out.1]; omega)
      rw [Nat.zero_add] at g0
      have gs := HF.out.2.2.2.2.1 i (by omega)
      have fs := HF.out.2.2.2.2.2 i (by omega)
      obtain ⟨z, kz⟩ : ∃ z, z = S.getD (i / 4) 0 := ⟨_, rfl⟩
      rw [← kz] at g0
      have KZ : Hid (z = S.getD (i / 4) 0) := kz
      clear kz
      have v0 := U_lo z; have v1 := U_hi z
      have vd := Y_cut z (24 - i % 4 * 8)
      go_wp2
      go_roundg (32 - (i + 1))
      case measure => have := HK.out; omega
      case rel =>
        refine ⟨i + 1, M.set i (cut8 z (24 - i % 4 * 8)), rfl, by omega, by go_num, fun t ht => ?_, HF.out.1.setCell NB.out.2.2 _, HF.out.2.1.other NB.out.2.1 _, HF.out.2.2.1.other NB.out.1 _, HF.out.2.2.2.set i (by omega) _⟩
        by_cases e : t = i
        · subst e; rw [← KZ.out]; simp [List.getD, HF.out.2.2.2.1, show t < 32 by omega]
        · rw [← UP.out t (by omega)]; simp [List.getD, List.getElem?_set_ne (Ne.symm e)]

end Go.Proofs.YtncpjgpioajbeaaDoor.S

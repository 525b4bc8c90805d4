import Derived.Test.YtncpjgpioajbeaaGreatDoorSTx
namespace Go.Proofs.YtncpjgpioajbeaaGreatDoor.S
open Go.RowKit Go.Sort

theorem slice_blk {b p : Nat} (hp : p < 64) (w : World) : (Instr.sliceAt 98 (.pointer (some ⟨b, 8, none⟩)) (some (.int .i64 (p : Int))) none none).run Tryz.prog w = .ok (.slice (some ⟨b, 8 + p, none⟩) (64 - p) (64 - p)) w := by
  have tu := Tryz.underlying98
  have tz := Tryz.sizeOf5
  have hb : (Instr.sliceBounds false 64 64 (some (.int .i64 (p : Int))) none none).run Tryz.prog w = .ok (p, 64, 64) w := by
    have h1 : (p : Int) ≤ 64 := by omega
    simp [Instr.sliceBounds, go_sem, h1]
  have hz : (sizeOf 5).run Tryz.prog w = .ok 1 w := by simp [go_sem, tz]
  simp only [Instr.sliceAt, Instr.sureAddr, Sem.run_bind, Sem.run_pure, Result.andThen_ok, run_underlying tu, hb, hz]
  rw [if_neg (by omega)]
  simp [Addr.add]
set_option maxHeartbeats 4000000 in
theorem write_any {b bd od cd : Nat} {a : Option Addr} {A X : List (BitVec 8)} (ne : bd ≠ b) (nf : 2 ≠ b) (ns : 3 ≠ b) (hs : A.length + X.length < 1073741824) (hc : X.length ≤ cd) (hx : At a bd od X) (w : World) (hS : Tx w b A) (hX : Byo w bd od X) (hf : Wds w 2 0 hN) (hk : Wds w 3 0 kN) :
    Calls Tryz.prog 75 #[.pointer (some ⟨b, 0, none⟩), .slice a X.length cd] w fun e w' => e = .returned (.tuple #[]) ∧ Tx w' b (A ++ X) ∧ Off b w w' := by
  have NN : Hid (bd ≠ b ∧ 2 ≠ b ∧ 3 ≠ b) := ⟨ne, nf, ns⟩
  have HH : Hid (Byo w bd od X ∧ Wds w 2 0 hN ∧ Wds w 3 0 kN) := ⟨hX, hf, hk⟩
  clear ne nf ns hX hf hk
  go_enter Tryz.func75, Tryz.ntmps75
  go_wp2_with fail
  go_loopg [1] X.length (fun g v wr => ∃ (n : Nat) (a' : Option Addr) (c' : Nat), g = X.length - n ∧ n ≤ X.length ∧ v = .slice a' (X.length - n) c' ∧ X.length - n ≤ c' ∧ At a' bd (od + n) (X.drop n) ∧ Tx wr b (A ++ X.take n) ∧ Off b w wr)
  case atStart => exact ⟨0, a, cd, rfl, Nat.zero_le _, rfl, hc, hx, by rw [List.take_zero, List.append_nil]; exact hS, Off.refl _ _⟩
  case round =>
    clear hS hx hc
    obtain ⟨n, a', c', hk, hn, rfl, hc, ha, hS, hO⟩ := hrel
    have HK : Hid (gk = X.length - n) := hk
    have HF : Hid (Tx wr b (A ++ X.take n) ∧ Off b w wr ∧ At a' bd (od + n) (X.drop n)) := ⟨hS, hO, ha⟩
    clear hk hS hO ha
    by_cases h8 : n = X.length
    · subst h8
      have e0 : X.length - X.length = 0 := Nat.sub_self _
      go_wp2
      all_goals go_end0
      all_goals exact ⟨rfl, by have h := HF.out.1; rw [List.take_length] at h; exact h, HF.out.2.1⟩
    · have hd : (X.drop n).length = X.length - n := List.length_drop
      have ea : a' = some ⟨bd, od + n, none⟩ := by
        rcases HF.out.2.2 with h | h
        · rw [h] at hd; simp at hd; omega
        · exact h
      subst ea
      obtain ⟨C, kC⟩ : ∃ C, C = A ++ X.take n := ⟨_, rfl⟩
      have lC : C.length = A.length + n := by rw [kC, List.length_append, List.length_take]; omega
      obtain ⟨D, kD⟩ : ∃ D, D = X.drop n := ⟨_, rfl⟩
      obtain ⟨r, hr⟩ : ∃ r, X.length - n = r := ⟨_, rfl⟩
      have lD : D.length = r := by rw [kD, hd, hr]
      obtain ⟨p, ep⟩ : ∃ p : Nat, p = C.length % 64 := ⟨_, rfl⟩
      obtain ⟨T, eT⟩ : ∃ T : Nat, T = C.length := ⟨_, rfl⟩
      have EP : Hid ((T : Int) % 64 = (p : Int)) := by have h : (T : Int) % 64 = (p : Int) := (by omega); exact h
      obtain ⟨m, em⟩ : ∃ m : Nat, m = min r (64 - p) := ⟨_, rfl⟩
      obtain ⟨Z, kZ⟩ : ∃ Z, Z = D.take m := ⟨_, rfl⟩
      have lZ : Z.length = m := by rw [kZ, List.length_take, lD]; omega
      have HS : Hid (Hs wr b (stX C) (bkX C) T) := by have h := HF.out.1; rw [← kC] at h; rw [eT]; exact h
      have HD : Hid (Byo wr bd (od + n) D ∧ D.length = r ∧ Z = D.take m ∧ Z.length = m ∧ m = min r (64 - p) ∧ p + (64 - p) = 64) := ⟨by rw [kD]; exact (HH.out.1.off HF.out.2.1 NN.out.1).drop, lD, kZ, lZ, em, by omega⟩
      have EC : Hid (A ++ X.take (n + m) = C ++ Z ∧ C.length = T ∧ T % 64 = p) := by
        refine ⟨?_, eT.symm, by omega⟩
        rw [List.take_add, ← List.append_assoc, ← kC, ← kD, ← kZ]
      have HO : Hid (Off b w wr) := HF.out.2.1
      have HN : Hid (n ≤ X.length ∧ ¬ n = X.length ∧ A.length + X.length < 1073741824 ∧ X.length - n = r ∧ r ≤ c' ∧ T = A.length + n ∧ 0 < r) := ⟨hn, h8, hs, hr, by omega, by omega, by omega⟩
      have g72 := HS.out.tk
      have hT : (T : Int) < 1073741824 := by omega
      have r1 : (r : Int) < 1073741824 := by omega
      have r0 : 0 < r := by omega
      have p1 : (T : Int) % 64 ≤ 64 := by omega
      have hp : (p : Int) < 64 := by omega
      have hp2 : p < 64 := by omega
      have hp3 : p ≤ 64 := by omega
      have ep2 : (T : Int) % 64 = (p : Int) := EP.out
      have hp4 : ¬ (64 = p) := by omega
      have hp5 : ¬ (64 - p = 0) := by omega
      rw [hr]
      clear kC lC kD lD ep eT kZ lZ HF hd hn h8 hs em hc hr
      go_wp2_with fail
      refine region_tail 10 (by kernel_rfl) (by kernel_rfl) ?_
      simp only [List.take_succ_cons, List.take_zero, List.drop_succ_cons, List.drop_zero]
      repeat (first | go_big_quiet_skip | (go_big_quiet_want; go_big_quiet_op; go_big_quiet_on))
      rw [EP.out]
      have sla := fun w => slice_blk (b := b) hp2 w
      repeat (first | go_big_quiet_skip | (go_big_quiet_want; go_big_quiet_op; go_big_quiet_on))
      refine wpQuiet_nil ?_
      clear sla g72 ep2 hp hp2 hp3 hp4 hp5 p1
      have isz : (Tryz.prog.info? 5).map (·.size) = some 1 := by kernel_rfl
      refine wpList_copy_hs (dT := 76) (p := p) (n := m) (Z := Z) (X := D) Tryz.underlying76 isz HS.out.drew HD.out.1 HD.out.2.2.1 HD.out.2.2.2.2.1 HD.out.2.1.symm HD.out.2.2.2.2.2 rfl rfl ?_
      intro w2 h2 o2
      have H2 : Hid (Hs w2 b (stX C) (over (bkX C) Z p) T ∧ Off b w w2) := ⟨h2, HO.out.drew.trans o2⟩
      clear h2 o2 HS HO isz
      have g72 := H2.out.1.tk
      have f72 := H2.out.1.ls 72 (by decide)
      have m1 : m ≤ r := by have := HD.out.2.2.2.2.1; omega
      have m2 : m ≤ c' := by have := HN.out; omega
      have m3 : (m : Int) ≤ 64 := by have := HD.out.2.2.2.2.1; omega
      have m4 : 0 < m := by have := HD.out.2.2.2.2; have := HN.out; have := EC.out; omega
      obtain ⟨a2, ha2⟩ : ∃ a2, (if c' = m then some (⟨bd, od + n, none⟩ : Addr) else some ⟨bd, od + n + m, none⟩) = a2 := ⟨_, rfl⟩
      have AT : Hid (At a2 bd (od + (n + m)) (X.drop (n + m))) := by
        by_cases h : c' = m
        · refine .inl (List.drop_eq_nil_of_le ?_)
          have := HN.out; omega
        · rw [if_neg h] at ha2
          exact .inr (by rw [← ha2, Nat.add_assoc])
      have RR : Hid (X.length - (n + m) = r - m ∧ n + m ≤ X.length ∧ r - m ≤ c' - m ∧ X.length - (n + m) < X.length - n) := by
        have := HN.out
        exact ⟨by omega, by omega, by omega, by omega⟩
      obtain ⟨q, eq⟩ : ∃ q : Nat, q = (T + m) % 64 := ⟨_, rfl⟩
      have EQ : Hid (q = (T + m) % 64) := eq
      have PZ : Hid (C.length % 64 + Z.length ≤ 64 ∧ C.length % 64 = p ∧ Z.length = m) := by
        have h1 := EC.out; have h2 := HD.out.2.2.2
        exact ⟨by rw [h1.2.1, h1.2.2, h2.1]; omega, by rw [h1.2.1, h1.2.2], h2.1⟩
      by_cases hq : q = 0
      · have q1 : ((T : Int) + (m : Int)) % 64 = 0 := by omega
        have q2 : (((T : Int) + (m : Int)) % 64 == 0) = true := beq_iff_eq.2 q1
        have FZ : Hid (C.length % 64 + Z.length = 64) := by have h : C.length % 64 + Z.length = 64 := (by have := PZ.out; have := EC.out; omega); exact h
        clear eq q1
        go_wp2_with fail
        have H3 : Hid (Hs (w2.setCell ⟨b, 72, none⟩ (.int .i64 ((T : Int) + (m : Int)))) b (stX C) (over (bkX C) Z p) (T + m) ∧ Off b w (w2.setCell ⟨b, 72, none⟩ (.int .i64 ((T : Int) + (m : Int))))) := ⟨H2.out.1.setT (T + m), H2.out.2.setCell _⟩
        refine calls_world (fun W => Hs W b (stX C) (over (bkX C) Z p) (T + m) ∧ Off b w W) H3.out ?_
        clear H3 H2 g72 f72 q2
        rintro W3 ⟨h3, o3⟩
        refine (close_any (by have := HN.out; omega) NN.out.2.1 NN.out.2.2 _ h3 (HH.out.2.1.off o3 NN.out.2.1) (HH.out.2.2.off o3 NN.out.2.2)).mono ?_
        rintro e w4 ⟨rfl, h4, o4⟩
        have H4 : Hid (Tx w4 b (C ++ Z) ∧ Off b w w4) := by
          obtain ⟨i1, i2⟩ := piece_full FZ.out
          rw [PZ.out.2.1, PZ.out.2.2, EC.out.2.1] at i1
          rw [i1] at h4
          refine ⟨?_, o3.trans o4⟩
          rw [Tx, i2, List.length_append, PZ.out.2.2, EC.out.2.1]
          exact h4
        clear h3 o3 h4 o4 W3
        go_wp2
        go_roundg (X.length - (n + m))
        case measure => have := HK.out; have := RR.out; omega
        case rel =>
          refine ⟨n + m, a2, c' - m, rfl, RR.out.2.1, by rw [RR.out.1], by rw [RR.out.1]; exact RR.out.2.2.1, AT.out, ?_, H4.out.2⟩
          rw [EC.out.1]
          exact H4.out.1
      · have q1 : ¬ ((T : Int) + (m : Int)) % 64 = 0 := by omega
        have q2 : (((T : Int) + (m : Int)) % 64 == 0) = false := beq_eq_false_iff_ne.2 q1
        have FZ : Hid (C.length % 64 + Z.length < 64) := by have h : C.length % 64 + Z.length < 64 := (by have := PZ.out; have := EC.out; omega); exact h
        clear eq q1
        go_wp2
        go_roundg (X.length - (n + m))
        case measure => have := HK.out; have := RR.out; omega
        case rel =>
          refine ⟨n + m, a2, c' - m, rfl, RR.out.2.1, by rw [RR.out.1], by rw [RR.out.1]; exact RR.out.2.2.1, AT.out, ?_, H2.out.2.setCell _⟩
          obtain ⟨i1, i2⟩ := piece_in FZ.out
          rw [EC.out.1, Tx, i1, i2, List.length_append, PZ.out.2.1, PZ.out.2.2, EC.out.2.1]
          exact H2.out.1.setT (T + m)

end Go.Proofs.YtncpjgpioajbeaaGreatDoor.S

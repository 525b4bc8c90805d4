import Derived.Test.YtncpjgpioajbeaaGreatDoorSRRounds
/- The document's Start and Compress. -/
namespace Go.Proofs.YtncpjgpioajbeaaGreatDoor.S
open Go.RowKit Go.Sort

set_option maxRecDepth 100000 in
set_option maxHeartbeats 4000000 in
theorem rstart_any (w : World) : Calls Tryz.prog 158 #[] w fun e w' => e = .returned (.agg (wrds hN).toArray) ∧ Below w.heap.size w w' := by
  obtain ⟨HL, kH⟩ : ∃ L, L = hN := ⟨_, rfl⟩
  have KH : Hid (HL = hN ∧ HL.length = 8) := ⟨kH, by rw [kH]; rfl⟩
  rw [← kH]
  clear kH
  go_enter Tryz.func158, Tryz.ntmps158
  go_wp2_with fail
  refine calls_world (fun W => Below w.heap.size w W ∧ E8 W w.heap.size (List.replicate 8 0)) ⟨(Below.refl _ _).alloc (Nat.le_refl _) _, E8.zeros _ rfl⟩ ?_
  rintro W ⟨b0, hR⟩
  refine (roots_2 _).mono ?_
  rintro e W2 ⟨⟨v, rfl, ho⟩, hb⟩
  rw [← KH.out.1] at ho
  obtain ⟨g, c, rfl, hw, gw⟩ := ho.rw' (by rw [KH.out.2]; decide)
  rw [KH.out.2]
  have H2 : Hid (Below w.heap.size w W2 ∧ E8 W2 w.heap.size (List.replicate 8 0) ∧ Rw W2 g HL) := ⟨b0.trans (hb.mono b0.size), hR.keep hb, hw⟩
  clear hb b0 hR hw gw ho W
  go_wp2_with fail
  refine wp_world (fun V => Below w.heap.size w V ∧ E8 V w.heap.size (List.replicate 8 0) ∧ Rw V g HL ∧ E8 V W2.heap.size (List.replicate 8 0)) ⟨H2.out.1.alloc H2.out.1.size _, H2.out.2.1.allocA _, H2.out.2.2.alloc _, E8.zeros _ rfl⟩ ?_
  have NB : Hid (W2.heap.size ≠ w.heap.size ∧ W2.heap.size ≠ g ∧ w.heap.size ≤ W2.heap.size) := ⟨Nat.ne_of_gt H2.out.2.1.lt, Nat.ne_of_gt (H2.out.2.2.lt (by rw [KH.out.2]; decide)), H2.out.1.size⟩
  clear H2
  rintro V hV
  have HV : Hid (Below w.heap.size w V ∧ E8 V w.heap.size (List.replicate 8 0) ∧ Rw V g HL ∧ E8 V W2.heap.size (List.replicate 8 0)) := hV
  clear hV
  generalize W2.heap.size = bh at *
  clear W2
  go_loopg [3] 8 (fun n iv wr => ∃ (i : Nat) (N : List (BitVec 32)), n = 8 - i ∧ i ≤ 8 ∧ iv = .int .i64 i ∧ (∀ j, j < i → N.getD j 0 = HL.getD j 0) ∧ (Below w.heap.size w wr ∧ E8 wr w.heap.size (List.replicate 8 0) ∧ Rw wr g HL ∧ E8 wr bh N))
  case atStart => exact ⟨0, _, rfl, by decide, rfl, fun j h => absurd h (Nat.not_lt_zero _), HV.out⟩
  case round =>
    clear HV V
    obtain ⟨i, N, hk, hi, rfl, ev, hf⟩ := hrel
    have HK : Hid (gk = 8 - i) := hk
    have EV : Hid (∀ j, j < i → N.getD j 0 = HL.getD j 0) := ev
    have HG : Hid (Below w.heap.size w wr ∧ E8 wr w.heap.size (List.replicate 8 0) ∧ Rw wr g HL ∧ E8 wr bh N) := hf
    clear hk ev hf
    by_cases h8 : i = 8
    · subst h8
      have eN : N = HL := by
        apply List.ext_getElem (by rw [HG.out.2.2.2.1, KH.out.2])
        intro j h1 h2
        have := EV.out j (by rw [HG.out.2.2.2.1] at h1; omega)
        rw [List.getD, List.getElem?_eq_getElem h1, List.getD, List.getElem?_eq_getElem h2] at this
        simpa using this
      subst eN
      have rb := HG.out.2.2.2.2.1.range
      have lN : Hid ((wrds N).length = 8) := by rw [wrds_len]; exact KH.out.2
      have sz : ((wrds N).toArray).size = 8 := by simp [lN.out]
      have oc := one_wrds N
      have il : (Tryz.prog.info? 102).map (·.size) = some ((wrds N).toArray).size := by rw [sz]; kernel_rfl
      have il2 : (Tryz.prog.info? 102).map (·.size) = some (wrds N).length := by rw [lN.out]; kernel_rfl
      have tr : wr.there w.heap.size 0 ((wrds N).toArray).size := by rw [sz]; exact HG.out.2.1.there
      clear EV sz
      go_wp2_with (first | ((with_reducible refine wpList_load_at (ty := 102) bh 0 (wrds N) _ rb Tryz.underlying102 ?_ il2 ?_ ?_); rfl; rfl; simp only [Act.put, List.setIfInBounds_toArray, List.set_cons_succ, List.set_cons_zero]) | ((with_reducible refine wpList_store_at (ty := 102) w.heap.size 0 (wrds N).toArray tr il oc ?_ ?_ ?_); rfl; rfl))
      have ld := run_loadVar_mid (P := Tryz.prog) (wr.setCells w.heap.size 0 (wrds N)) w.heap.size 0 102 (wrds N) _ (World.rangeAt_setCells_same _ _ _ _ (by simpa using tr)) Tryz.underlying102 rfl (by rw [lN.out]; kernel_rfl)
      refine bodyPost_ret (v := .agg (wrds N).toArray) ?_ rfl ⟨rfl, below_setCells (Nat.le_refl _) (wrds N) 0 wr HG.out.1⟩
      simp [results, Tryz.results158, Act.put, asAddr, ld]
    · have hi' : (i : Int) < 8 := by omega
      have gx := HG.out.2.2.1 i (by rw [KH.out.2]; omega)
      have gb := HG.out.2.2.2.at (i := i) (by omega)
      have fx := HG.out.2.2.2.2.2 i (by omega)
      obtain ⟨x, kx⟩ : ∃ x, x = HL.getD i 0 := ⟨_, rfl⟩
      rw [← kx] at gx
      have KX : Hid (x = HL.getD i 0) := kx
      clear kx
      go_wp2
      go_roundg (8 - (i + 1))
      case measure => have := HK.out; omega
      case rel =>
        refine ⟨i + 1, N.set i x, rfl, by omega, by go_num, fun j h1 => ?_, HG.out.1.setCell NB.out.2.2 _, HG.out.2.1.otherA NB.out.1 _, HG.out.2.2.1.other NB.out.2.1 _, HG.out.2.2.2.setA (by omega) _⟩
        by_cases ce : j = i
        · subst ce
          rw [List.getD, List.getElem?_set_self (by rw [HG.out.2.2.2.1]; omega), Option.getD_some]; exact KX.out
        · rw [List.getD, List.getElem?_set_ne (by omega), ← List.getD]; exact EV.out j (by omega)

end Go.Proofs.YtncpjgpioajbeaaGreatDoor.S

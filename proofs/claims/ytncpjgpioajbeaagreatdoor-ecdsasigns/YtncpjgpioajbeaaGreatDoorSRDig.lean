import Derived.Test.YtncpjgpioajbeaaGreatDoorSRPad
import Derived.Test.YtncpjgpioajbeaaGreatDoorSRComp
import Derived.Test.YtncpjgpioajbeaaGreatDoorQTail
/- The document's digest. -/
namespace Go.Proofs.YtncpjgpioajbeaaGreatDoor.S
open Go.RowKit Go.Sort

theorem blk_byo {W : World} {g n : Nat} {F : List (BitVec 8)} (h : Byo W g 0 F) (hn : 64 * n + 64 ≤ F.length) : Byo W g (64 * n) (blk F n) := fun i hi => by
  rw [blk_len hn] at hi
  have := h (64 * n + i) (by omega)
  rw [Nat.zero_add] at this
  rw [this, blk, List.getD, List.getD, List.getElem?_take_of_lt hi, List.getElem?_drop]
set_option maxRecDepth 100000 in
set_option maxHeartbeats 8000000 in
theorem rdig_any {a : Option Addr} {bd od cd : Nat} {X : List (BitVec 8)} (hl : X.length < 1073740000) (hc : X.length ≤ cd) (ha : At a bd od X) (w : World) (hX : Byo w bd od X) :
    Calls Tryz.prog 137 #[.slice a X.length cd] w fun e w' => e = .returned (.agg (byts (shaL X)).toArray) ∧ Below w.heap.size w w' := by
  have HX : Hid (X.length < 1073740000 ∧ X.length ≤ cd ∧ At a bd od X ∧ Byo w bd od X) := ⟨hl, hc, ha, hX⟩
  have hl' : (X.length : Int) < 1073740000 := by omega
  clear hl hc ha hX
  go_enter Tryz.func137, Tryz.ntmps137
  go_wp2_with fail
  refine calls_world (fun W => Below w.heap.size w W ∧ Hsh W w.heap.size (List.replicate 32 0)) ⟨(Below.refl _ _).alloc (Nat.le_refl _) _, Hsh.zeros _ rfl⟩ ?_
  rintro W ⟨b0, hR⟩
  refine (rpad_any (by have := HX.out.1; omega) _).mono ?_
  rintro e w1 ⟨⟨v, rfl, ho⟩, hb⟩
  obtain ⟨gp, cp, rfl, hcp⟩ := own_form ho (by rw [padL_len]; omega)
  have hp : Byo w1 gp 0 (padL X.length) := fun i hi => by
    rw [Nat.zero_add, ho.row.cellAt i (by omega), byts, List.getElem?_map, List.getElem?_eq_getElem hi, List.getD, List.getElem?_eq_getElem hi]; rfl
  have H1 : Hid (Below w.heap.size w w1 ∧ Hsh w1 w.heap.size (List.replicate 32 0) ∧ Byo w1 gp 0 (padL X.length) ∧ (padL X.length).length ≤ cp) := ⟨b0.trans (hb.mono b0.size), hR.keep hb, hp, hcp⟩
  clear hb b0 hR hp hcp ho W
  go_wp2_with fail
  have B1 : ∀ o, Below w1.heap.size w1 (w1.alloc o) := fun o => (Below.refl _ _).alloc (Nat.le_refl _) _
  refine calls_world (fun W => Below w.heap.size w W ∧ Hsh W w.heap.size (List.replicate 32 0) ∧ Prts W w1.heap.size 0 [⟨a, bd, od, cd, X⟩, ⟨some ⟨gp, 0, none⟩, gp, 0, cp, padL X.length⟩]) ⟨H1.out.1.trans ((B1 _).mono H1.out.1.size), H1.out.2.1.keep (B1 _), fun i hi => ?_⟩ ?_
  · have : i = 0 ∨ i = 1 := by have : i < 2 := hi; omega
    rcases this with rfl | rfl
    · exact ⟨by rw [Nat.zero_add, World.cell?_alloc_mark]; rfl, HX.out.2.2.1, HX.out.2.1, (HX.out.2.2.2.keep H1.out.1).keep (B1 _)⟩
    · exact ⟨by rw [Nat.zero_add, World.cell?_alloc_mark]; rfl, .inr rfl, H1.out.2.2.2, H1.out.2.2.1.keep (B1 _)⟩
  rintro W ⟨b0, hR, hP⟩
  have ec : catX [⟨a, bd, od, cd, X⟩, ⟨some ⟨gp, 0, none⟩, gp, 0, cp, padL X.length⟩] = fullX X := by simp [catX, fullX]
  have lf : (fullX X).length = X.length + (zn X.length + 9) := by rw [fullX_len, padL_len]
  have zl := zn_lt X.length
  refine (rjoined_any (PS := [⟨a, bd, od, cd, X⟩, ⟨some ⟨gp, 0, none⟩, gp, 0, cp, padL X.length⟩]) (a := some ⟨w1.heap.size, 0, none⟩) (bp := w1.heap.size) (op := 0) (cp := 2) (by rw [ec, lf]; have := HX.out.1; omega) (by show 2 ≤ _; omega) (.inr rfl) _ hP).mono ?_
  rw [ec]
  rintro e w2 ⟨v, rfl, ho, hb⟩
  obtain ⟨F, kF⟩ : ∃ F, F = fullX X := ⟨_, rfl⟩
  have fm : F.length % 64 = 0 := by rw [kF, fullX_len]; exact pad_whole X.length
  rw [← kF] at ho lf
  obtain ⟨gf, cf, rfl, hcf⟩ := own_form ho (by omega)
  have hF : Byo w2 gf 0 F := fun i hi => by
    rw [Nat.zero_add, ho.row.cellAt i (by omega), byts, List.getElem?_map, List.getElem?_eq_getElem hi, List.getD, List.getElem?_eq_getElem hi]; rfl
  have H2 : Hid (Below w.heap.size w w2 ∧ Hsh w2 w.heap.size (List.replicate 32 0) ∧ Byo w2 gf 0 F) := ⟨b0.trans (hb.mono b0.size), hR.keep hb, hF⟩
  have KF : Hid (F = fullX X) := kF
  have LF : Hid (F.length % 64 = 0 ∧ F.length < 1073741824 ∧ F.length ≤ cf) := ⟨fm, by have := HX.out.1; omega, hcf⟩
  have lfi : (F.length : Int) < 1073741824 := by have := LF.out; omega
  have cfi : (F.length : Int) ≤ (cf : Int) := by omega
  clear hb b0 hR hP hF ho ec lf zl fm kF hcf W H1 B1
  go_wp2_with fail
  refine (roots_3 _).mono ?_
  rintro e w3 ⟨⟨v, rfl, ho⟩, hb⟩
  obtain ⟨gq, ck, rfl, hK, gqq⟩ := ho.rw' (by decide)
  rw [show kN.length = 64 from rfl]
  have H3 : Hid (Below w.heap.size w w3 ∧ Hsh w3 w.heap.size (List.replicate 32 0) ∧ Byo w3 gf 0 F ∧ Rw w3 gq kN) := ⟨H2.out.1.trans (hb.mono H2.out.1.size), H2.out.2.1.keep hb, H2.out.2.2.keep hb, hK⟩
  clear hb ho hK gqq H2
  go_wp2_with fail
  refine (rstart_any _).mono ?_
  rintro e w4 ⟨rfl, hb⟩
  have H4 : Hid (Below w.heap.size w w4 ∧ Hsh w4 w.heap.size (List.replicate 32 0) ∧ Byo w4 gf 0 F ∧ Rw w4 gq kN) := ⟨H3.out.1.trans (hb.mono H3.out.1.size), H3.out.2.1.keep hb, H3.out.2.2.1.keep hb, H3.out.2.2.2.keep hb⟩
  clear hb H3
  obtain ⟨S0, kS0⟩ : ∃ S, S = hN := ⟨_, rfl⟩
  have KS0 : Hid (S0 = hN ∧ S0.length = 8) := ⟨kS0, by rw [kS0]; rfl⟩
  rw [← kS0]
  clear kS0
  have isC : (Tryz.prog.info? 102).map (·.size) = some (wrds S0).toArray.size := by rw [List.size_toArray, wrds_len, KS0.out.2]; kernel_rfl
  have ocC := one_wrds S0
  have thz : ∀ t, (w4.alloc (.cells #[.int .u32 0, .int .u32 0, .int .u32 0, .int .u32 0, .int .u32 0, .int .u32 0, .int .u32 0, .int .u32 0] t)).there w4.heap.size 0 (wrds S0).toArray.size := fun t => by
    rw [show (wrds S0).toArray.size = 8 by simp [wrds_len, KS0.out.2]]; exact (E8.zeros t rfl).there
  have B4 : ∀ t, Below w4.heap.size w4 ((w4.alloc (.cells #[.int .u32 0, .int .u32 0, .int .u32 0, .int .u32 0, .int .u32 0, .int .u32 0, .int .u32 0, .int .u32 0] t)).setCells w4.heap.size 0 (wrds S0)) := fun t => below_setCells (Nat.le_refl _) _ 0 _ ((Below.refl _ _).alloc (Nat.le_refl _) _)
  have F4 : ∀ t, Hid ((Below w.heap.size w ((w4.alloc (.cells #[.int .u32 0, .int .u32 0, .int .u32 0, .int .u32 0, .int .u32 0, .int .u32 0, .int .u32 0, .int .u32 0] t)).setCells w4.heap.size 0 (wrds S0)) ∧ Hsh ((w4.alloc (.cells #[.int .u32 0, .int .u32 0, .int .u32 0, .int .u32 0, .int .u32 0, .int .u32 0, .int .u32 0, .int .u32 0] t)).setCells w4.heap.size 0 (wrds S0)) w.heap.size (List.replicate 32 0) ∧ Byo ((w4.alloc (.cells #[.int .u32 0, .int .u32 0, .int .u32 0, .int .u32 0, .int .u32 0, .int .u32 0, .int .u32 0, .int .u32 0] t)).setCells w4.heap.size 0 (wrds S0)) gf 0 F ∧ Rw ((w4.alloc (.cells #[.int .u32 0, .int .u32 0, .int .u32 0, .int .u32 0, .int .u32 0, .int .u32 0, .int .u32 0, .int .u32 0] t)).setCells w4.heap.size 0 (wrds S0)) gq kN) ∧ E8 ((w4.alloc (.cells #[.int .u32 0, .int .u32 0, .int .u32 0, .int .u32 0, .int .u32 0, .int .u32 0, .int .u32 0, .int .u32 0] t)).setCells w4.heap.size 0 (wrds S0)) w4.heap.size S0) := fun t => ⟨⟨H4.out.1.trans ((B4 t).mono H4.out.1.size), H4.out.2.1.keep (B4 t), H4.out.2.2.1.keep (B4 t), H4.out.2.2.2.keep (B4 t)⟩, (E8.zeros t rfl).stored KS0.out.2⟩
  have NB4 : Hid (w4.heap.size ≠ w.heap.size ∧ w4.heap.size ≠ gf ∧ w4.heap.size ≠ gq ∧ w.heap.size ≤ w4.heap.size) := ⟨Nat.ne_of_gt H4.out.2.1.lt, Nat.ne_of_gt (World.block_lt_of_cell? _ _ (H4.out.2.2.1 0 (by have h := LF.out; have := KF.out; rw [KF.out, fullX_len, padL_len]; omega))), Nat.ne_of_gt (H4.out.2.2.2.lt (by decide)), H4.out.1.size⟩
  clear B4 H4
  go_wp2_with ((with_reducible refine wpList_store_at (ty := 102) w4.heap.size 0 (wrds S0).toArray (thz _) isC ocC ?_ ?_ ?_); rfl; rfl; refine wpList_world (fun W => (Below w.heap.size w W ∧ Hsh W w.heap.size (List.replicate 32 0) ∧ Byo W gf 0 F ∧ Rw W gq kN) ∧ E8 W w4.heap.size S0) (F4 _).out ?_; clear F4 thz isC ocC; rintro W hW)
  have HW : Hid ((Below w.heap.size w W ∧ Hsh W w.heap.size (List.replicate 32 0) ∧ Byo W gf 0 F ∧ Rw W gq kN) ∧ E8 W w4.heap.size (stAt F 0)) := by rw [show stAt F 0 = S0 from KS0.out.1.symm]; exact hW
  clear hW KS0
  generalize w4.heap.size = bs at *
  go_loopg [8] (F.length / 64) (fun k iv wr => ∃ n : Nat, k = F.length / 64 - n ∧ n ≤ F.length / 64 ∧ iv = .int .i64 (64 * (n : Int)) ∧ (Below w.heap.size w wr ∧ Hsh wr w.heap.size (List.replicate 32 0) ∧ Byo wr gf 0 F ∧ Rw wr gq kN) ∧ E8 wr bs (stAt F n))
  case atStart => exact ⟨0, rfl, Nat.zero_le _, rfl, HW.out⟩
  case round =>
    clear HW
    obtain ⟨n, hk, hn, rfl, hf⟩ := hrel
    have HK : Hid (gk = F.length / 64 - n) := hk
    have HQ : Hid (Rw wr gq kN) := hf.1.2.2.2
    have HF : Hid (Below w.heap.size w wr ∧ Hsh wr w.heap.size (List.replicate 32 0) ∧ Byo wr gf 0 F ∧ E8 wr bs (stAt F n)) := ⟨hf.1.1, hf.1.2.1, hf.1.2.2.1, hf.2⟩
    clear hk hf
    by_cases h8 : n = F.length / 64
    · have nx : ¬ (64 * (n : Int) < (F.length : Int)) := by have := LF.out; omega
      clear HQ
      have S8 : Hid (shaL X = hashS (stAt F n) ∧ (stAt F n).length = 8) := ⟨by rw [h8, KF.out]; exact rfl, stAt_len _ _⟩
      have H8 : Hid (E8 wr bs (stAt F n)) := HF.out.2.2.2
      obtain ⟨S, kS⟩ : ∃ S, S = stAt F n := ⟨_, rfl⟩
      rw [← kS] at S8 H8
      have HG : Hid (Below w.heap.size w wr ∧ Hsh wr w.heap.size (List.replicate 32 0)) := ⟨HF.out.1, HF.out.2.1⟩
      clear HF kS h8 hn
      go_wp2_with fail
      refine wp_world (fun W => Below w.heap.size w W ∧ Hsh W w.heap.size (List.replicate 32 0) ∧ Wds W bs 0 S ∧ Hsh W wr.heap.size (List.replicate 32 0)) ⟨HG.out.1.alloc HG.out.1.size _, HG.out.2.alloc _, H8.out.2.1.alloc _, Hsh.zeros _ rfl⟩ ?_
      rintro W ⟨hB, hR, hA, hO⟩
      have NB : Hid (wr.heap.size ≠ w.heap.size ∧ wr.heap.size ≠ bs ∧ w.heap.size ≤ wr.heap.size) := by
        have h1 := HG.out.2.lt
        have h2 := H8.out.lt
        exact ⟨by omega, by omega, HG.out.1.size⟩
      clear HG H8
      generalize wr.heap.size = bo at *
      go_loopg [10] 32 (fun k iv wr => ∃ (i : Nat) (M : List (BitVec 8)), k = 32 - i ∧ i ≤ 32 ∧ iv = .int .i64 i ∧ (∀ t, t < i → M.getD t 0 = cut8 (S.getD (t / 4) 0) (24 - t % 4 * 8)) ∧ Below w.heap.size w wr ∧ Wds wr bs 0 S ∧ Hsh wr w.heap.size (List.replicate 32 0) ∧ Hsh wr bo M)
      case atStart => exact ⟨0, _, rfl, by decide, rfl, fun t h => absurd h (Nat.not_lt_zero _), hB, hA, hR, hO⟩
      case round =>
        clear hB hA hR hO
        obtain ⟨i, M, hk, hi, rfl, up, hf⟩ := hrel
        have HK2 : Hid (gk = 32 - i) := hk
        have HF : Hid (Below w.heap.size w wr ∧ Wds wr bs 0 S ∧ Hsh wr w.heap.size (List.replicate 32 0) ∧ Hsh wr bo M) := hf
        have UP : Hid (∀ t, t < i → M.getD t 0 = cut8 (S.getD (t / 4) 0) (24 - t % 4 * 8)) := up
        clear hk hf up
        by_cases h9 : i = 32
        · subst h9
          have EL : Hid (M = hashS S) := hashS_ext HF.out.2.2.2.1 UP.out
          have rb := HF.out.2.2.2.range
          have sz : ((byts M).toArray).size = 32 := by simp [byts_len, HF.out.2.2.2.1]
          have tr : wr.there w.heap.size 0 ((byts M).toArray).size := by rw [sz]; exact HF.out.2.2.1.there
          have oc := one_byts M
          obtain ⟨N, kN⟩ : ∃ N, byts M = N := ⟨_, rfl⟩
          rw [kN] at rb sz tr oc
          have HM : Hid (N.length = 32 ∧ byts (shaL X) = N) := ⟨by rw [← kN, byts_len]; exact HF.out.2.2.2.1, by rw [S8.out.1, ← EL.out, kN]⟩
          clear kN
          have il : (Tryz.prog.info? 26).map (·.size) = some N.length := by rw [HM.out.1]; kernel_rfl
          have il3 : (Tryz.prog.info? 26).map (·.size) = some N.toArray.size := by rw [sz]; kernel_rfl
          go_wp2_with (first
            | ((with_reducible refine wpList_load_at (ty := 26) bo 0 N _ rb Tryz.underlying26 ?_ il ?_ ?_); rfl; rfl; simp only [Act.put, List.setIfInBounds_toArray, List.set_cons_succ, List.set_cons_zero])
            | ((with_reducible refine wpList_store_at (ty := 26) w.heap.size 0 N.toArray tr il3 oc ?_ ?_ ?_); rfl; rfl))
          have ld := run_loadVar_mid (P := Tryz.prog) (wr.setCells w.heap.size 0 N) w.heap.size 0 26 N _ (World.rangeAt_setCells_same _ _ _ _ (by simpa using tr)) Tryz.underlying26 rfl il
          refine bodyPost_ret (v := .agg N.toArray) ?_ rfl ⟨by rw [HM.out.2], below_setCells (Nat.le_refl _) N 0 wr HF.out.1⟩
          simp [results, Tryz.results137, Act.put, asAddr, ld]
        · have hi' : (i : Int) < 32 := by omega
          have e1 : ((i : Int) / 4).toNat = i / 4 := by omega
          have e2 : (24 - 8 * ((i : Int) % 4)).toNat = 24 - i % 4 * 8 := by omega
          have g0 := HF.out.2.1 (i / 4) (by rw [S8.out.2]; omega)
          rw [Nat.zero_add] at g0
          have gs := HF.out.2.2.2.2.1 i (by omega)
          have fs := HF.out.2.2.2.2.2 i (by omega)
          obtain ⟨z, kz⟩ : ∃ z, z = S.getD (i / 4) 0 := ⟨_, rfl⟩
          rw [← kz] at g0
          have KZ : Hid (z = S.getD (i / 4) 0) := kz
          clear kz
          have v0 := U_lo z; have v1 := U_hi z
          have vd := Y_cut z (24 - i % 4 * 8)
          go_wp2
          go_roundg (32 - (i + 1))
          case measure => have := HK2.out; omega
          case rel =>
            refine ⟨i + 1, M.set i (cut8 z (24 - i % 4 * 8)), rfl, by omega, by go_num, fun t ht => ?_, HF.out.1.setCell NB.out.2.2 _, HF.out.2.1.other NB.out.2.1 _, HF.out.2.2.1.other NB.out.1 _, HF.out.2.2.2.set i (by omega) _⟩
            by_cases e : t = i
            · subst e; rw [← KZ.out]; simp [List.getD, HF.out.2.2.2.1, show t < 32 by omega]
            · rw [← UP.out t (by omega)]; simp [List.getD, List.getElem?_set_ne (Ne.symm e)]
    · have hx : 64 * n + 64 ≤ F.length := by have := LF.out; omega
      have NX : Hid (stAt F (n + 1) = compL (stAt F n) (blk F n)) := rfl
      have HB : Hid ((blk F n).length = 64 ∧ 64 * n + 64 ≤ F.length ∧ n < F.length / 64) := ⟨blk_len hx, hx, by omega⟩
      have lS := stAt_len F n
      obtain ⟨S, kS⟩ : ∃ S, S = stAt F n := ⟨_, rfl⟩
      rw [← kS] at HF NX lS
      clear kS
      obtain ⟨s0, s1, s2, s3, s4, s5, s6, s7, rfl⟩ := eight lS
      have RC : Hid (∀ W, Byo W gf 0 F → Rw W gq kN → Calls Tryz.prog 159 #[.agg #[.int .u32 (U s0), .int .u32 (U s1), .int .u32 (U s2), .int .u32 (U s3), .int .u32 (U s4), .int .u32 (U s5), .int .u32 (U s6), .int .u32 (U s7)], .slice (some ⟨gf, 64 * n, none⟩) 64 (cf - 64 * n), .slice (some ⟨gq, 0, none⟩) 64 ck] W fun e w' => e = .returned (.agg (wrds (compL [s0, s1, s2, s3, s4, s5, s6, s7] (blk F n))).toArray) ∧ Below W.heap.size W w') := fun W h1 h2 => rounds_any (S := [s0, s1, s2, s3, s4, s5, s6, s7]) rfl HB.out.1 W (blk_byo h1 HB.out.2.1) h2
      obtain ⟨N, kN'⟩ : ∃ N, N = compL [s0, s1, s2, s3, s4, s5, s6, s7] (blk F n) := ⟨_, rfl⟩
      rw [← kN'] at RC NX
      have LN : Hid (N.length = 8) := by rw [kN']; exact compL_len _ _
      clear kN' lS
      obtain ⟨x, ex⟩ : ∃ x : Nat, x = 64 * n := ⟨_, rfl⟩
      have e64 : 64 * (n : Int) = (x : Int) := by omega
      have EX : Hid (x = 64 * n) := ex
      rw [← ex] at RC
      rw [e64]
      have x1 : (x : Int) < (F.length : Int) := by omega
      have x2 : (x : Int) + 64 ≤ (cf : Int) := by have := LF.out; omega
      have x3 : (x : Int) < 1073741824 := by omega
      have x4 : ((x : Int) + 64).toNat = x + 64 := by omega
      have kF : ∀ d os, Byo (grow (redrawn wr d) os) gf 0 F := fun d os => HF.out.2.2.1.keep (below_regrown wr d os)
      have kQ : ∀ d os, Rw (grow (redrawn wr d) os) gq kN := fun d os => HQ.out.keep (below_regrown wr d os)
      have g0 : wr.cell? ⟨bs, 0, none⟩ = some (.int .u32 (U s0)) := HF.out.2.2.2.at (i := 0) (by decide)
      have r0 := fun d os => cell_regrown g0 d os
      clear g0
      have g1 : wr.cell? ⟨bs, 1, none⟩ = some (.int .u32 (U s1)) := HF.out.2.2.2.at (i := 1) (by decide)
      have r1 := fun d os => cell_regrown g1 d os
      clear g1
      have g2 : wr.cell? ⟨bs, 2, none⟩ = some (.int .u32 (U s2)) := HF.out.2.2.2.at (i := 2) (by decide)
      have r2 := fun d os => cell_regrown g2 d os
      clear g2
      have g3 : wr.cell? ⟨bs, 3, none⟩ = some (.int .u32 (U s3)) := HF.out.2.2.2.at (i := 3) (by decide)
      have r3 := fun d os => cell_regrown g3 d os
      clear g3
      have g4 : wr.cell? ⟨bs, 4, none⟩ = some (.int .u32 (U s4)) := HF.out.2.2.2.at (i := 4) (by decide)
      have r4 := fun d os => cell_regrown g4 d os
      clear g4
      have g5 : wr.cell? ⟨bs, 5, none⟩ = some (.int .u32 (U s5)) := HF.out.2.2.2.at (i := 5) (by decide)
      have r5 := fun d os => cell_regrown g5 d os
      clear g5
      have g6 : wr.cell? ⟨bs, 6, none⟩ = some (.int .u32 (U s6)) := HF.out.2.2.2.at (i := 6) (by decide)
      have r6 := fun d os => cell_regrown g6 d os
      clear g6
      have g7 : wr.cell? ⟨bs, 7, none⟩ = some (.int .u32 (U s7)) := HF.out.2.2.2.at (i := 7) (by decide)
      have r7 := fun d os => cell_regrown g7 d os
      clear g7
      clear ex e64 hx h8 hn
      go_wp2_with fail
      refine below_tail 8 (by kernel_rfl) (by kernel_rfl) ?_
      simp only [List.take_succ_cons, List.take_zero, List.drop_succ_cons, List.drop_zero]
      repeat
        first
          | go_big_quiet_skip
          | (go_big_quiet_want; go_big_quiet_op; go_big_quiet_on)
          | (go_big_quiet_want
             go_big_quiet_op
             apply Exists.intro
             refine ⟨fun p => ?_, ?_⟩
             · (go_at_call 159; with_reducible exact Calls.regrown_of (RC.out _ (kF p.d p.os) (kQ p.d p.os)))
             go_big_quiet_on)
      refine wpQuiet_nil ?_
      rintro w5 ⟨p, rfl⟩
      have hb := below_regrown wr p.d p.os
      have H5 : Hid (Below w.heap.size w (grow (redrawn wr p.d) p.os) ∧ Hsh (grow (redrawn wr p.d) p.os) w.heap.size (List.replicate 32 0) ∧ Byo (grow (redrawn wr p.d) p.os) gf 0 F ∧ E8 (grow (redrawn wr p.d) p.os) bs [s0, s1, s2, s3, s4, s5, s6, s7] ∧ Rw (grow (redrawn wr p.d) p.os) gq kN) := ⟨HF.out.1.trans (hb.mono HF.out.1.size), HF.out.2.1.keep hb, HF.out.2.2.1.keep hb, HF.out.2.2.2.keep hb, HQ.out.keep hb⟩
      generalize grow (redrawn wr p.d) p.os = w5 at *
      clear hb HF HQ kF kQ RC r0 r1 r2 r3 r4 r5 r6 r7
      have isN : (Tryz.prog.info? 102).map (·.size) = some (wrds N).toArray.size := by rw [List.size_toArray, wrds_len, LN.out]; kernel_rfl
      have ocN := one_wrds N
      have tr : w5.there bs 0 (wrds N).toArray.size := by rw [show (wrds N).toArray.size = 8 by simp [wrds_len, LN.out]]; exact H5.out.2.2.2.1.there
      have F5 : Hid (Below w.heap.size w (w5.setCells bs 0 (wrds N)) ∧ Hsh (w5.setCells bs 0 (wrds N)) w.heap.size (List.replicate 32 0) ∧ Byo (w5.setCells bs 0 (wrds N)) gf 0 F ∧ E8 (w5.setCells bs 0 (wrds N)) bs N ∧ Rw (w5.setCells bs 0 (wrds N)) gq kN) := ⟨below_setCells NB4.out.2.2.2 _ 0 _ H5.out.1, H5.out.2.1.otherCells NB4.out.1 _, fun i hi => by rw [World.cell?_setCells_out _ _ _ _ _ (fun e => absurd e.symm NB4.out.2.1)]; exact H5.out.2.2.1 i hi, H5.out.2.2.2.1.stored LN.out, H5.out.2.2.2.2.otherCells NB4.out.2.2.1 _⟩
      go_wp2_with ((with_reducible refine wpList_store_at (ty := 102) bs 0 (wrds N).toArray tr isN ocN ?_ ?_ ?_); rfl; rfl; refine wpList_world (fun W => Below w.heap.size w W ∧ Hsh W w.heap.size (List.replicate 32 0) ∧ Byo W gf 0 F ∧ E8 W bs N ∧ Rw W gq kN) F5.out ?_; clear F5 tr isN ocN; rintro W' hW')
      have HW' : Hid (Below w.heap.size w W' ∧ Hsh W' w.heap.size (List.replicate 32 0) ∧ Byo W' gf 0 F ∧ E8 W' bs N ∧ Rw W' gq kN) := hW'
      clear hW' H5
      go_roundg (F.length / 64 - (n + 1))
      case measure => have := HK.out; have := HB.out; omega
      case rel => exact ⟨n + 1, rfl, by have := HB.out; omega, by congr 1; have := EX.out; omega, ⟨HW'.out.1, HW'.out.2.1, HW'.out.2.2.1, HW'.out.2.2.2.2⟩, by rw [NX.out]; exact HW'.out.2.2.2.1⟩
end Go.Proofs.YtncpjgpioajbeaaGreatDoor.S

import Derived.Test.YtndefnomefdhoaaBmA
import Derived.Test.YtndefnomefdhoaaQTail
/- The document's filters. -/
namespace Go.Proofs.Ytndefnomefdhoaa
open Go.RowKit Go.Sort

set_option maxRecDepth 100000 in
set_option maxHeartbeats 4000000 in
theorem rset_any {F : List (BitVec 8)} {x : Int} (hl : F.length = 256) (h0 : 0 ≤ x) (h1 : x < 2048) (w : World) :
    Calls Try.prog 19 #[.agg (byts F).toArray, .int .i64 x] w fun e w' => e = .returned (.agg (byts (setF F x.toNat)).toArray) ∧ Below w.heap.size w w' := by
  obtain ⟨j, rfl⟩ := Int.eq_ofNat_of_zero_le h0
  rw [Int.toNat_natCast]
  obtain ⟨N, hN⟩ : ∃ N, N = byts (setF F j) := ⟨_, rfl⟩
  rw [← hN]
  have lS : (setF F j).length = 256 := by rw [setF_len]; exact hl
  have LN : Hid (N = byts (setF F j) ∧ N.length = 256) := ⟨hN, by rw [hN, byts_len]; exact lS⟩
  have ic := size_bloom lS
  have ia := size_bloomA lS
  have oc := one_byts (setF F j)
  rw [← hN] at ic ia oc
  have sz : N.toArray.size = 256 := by simp [LN.out.2]
  have HJ : Hid (j < 2048 ∧ F.length = 256) := ⟨show j < 2048 by omega, hl⟩
  have hj1 : (j : Int) < 2048 := h1
  have e0 : (255 - (j : Int) / 8).toNat = atF j := by rw [atF]; omega
  have l1 : ((atF j : Nat) : Int) < 256 := by have := atF_lt j; omega
  have c1 : w.heap.size + 1 ≠ w.heap.size := by omega
  have YO : Hid (∀ y, bits .or .u8 (Y y) (2 ^ (j % 8) % 256) = Y (y ||| wtF j)) := fun y => by rw [Y_one (show j % 8 < 8 by omega), Y_or]; rfl
  have NX : Hid (∀ W xv, xv = Y (F.getD (atF j) 0) → Below w.heap.size w W → Blm W w.heap.size F → Blm W (w.heap.size + 1) zF → Below w.heap.size w (W.setCell ⟨w.heap.size, atF j, none⟩ (.int .u8 (bits .or .u8 xv (2 ^ (j % 8) % 256)))) ∧ (W.setCell ⟨w.heap.size, atF j, none⟩ (.int .u8 (bits .or .u8 xv (2 ^ (j % 8) % 256)))).rangeAt w.heap.size 0 N ∧ (W.setCell ⟨w.heap.size, atF j, none⟩ (.int .u8 (bits .or .u8 xv (2 ^ (j % 8) % 256)))).there (w.heap.size + 1) 0 N.toArray.size) := fun W xv e B hF hR => by
    subst e
    rw [YO.out, sz, LN.out.1]
    exact ⟨B.setCell (Nat.le_refl _) _, (hF.set (atF j) (atF_lt j) _).range, (hR.other (by omega) _).there⟩
  clear h0 h1 hl hN lS YO
  go_enter Try.func19, Try.ntmps19
  go_wp2_with (first | (refine wpList_alloc_zero rfl 24 rfl _ zero_bloom ?_; refine wpList_world (fun W => Below w.heap.size w W ∧ Blm W w.heap.size F ∧ Blm W (w.heap.size + 1) zF) ⟨((Below.refl _ _).alloc (Nat.le_refl _) _).alloc (by simp) _, (Blm.new HJ.out.2 _ rfl).alloc _, Blm.new zF_len _ (by simp)⟩ ?_; rintro W ⟨B, hF, hR⟩; have gx := hF.2.1 (atF j) (atF_lt j); have fx := hF.2.2 (atF j) (atF_lt j); obtain ⟨xv, hxv⟩ : ∃ xv, xv = Y (F.getD (atF j) 0) := ⟨_, rfl⟩; obtain ⟨n1, n2, n3⟩ := NX.out W xv hxv B hF hR; rw [← hxv] at gx; have M1 : Hid (Below w.heap.size w (W.setCell ⟨w.heap.size, atF j, none⟩ (.int .u8 (bits .or .u8 xv (2 ^ (j % 8) % 256))))) := n1; clear B hF hR hxv n1 NX) | refine wpList_load_mid rfl 24 _ rfl w.heap.size 0 rfl N _ n2 Try.underlying24 rfl ic ?_ | refine wpList_store_mid rfl 24 _ _ rfl (w.heap.size + 1) 0 _ rfl rfl n3 ia oc ?_)
  have ld := run_loadVar_mid (P := Try.prog) _ (w.heap.size + 1) 0 24 N _ (World.rangeAt_setCells_same _ _ _ _ (by simpa using n3)) Try.underlying24 rfl ic
  refine bodyPost_ret (v := .agg N.toArray) ?_ rfl ⟨rfl, below_setCells (by omega) N 0 _ M1.out⟩
  simp [results, Try.results19, Act.put, asAddr, ld]

set_option maxRecDepth 100000 in
set_option maxHeartbeats 4000000 in
theorem rmake_any {a : Option Addr} {bp op cp : Nat} {L : List Int} (hn : L.length < 70368744177664) (ha : AtI a bp op L) (w : World) (hL : Ixs w bp op L) :
    Calls Try.prog 7 #[.slice a L.length cp] w fun e w' => e = .returned (.tuple #[.agg (byts (mkF L zF).1).toArray, .int .i64 (mkF L zF).2]) ∧ Below w.heap.size w w' := by
  have HH : Hid (Ixs w bp op L ∧ AtI a bp op L ∧ L.length < 70368744177664) := ⟨hL, ha, hn⟩
  have KL : Hid (∀ W, Below w.heap.size w W → Ixs W bp op L) := fun W B i hi => by
    rw [B.cell (p := ⟨bp, op + i, none⟩) (World.block_lt_of_cell? w _ (HH.out.1 i hi))]; exact HH.out.1 i hi
  have n1 : (L.length : Int) < 70368744177664 := by omega
  clear hL ha hn
  obtain ⟨R, hR⟩ : ∃ R, R = mkF L zF := ⟨_, rfl⟩
  have HR : Hid (R = mkF L zF ∧ R.1.length = 256) := ⟨hR, by rw [hR]; exact mkF_len _ _ zF_len⟩
  rw [← hR]
  clear hR
  go_enter Try.func7, Try.ntmps7
  go_wp2_with (refine wpList_alloc_zero rfl 24 rfl _ zero_bloom ?_)
  refine wp_world (fun W => Below w.heap.size w W ∧ Blm W w.heap.size zF ∧ Blm W (w.heap.size + 1) zF) ⟨((Below.refl _ _).alloc (Nat.le_refl _) _).alloc (by simp) _, (Blm.new zF_len _ rfl).alloc _, Blm.new zF_len _ (by simp)⟩ ?_
  rintro W ⟨B, hR, hF⟩
  have o1 : w.heap.size ≤ w.heap.size + 1 := by omega
  have c1 : w.heap.size ≠ w.heap.size + 1 := by omega
  generalize w.heap.size + 1 = bf at *
  go_loopg [5] L.length (fun k iv wr => ∃ (i : Nat) (F : List (BitVec 8)), k = L.length - i ∧ i ≤ L.length ∧ iv = .int .i64 i ∧ mkF (L.drop i) F = R ∧ Below w.heap.size w wr ∧ Blm wr w.heap.size zF ∧ Blm wr bf F)
  case atStart => exact ⟨0, zF, rfl, Nat.zero_le _, rfl, HR.out.1.symm, B, hR, hF⟩
  case round =>
    clear B hR hF
    obtain ⟨i, F, hk, hi, rfl, ev, B, hR, hF⟩ := hrel
    have HK : Hid (gk = L.length - i) := hk
    have EV : Hid (mkF (L.drop i) F = R) := ev
    clear hk ev
    by_cases h8 : i = L.length
    · subst h8
      have e : R = (F, 0) := by rw [← EV.out, List.drop_length]; rfl
      clear EV HR
      subst e
      have rb := hF.range
      have tr := hR.there
      have ic := size_bloom hF.1
      have ia := size_bloomA hF.1
      have oc := one_byts F
      have lc : (byts F).length = 256 := by rw [byts_len, hF.1]
      have LC : Hid ((byts F).length = 256) := lc
      obtain ⟨N, hN⟩ : ∃ N, N = byts F := ⟨_, rfl⟩
      rw [← hN] at rb ic ia oc LC
      have HN : Hid (N = byts F) := hN
      clear hN
      have sz : N.toArray.size = 256 := by simp [LC.out]
      have tr' : wr.there w.heap.size 0 N.toArray.size := by rw [sz]; exact tr
      have B' := B
      clear lc tr hF hR B
      go_wp2_with (first | refine wpList_load_mid rfl 24 _ rfl bf 0 rfl N _ rb Try.underlying24 rfl ic ?_ | refine wpList_store_mid rfl 24 _ _ rfl w.heap.size 0 _ rfl rfl tr' ia oc ?_)
      have ld := run_loadVar_mid (P := Try.prog) (wr.setCells w.heap.size 0 N) w.heap.size 0 24 N _ (World.rangeAt_setCells_same _ _ _ _ (by simpa using tr')) Try.underlying24 rfl ic
      refine bodyPost_ret (v := .tuple #[.agg N.toArray, .int .i64 0]) ?_ rfl ⟨by rw [HN.out], below_setCells (Nat.le_refl _) N 0 wr B'⟩
      simp [results, Try.results7, asAddr, ld]
    · have hlt : i < L.length := by omega
      have hlt' : (i : Int) < (L.length : Int) := by omega
      have gx := KL.out wr B i hlt
      obtain rfl : a = some ⟨bp, op, none⟩ := by
        rcases HH.out.2.1 with e | e
        · rw [e] at hlt; simp at hlt
        · exact e
      have M1 := mkF_at hlt F
      rw [EV.out] at M1
      have HM : Hid (R = if 0 ≤ L.getD i 0 ∧ L.getD i 0 < 2048 then mkF (L.drop (i + 1)) (setF F (L.getD i 0).toNat) else (zF, 1)) := M1
      clear M1
      generalize L.getD i 0 = x at *
      by_cases hx : 0 ≤ x ∧ x < 2048
      · obtain ⟨hx0, hx1⟩ := hx
        have HF : Hid (Blm wr bf F ∧ Blm wr w.heap.size zF ∧ Below w.heap.size w wr) := ⟨hF, hR, B⟩
        have rb : ∀ w', (∃ p : Regrown, w' = grow (redrawn wr p.d) p.os) → w'.rangeAt bf 0 (byts F) := by rintro w' ⟨p, rfl⟩; exact (hF.grown _ _).range
        have ic := size_bloom hF.1
        have gx' : ∀ d os, (grow (redrawn wr d) os).cell? ⟨bp, op + i, none⟩ = some (.int .i64 x) := fun d os => cell_keep (below_regrown wr d os) gx
        have RC : Hid (∀ W, Calls Try.prog 19 #[.agg (byts F).toArray, .int .i64 x] W fun e w' => e = .returned (.agg (byts (setF F x.toNat)).toArray) ∧ Below W.heap.size W w') := fun W => rset_any hF.1 hx0 hx1 W
        clear hF hR B
        have d1 : ¬ (x < 0) := by omega
        have d2 : ¬ (2048 ≤ x) := by omega
        have e1 : decide (x < 0) = false := decide_eq_false d1
        have e2 : decide (2048 ≤ x) = false := decide_eq_false d2
        go_wp2_with fail
        refine below_tail 6 (by kernel_rfl) (by kernel_rfl) ?_
        simp only [List.take_succ_cons, List.take_zero, List.drop_succ_cons, List.drop_zero]
        repeat
          first
            | go_big_quiet_skip
            | (go_big_quiet_want; go_big_quiet_op; go_big_quiet_on)
            | (go_big_quiet_want; refine quiet_load_mid 24 _ rfl bf 0 rfl (byts F) _ rb Try.underlying24 rfl ic ?_; simp only [Act.put, List.setIfInBounds_toArray, List.set_cons_succ, List.set_cons_zero]; go_big_quiet_on)
            | (go_big_quiet_want
               go_big_quiet_op
               apply Exists.intro
               refine ⟨fun p => ?_, ?_⟩
               · (go_at_call 19; with_reducible exact Calls.regrown_of (RC.out (grow (redrawn wr p.d) p.os)))
               go_big_quiet_on)
        refine wpQuiet_nil ?_
        rintro w4 ⟨p, rfl⟩
        have h4 := HF.out.1.grown p.d p.os
        have r4 := HF.out.2.1.grown p.d p.os
        have b4 := HF.out.2.2.trans ((below_regrown wr p.d p.os).mono HF.out.2.2.size)
        generalize grow (redrawn wr p.d) p.os = w4 at *
        have lS : (setF F x.toNat).length = 256 := by rw [setF_len]; exact h4.1
        have ia := size_bloomA lS
        have oc := one_byts (setF F x.toNat)
        have NX : Hid (Blm (w4.setCells bf 0 (byts (setF F x.toNat))) bf (setF F x.toNat) ∧ Blm (w4.setCells bf 0 (byts (setF F x.toNat))) w.heap.size zF ∧ Below w.heap.size w (w4.setCells bf 0 (byts (setF F x.toNat)))) := ⟨h4.stored lS, r4.otherCells (Ne.symm c1) _, below_setCells o1 _ 0 w4 b4⟩
        have sz : (byts (setF F x.toNat)).toArray.size = 256 := by rw [List.size_toArray, byts_len, lS]
        have tr' : w4.there bf 0 (byts (setF F x.toNat)).toArray.size := by rw [sz]; exact h4.there
        have EX : Hid (mkF (L.drop (i + 1)) (setF F x.toNat) = R) := (HM.out.trans (if_pos ⟨hx0, hx1⟩)).symm
        clear h4 r4 b4 rb ic gx' RC HF HM EV gx
        go_wp2_with (refine wpList_store_mid rfl 24 _ _ rfl bf 0 _ rfl rfl tr' ia oc ?_)
        go_roundg (L.length - (i + 1))
        case measure => have := HK.out; omega
        case rel => exact ⟨i + 1, setF F x.toNat, rfl, by omega, by go_num, EX.out, NX.out.2.2, NX.out.2.1, NX.out.1⟩
      · have e : R = (zF, 1) := by rw [HM.out, if_neg hx]
        clear HM EV HR
        subst e
        have tr := hR.there
        have ic := size_bloom zF_len
        have ia := size_bloomA zF_len
        have oc := one_byts zF
        have LC : Hid ((byts zF).length = 256) := (byts_len _).trans zF_len
        have bz := built_bloom
        obtain ⟨N, hN⟩ : ∃ N, N = byts zF := ⟨_, rfl⟩
        rw [← hN] at ic ia oc LC bz
        have HN : Hid (N = byts zF) := hN
        clear hN
        have sz : N.toArray.size = 256 := by simp [LC.out]
        have tr' : wr.there w.heap.size 0 N.toArray.size := by rw [sz]; exact tr
        have B' := B
        clear tr hF hR B
        rcases (show x < 0 ∨ (¬ x < 0 ∧ 2048 ≤ x) by omega) with h | ⟨h, h'⟩
        · go_wp2_with (first | refine wpList_build_zero rfl 24 rfl _ bz ?_ | refine wpList_store_mid rfl 24 _ _ rfl w.heap.size 0 _ rfl rfl tr' ia oc ?_)
          have ld := run_loadVar_mid (P := Try.prog) (wr.setCells w.heap.size 0 N) w.heap.size 0 24 N _ (World.rangeAt_setCells_same _ _ _ _ (by simpa using tr')) Try.underlying24 rfl ic
          refine bodyPost_ret (v := .tuple #[.agg N.toArray, .int .i64 1]) ?_ rfl ⟨by rw [HN.out], below_setCells (Nat.le_refl _) N 0 wr B'⟩
          simp [results, Try.results7, asAddr, ld]
        · have e1 : decide (x < 0) = false := decide_eq_false h
          have e2 : decide (2048 ≤ x) = true := decide_eq_true h'
          go_wp2_with (first | refine wpList_build_zero rfl 24 rfl _ bz ?_ | refine wpList_store_mid rfl 24 _ _ rfl w.heap.size 0 _ rfl rfl tr' ia oc ?_)
          have ld := run_loadVar_mid (P := Try.prog) (wr.setCells w.heap.size 0 N) w.heap.size 0 24 N _ (World.rangeAt_setCells_same _ _ _ _ (by simpa using tr')) Try.underlying24 rfl ic
          refine bodyPost_ret (v := .tuple #[.agg N.toArray, .int .i64 1]) ?_ rfl ⟨by rw [HN.out], below_setCells (Nat.le_refl _) N 0 wr B'⟩
          simp [results, Try.results7, asAddr, ld]
end Go.Proofs.Ytndefnomefdhoaa

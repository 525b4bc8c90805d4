import Derived.Test.YtncpjgpioajbeaaGreatDoorSComp2
import Derived.Test.YtncpjgpioajbeaaGreatDoorQTail
/- A hasher in a block; what a text makes of it. -/
namespace Go.Proofs.YtncpjgpioajbeaaGreatDoor.S
open Go.RowKit Go.Sort

/-- Block b holds a hasher: a state, a block, how many bytes are taken. -/
structure Hs (W : World) (b : Nat) (S : List (BitVec 32)) (K : List (BitVec 8)) (T : Nat) : Prop where
  sl : S.length = 8
  kl : K.length = 64
  st : Wds W b 0 S
  bk : Byo W b 8 K
  tk : W.cell? ⟨b, 72, none⟩ = some (.int .i64 (T : Int))
  ls : Loose W b 73
section
variable {W : World} {b : Nat} {S : List (BitVec 32)} {K : List (BitVec 8)} {T : Nat}
theorem Hs.lt (h : Hs W b S K T) : b < W.heap.size := World.block_lt_of_cell? W _ h.tk
theorem Hs.keep {w1 : World} (h : Hs W b S K T) (hb : Below W.heap.size W w1) : Hs w1 b S K T := ⟨h.sl, h.kl, h.st.keep hb, h.bk.keep hb, cell_keep hb h.tk, h.ls.keep hb h.lt⟩
theorem Hs.drew (h : Hs W b S K T) : Hs W.drew b S K T := ⟨h.sl, h.kl, h.st, h.bk, h.tk, h.ls⟩
theorem Hs.thereS (h : Hs W b S K T) : W.there b 0 8 := h.st.there (fun i hi => by rw [Nat.zero_add]; exact h.ls i (by omega)) h.sl
theorem Hs.thereK (h : Hs W b S K T) : W.there b 8 64 := fun j hj => ⟨by rw [h.bk j (by rw [h.kl]; exact hj)]; rfl, h.ls (8 + j) (by omega)⟩
theorem Hs.setS (h : Hs W b S K T) {M : List (BitVec 32)} (hl : M.length = 8) : Hs (W.setCells b 0 (wrds M)) b M K T := by
  refine ⟨hl, h.kl, Wds.stored (by rw [hl]; exact h.thereS), fun j hj => ?_, ?_, h.ls.setCells _ _ _⟩
  · rw [World.cell?_setCells_out _ _ _ _ _ (fun _ _ => .inr (by rw [wrds_len, hl]; show 0 + 8 ≤ 8 + j; omega))]; exact h.bk j hj
  · rw [World.cell?_setCells_out _ _ _ _ _ (fun _ _ => .inr (by rw [wrds_len, hl]; show 0 + 8 ≤ 72; omega))]; exact h.tk
theorem Hs.setK (h : Hs W b S K T) {M : List (BitVec 8)} (hl : M.length = 64) : Hs (W.setCells b 8 (byts M)) b S M T := by
  refine ⟨h.sl, hl, fun j hj => ?_, fun j hj => ?_, ?_, h.ls.setCells _ _ _⟩
  · rw [World.cell?_setCells_out _ _ _ _ _ (fun _ _ => .inl (by have := h.sl; show 0 + j < 8; omega))]; exact h.st j hj
  · exact World.rangeAt_setCells_same W b 8 (byts M) (by rw [byts_len, hl]; exact h.thereK) j (.int .u8 (Y (M.getD j 0))) (by simp [byts, List.getD, hj])
  · rw [World.cell?_setCells_out _ _ _ _ _ (fun _ _ => .inr (by rw [byts_len, hl]; show 8 + 64 ≤ 72; omega))]; exact h.tk
theorem Hs.setT (h : Hs W b S K T) (T' : Nat) : Hs (W.setCell ⟨b, 72, none⟩ (.int .i64 (T' : Int))) b S K T' := by
  refine ⟨h.sl, h.kl, fun j hj => ?_, fun j hj => ?_, World.cell?_setCell_same _ _ _ h.tk, h.ls.set _ _⟩
  · rw [World.cell?_setCell_other _ _ _ _ (by have := h.sl; intro e; have := congrArg Addr.off e; simp at this; omega)]; exact h.st j hj
  · rw [World.cell?_setCell_other _ _ _ _ (by have := h.kl; intro e; have := congrArg Addr.off e; simp at this; omega)]; exact h.bk j hj
end

set_option maxRecDepth 100000 in
set_option maxHeartbeats 1000000 in
theorem start_any (w : World) (hh : Wds w 2 0 hN) :
    Calls Tryz.prog 129 #[] w fun e w' => e = .returned (.agg (wrds hN).toArray) ∧ Below w.heap.size w w' := by
  have rb := hh.range
  have il2 : (Tryz.prog.info? 102).map (·.size) = some (wrds hN).length := by rw [wrds_len]; kernel_rfl
  have sz : ((wrds hN).toArray).size = 8 := by simp [wrds_len, hN]
  have il3 : (Tryz.prog.info? 102).map (·.size) = some ((wrds hN).toArray).size := by rw [sz]; kernel_rfl
  have oc := one_wrds hN
  have LN : Hid ((wrds hN).length = 8) := by rw [wrds_len]; exact rfl
  obtain ⟨N, kN⟩ : ∃ N, wrds hN = N := ⟨_, rfl⟩
  rw [kN] at rb il2 sz il3 oc LN
  have EN : Hid (wrds hN = N) := kN
  clear kN
  have rb2 := fun o => (show (w.alloc o).rangeAt 2 0 N from fun j v hv => cell_keep ((Below.refl _ _).alloc (Nat.le_refl _) o) (rb j v hv))
  go_enter Tryz.func129, Tryz.ntmps129
  go_wp2_with (first
    | ((with_reducible refine wpList_load_at (ty := 102) 2 0 N _ (rb2 _) Tryz.underlying102 ?_ il2 ?_ ?_); rfl; rfl; simp only [Act.put, List.setIfInBounds_toArray, List.set_cons_succ, List.set_cons_zero])
    | ((with_reducible refine wpList_store_at (ty := 102) w.heap.size 0 N.toArray ?_ il3 oc ?_ ?_ ?_); rw [sz]; exact (E8.zeros _ rfl).there; rfl; rfl))
  have tr : (w.alloc (.cells #[.int .u32 0, .int .u32 0, .int .u32 0, .int .u32 0, .int .u32 0, .int .u32 0, .int .u32 0, .int .u32 0] 102)).there w.heap.size 0 N.length := by rw [LN.out]; exact (E8.zeros _ rfl).there
  have ld := run_loadVar_mid (P := Tryz.prog) ((w.alloc (.cells #[.int .u32 0, .int .u32 0, .int .u32 0, .int .u32 0, .int .u32 0, .int .u32 0, .int .u32 0, .int .u32 0] 102)).setCells w.heap.size 0 N) w.heap.size 0 102 N _ (World.rangeAt_setCells_same _ _ _ _ tr) Tryz.underlying102 rfl il2
  refine bodyPost_ret (v := .agg N.toArray) ?_ rfl ⟨by rw [EN.out], below_setCells (Nat.le_refl _) N 0 _ ((Below.refl _ _).alloc (Nat.le_refl _) _)⟩
  simp [results, Tryz.results129, Act.put, asAddr, ld]

theorem exit_world {K : Act → World → Prop} {Q : Exit → Act → World → Prop} {x : Exit} {a : Act} {w : World} (S : World → Prop) (h : S w) (k : ∀ W, S W → Exit.then K Q x a W) : Exit.then K Q x a w := k w h
theorem zeros64b : (byts (List.replicate 64 0)).toArray = #[.int .u8 0, .int .u8 0, .int .u8 0, .int .u8 0, .int .u8 0, .int .u8 0, .int .u8 0, .int .u8 0, .int .u8 0, .int .u8 0, .int .u8 0, .int .u8 0, .int .u8 0, .int .u8 0, .int .u8 0, .int .u8 0, .int .u8 0, .int .u8 0, .int .u8 0, .int .u8 0, .int .u8 0, .int .u8 0, .int .u8 0, .int .u8 0, .int .u8 0, .int .u8 0, .int .u8 0, .int .u8 0, .int .u8 0, .int .u8 0, .int .u8 0, .int .u8 0, .int .u8 0, .int .u8 0, .int .u8 0, .int .u8 0, .int .u8 0, .int .u8 0, .int .u8 0, .int .u8 0, .int .u8 0, .int .u8 0, .int .u8 0, .int .u8 0, .int .u8 0, .int .u8 0, .int .u8 0, .int .u8 0, .int .u8 0, .int .u8 0, .int .u8 0, .int .u8 0, .int .u8 0, .int .u8 0, .int .u8 0, .int .u8 0, .int .u8 0, .int .u8 0, .int .u8 0, .int .u8 0, .int .u8 0, .int .u8 0, .int .u8 0, .int .u8 0] := by
  have h : Y 0#8 = 0 := Y_zero
  simp [byts, List.replicate, h]

def seven (s0 s1 s2 s3 s4 s5 s6 s7 : BitVec 32) : List (BitVec 32) := [s0, s1, s2, s3, s4, s5, s6, s7]

set_option maxHeartbeats 4000000 in
/-- The full block goes into the state: from the call of Compress on. -/
theorem comp_b {b T : Nat} {S : List (BitVec 32)} {K : List (BitVec 8)} (w : World) (hH : Hs w b S K T) (hk : Wds w 3 0 kN) :
    Calls Tryz.prog 130 #[.agg (wrds S).toArray, .slice (some ⟨b, 8, none⟩) 64 64] w fun e w' => e = .returned (.tuple #[.agg (wrds (compL S K)).toArray, .int .i64 0]) ∧ Below w.heap.size w w' := comp_any hH.sl hH.kl w hH.bk hk

set_option maxRecDepth 100000 in
set_option maxHeartbeats 4000000 in
theorem close_any {b T : Nat} {S : List (BitVec 32)} {K : List (BitVec 8)} (hT : T < 1073741824) (nf : 2 ≠ b) (ns : 3 ≠ b) (w : World) (hH : Hs w b S K T) (hf : Wds w 2 0 hN) (hk : Wds w 3 0 kN) :
    Calls Tryz.prog 107 #[.pointer (some ⟨b, 0, none⟩)] w fun e w' => e = .returned (.tuple #[]) ∧ Hs w' b (compL (if T = 64 then hN else S) K) (List.replicate 64 0) T ∧ Off b w w' := by
  have HH : Hid (Hs w b S K T ∧ Wds w 2 0 hN ∧ Wds w 3 0 kN ∧ 2 ≠ b ∧ 3 ≠ b) := ⟨hH, hf, hk, nf, ns⟩
  have gt := hH.tk
  have hT' : (T : Int) < 1073741824 := by omega
  have sz : ((byts (List.replicate 64 0)).toArray).size = 64 := by simp [byts_len]
  have oc := one_byts (List.replicate 64 0)
  have il : (Tryz.prog.info? 98).map (·.size) = some ((byts (List.replicate 64 0)).toArray).size := by rw [sz]; kernel_rfl
  have HZ : Hid (byts (List.replicate 64 0) = (#[.int .u8 0, .int .u8 0, .int .u8 0, .int .u8 0, .int .u8 0, .int .u8 0, .int .u8 0, .int .u8 0, .int .u8 0, .int .u8 0, .int .u8 0, .int .u8 0, .int .u8 0, .int .u8 0, .int .u8 0, .int .u8 0, .int .u8 0, .int .u8 0, .int .u8 0, .int .u8 0, .int .u8 0, .int .u8 0, .int .u8 0, .int .u8 0, .int .u8 0, .int .u8 0, .int .u8 0, .int .u8 0, .int .u8 0, .int .u8 0, .int .u8 0, .int .u8 0, .int .u8 0, .int .u8 0, .int .u8 0, .int .u8 0, .int .u8 0, .int .u8 0, .int .u8 0, .int .u8 0, .int .u8 0, .int .u8 0, .int .u8 0, .int .u8 0, .int .u8 0, .int .u8 0, .int .u8 0, .int .u8 0, .int .u8 0, .int .u8 0, .int .u8 0, .int .u8 0, .int .u8 0, .int .u8 0, .int .u8 0, .int .u8 0, .int .u8 0, .int .u8 0, .int .u8 0, .int .u8 0, .int .u8 0, .int .u8 0, .int .u8 0, .int .u8 0] : Array Value).toList) := by rw [← zeros64b]; exact rfl
  rw [zeros64b] at oc il
  clear hH hf hk nf ns hT
  go_enter Tryz.func107, Tryz.ntmps107
  by_cases h64 : T = 64
  · have d1 : ((T : Int) == 64) = true := beq_iff_eq.2 (by omega)
    have HT : Hid (T = 64) := h64
    rw [if_pos h64]
    clear h64
    go_wp2_with fail
    refine (start_any _ HH.out.2.1).mono ?_
    rintro e w1 ⟨rfl, hb⟩
    have H1 : Hid (Below w.heap.size w w1 ∧ Hs w1 b S K T) := ⟨hb, HH.out.1.keep hb⟩
    clear hb
    have oh := one_wrds hN
    have sh : ((wrds hN).toArray).size = 8 := by simp [wrds_len, hN]
    have ih : (Tryz.prog.info? 102).map (·.size) = some ((wrds hN).toArray).size := by rw [sh]; kernel_rfl
    have th : w1.there b 0 (wrds hN).toArray.size := by rw [sh]; exact H1.out.2.thereS
    go_wp2_with ((with_reducible refine wpList_store_at (ty := 102) b 0 _ th ih oh ?_ ?_ ?_); rfl; rfl; refine wpList_world (fun W => Hs W b hN K T ∧ Off b w W ∧ Wds W 3 0 kN) ⟨H1.out.2.setS rfl, (Off.of_below H1.out.1).setCells _, (HH.out.2.2.1.keep H1.out.1).otherCells HH.out.2.2.2.2.symm _⟩ ?_; intro w2 h2; have FF : Hid (Hs w2 b hN K T ∧ Off b w w2 ∧ Wds w2 3 0 kN) := h2; clear h2)
    simp only [Act.put]
    clear oh sh ih th gt
    obtain ⟨s0, s1, s2, s3, s4, s5, s6, s7, eS⟩ := eight FF.out.1.sl
    obtain ⟨m0, m1, m2, m3, m4, m5, m6, m7, eM⟩ := eight (compL_len (hN) K)
    have EM : Hid (compL (hN) K = [m0, m1, m2, m3, m4, m5, m6, m7]) := eM
    have CC : Hid (∀ W, W = w2.drew → Calls Tryz.prog 130 #[.agg #[.int .u32 (U s0), .int .u32 (U s1), .int .u32 (U s2), .int .u32 (U s3), .int .u32 (U s4), .int .u32 (U s5), .int .u32 (U s6), .int .u32 (U s7)], .slice (some ⟨b, 8, none⟩) 64 64] W fun e w' => e = .returned (.tuple #[.agg #[.int .u32 (U m0), .int .u32 (U m1), .int .u32 (U m2), .int .u32 (U m3), .int .u32 (U m4), .int .u32 (U m5), .int .u32 (U m6), .int .u32 (U m7)], .int .i64 0]) ∧ Below w2.heap.size w2 w') := by
      rintro W rfl
      have h := comp_b w2.drew FF.out.1.drew FF.out.2.2
      rw [eM, eS] at h
      exact h.mono fun _ _ ⟨h1, h2⟩ => ⟨h1, (Below.refl _ _).drew.trans h2⟩
    have FS : Hid (Hs w2 b [s0, s1, s2, s3, s4, s5, s6, s7] K T) := by rw [← eS]; exact FF.out.1
    clear eM eS
    have c0 : w2.cell? ⟨b, 0, none⟩ = some (.int .u32 (U s0)) := FS.out.st 0 (by show 0 < 8; decide)
    have f0 := FS.out.ls 0 (by decide)
    have c1 : w2.cell? ⟨b, 1, none⟩ = some (.int .u32 (U s1)) := FS.out.st 1 (by show 1 < 8; decide)
    have f1 := FS.out.ls 1 (by decide)
    have c2 : w2.cell? ⟨b, 2, none⟩ = some (.int .u32 (U s2)) := FS.out.st 2 (by show 2 < 8; decide)
    have f2 := FS.out.ls 2 (by decide)
    have c3 : w2.cell? ⟨b, 3, none⟩ = some (.int .u32 (U s3)) := FS.out.st 3 (by show 3 < 8; decide)
    have f3 := FS.out.ls 3 (by decide)
    have c4 : w2.cell? ⟨b, 4, none⟩ = some (.int .u32 (U s4)) := FS.out.st 4 (by show 4 < 8; decide)
    have f4 := FS.out.ls 4 (by decide)
    have c5 : w2.cell? ⟨b, 5, none⟩ = some (.int .u32 (U s5)) := FS.out.st 5 (by show 5 < 8; decide)
    have f5 := FS.out.ls 5 (by decide)
    have c6 : w2.cell? ⟨b, 6, none⟩ = some (.int .u32 (U s6)) := FS.out.st 6 (by show 6 < 8; decide)
    have f6 := FS.out.ls 6 (by decide)
    have c7 : w2.cell? ⟨b, 7, none⟩ = some (.int .u32 (U s7)) := FS.out.st 7 (by show 7 < 8; decide)
    have f7 := FS.out.ls 7 (by decide)
    go_region_with (go_at_call 130; refine (CC.out _ rfl).mono ?_; rintro e wc ⟨rfl, hb⟩; have HC : Hid (Below w2.heap.size w2 wc ∧ Hs wc b [s0, s1, s2, s3, s4, s5, s6, s7] K T) := ⟨hb, FS.out.keep hb⟩; clear hb c0 c1 c2 c3 c4 c5 c6 c7 f0 f1 f2 f3 f4 f5 f6 f7; have c0 : wc.cell? ⟨b, 0, none⟩ = some (.int .u32 (U s0)) := HC.out.2.st 0 (by show 0 < 8; decide); have f0 := HC.out.2.ls 0 (by decide); have c1 : wc.cell? ⟨b, 1, none⟩ = some (.int .u32 (U s1)) := HC.out.2.st 1 (by show 1 < 8; decide); have f1 := HC.out.2.ls 1 (by decide); have c2 : wc.cell? ⟨b, 2, none⟩ = some (.int .u32 (U s2)) := HC.out.2.st 2 (by show 2 < 8; decide); have f2 := HC.out.2.ls 2 (by decide); have c3 : wc.cell? ⟨b, 3, none⟩ = some (.int .u32 (U s3)) := HC.out.2.st 3 (by show 3 < 8; decide); have f3 := HC.out.2.ls 3 (by decide); have c4 : wc.cell? ⟨b, 4, none⟩ = some (.int .u32 (U s4)) := HC.out.2.st 4 (by show 4 < 8; decide); have f4 := HC.out.2.ls 4 (by decide); have c5 : wc.cell? ⟨b, 5, none⟩ = some (.int .u32 (U s5)) := HC.out.2.st 5 (by show 5 < 8; decide); have f5 := HC.out.2.ls 5 (by decide); have c6 : wc.cell? ⟨b, 6, none⟩ = some (.int .u32 (U s6)) := HC.out.2.st 6 (by show 6 < 8; decide); have f6 := HC.out.2.ls 6 (by decide); have c7 : wc.cell? ⟨b, 7, none⟩ = some (.int .u32 (U s7)) := HC.out.2.st 7 (by show 7 < 8; decide); have f7 := HC.out.2.ls 7 (by decide))
    all_goals
      refine exit_world (fun W => Hs W b [m0, m1, m2, m3, m4, m5, m6, m7] K T ∧ Off b w W) ⟨HC.out.2.setS (M := [m0, m1, m2, m3, m4, m5, m6, m7]) rfl, (FF.out.2.1.trans (.of_below HC.out.1)).setCells (o := 0) (wrds [m0, m1, m2, m3, m4, m5, m6, m7])⟩ ?_
      rintro wd ⟨hs, ho⟩
      have HD : Hid (Hs wd b [m0, m1, m2, m3, m4, m5, m6, m7] K T ∧ Off b w wd) := ⟨hs, ho⟩
      have tr : wd.there b 8 (byts (List.replicate 64 0)).toArray.size := by rw [sz]; exact hs.thereK
      clear hs ho c0 c1 c2 c3 c4 c5 c6 c7 f0 f1 f2 f3 f4 f5 f6 f7
      rw [zeros64b] at tr
      go_wp2_with ((with_reducible refine wpList_store_at (ty := 98) b 8 _ tr il oc ?_ ?_ ?_); rfl; rfl)
      all_goals go_end0
      all_goals refine ⟨rfl, ?_, ?_⟩
      · have h := HD.out.1.setK (M := List.replicate 64 0) (by simp)
        rw [HZ.out] at h
        rw [EM.out]
        exact h
      · exact HD.out.2.setCells _
  · have d1 : ((T : Int) == 64) = false := beq_eq_false_iff_ne.2 (by omega)
    rw [if_neg h64]
    go_wp2_with fail
    have FF : Hid (Hs w b S K T ∧ Off b w w ∧ Wds w 3 0 kN) := ⟨HH.out.1, Off.refl _ _, HH.out.2.2.1⟩
    clear gt
    obtain ⟨s0, s1, s2, s3, s4, s5, s6, s7, eS⟩ := eight FF.out.1.sl
    obtain ⟨m0, m1, m2, m3, m4, m5, m6, m7, eM⟩ := eight (compL_len (S) K)
    have EM : Hid (compL (S) K = [m0, m1, m2, m3, m4, m5, m6, m7]) := eM
    have CC : Hid (∀ W, W = w.drew → Calls Tryz.prog 130 #[.agg #[.int .u32 (U s0), .int .u32 (U s1), .int .u32 (U s2), .int .u32 (U s3), .int .u32 (U s4), .int .u32 (U s5), .int .u32 (U s6), .int .u32 (U s7)], .slice (some ⟨b, 8, none⟩) 64 64] W fun e w' => e = .returned (.tuple #[.agg #[.int .u32 (U m0), .int .u32 (U m1), .int .u32 (U m2), .int .u32 (U m3), .int .u32 (U m4), .int .u32 (U m5), .int .u32 (U m6), .int .u32 (U m7)], .int .i64 0]) ∧ Below w.heap.size w w') := by
      rintro W rfl
      have h := comp_b w.drew FF.out.1.drew FF.out.2.2
      rw [eM, eS] at h
      exact h.mono fun _ _ ⟨h1, h2⟩ => ⟨h1, (Below.refl _ _).drew.trans h2⟩
    have FS : Hid (Hs w b [s0, s1, s2, s3, s4, s5, s6, s7] K T) := by rw [← eS]; exact FF.out.1
    clear eM eS
    have c0 : w.cell? ⟨b, 0, none⟩ = some (.int .u32 (U s0)) := FS.out.st 0 (by show 0 < 8; decide)
    have f0 := FS.out.ls 0 (by decide)
    have c1 : w.cell? ⟨b, 1, none⟩ = some (.int .u32 (U s1)) := FS.out.st 1 (by show 1 < 8; decide)
    have f1 := FS.out.ls 1 (by decide)
    have c2 : w.cell? ⟨b, 2, none⟩ = some (.int .u32 (U s2)) := FS.out.st 2 (by show 2 < 8; decide)
    have f2 := FS.out.ls 2 (by decide)
    have c3 : w.cell? ⟨b, 3, none⟩ = some (.int .u32 (U s3)) := FS.out.st 3 (by show 3 < 8; decide)
    have f3 := FS.out.ls 3 (by decide)
    have c4 : w.cell? ⟨b, 4, none⟩ = some (.int .u32 (U s4)) := FS.out.st 4 (by show 4 < 8; decide)
    have f4 := FS.out.ls 4 (by decide)
    have c5 : w.cell? ⟨b, 5, none⟩ = some (.int .u32 (U s5)) := FS.out.st 5 (by show 5 < 8; decide)
    have f5 := FS.out.ls 5 (by decide)
    have c6 : w.cell? ⟨b, 6, none⟩ = some (.int .u32 (U s6)) := FS.out.st 6 (by show 6 < 8; decide)
    have f6 := FS.out.ls 6 (by decide)
    have c7 : w.cell? ⟨b, 7, none⟩ = some (.int .u32 (U s7)) := FS.out.st 7 (by show 7 < 8; decide)
    have f7 := FS.out.ls 7 (by decide)
    go_region_with (go_at_call 130; refine (CC.out _ rfl).mono ?_; rintro e wc ⟨rfl, hb⟩; have HC : Hid (Below w.heap.size w wc ∧ Hs wc b [s0, s1, s2, s3, s4, s5, s6, s7] K T) := ⟨hb, FS.out.keep hb⟩; clear hb c0 c1 c2 c3 c4 c5 c6 c7 f0 f1 f2 f3 f4 f5 f6 f7; have c0 : wc.cell? ⟨b, 0, none⟩ = some (.int .u32 (U s0)) := HC.out.2.st 0 (by show 0 < 8; decide); have f0 := HC.out.2.ls 0 (by decide); have c1 : wc.cell? ⟨b, 1, none⟩ = some (.int .u32 (U s1)) := HC.out.2.st 1 (by show 1 < 8; decide); have f1 := HC.out.2.ls 1 (by decide); have c2 : wc.cell? ⟨b, 2, none⟩ = some (.int .u32 (U s2)) := HC.out.2.st 2 (by show 2 < 8; decide); have f2 := HC.out.2.ls 2 (by decide); have c3 : wc.cell? ⟨b, 3, none⟩ = some (.int .u32 (U s3)) := HC.out.2.st 3 (by show 3 < 8; decide); have f3 := HC.out.2.ls 3 (by decide); have c4 : wc.cell? ⟨b, 4, none⟩ = some (.int .u32 (U s4)) := HC.out.2.st 4 (by show 4 < 8; decide); have f4 := HC.out.2.ls 4 (by decide); have c5 : wc.cell? ⟨b, 5, none⟩ = some (.int .u32 (U s5)) := HC.out.2.st 5 (by show 5 < 8; decide); have f5 := HC.out.2.ls 5 (by decide); have c6 : wc.cell? ⟨b, 6, none⟩ = some (.int .u32 (U s6)) := HC.out.2.st 6 (by show 6 < 8; decide); have f6 := HC.out.2.ls 6 (by decide); have c7 : wc.cell? ⟨b, 7, none⟩ = some (.int .u32 (U s7)) := HC.out.2.st 7 (by show 7 < 8; decide); have f7 := HC.out.2.ls 7 (by decide))
    all_goals
      refine exit_world (fun W => Hs W b [m0, m1, m2, m3, m4, m5, m6, m7] K T ∧ Off b w W) ⟨HC.out.2.setS (M := [m0, m1, m2, m3, m4, m5, m6, m7]) rfl, (FF.out.2.1.trans (.of_below HC.out.1)).setCells (o := 0) (wrds [m0, m1, m2, m3, m4, m5, m6, m7])⟩ ?_
      rintro wd ⟨hs, ho⟩
      have HD : Hid (Hs wd b [m0, m1, m2, m3, m4, m5, m6, m7] K T ∧ Off b w wd) := ⟨hs, ho⟩
      have tr : wd.there b 8 (byts (List.replicate 64 0)).toArray.size := by rw [sz]; exact hs.thereK
      clear hs ho c0 c1 c2 c3 c4 c5 c6 c7 f0 f1 f2 f3 f4 f5 f6 f7
      rw [zeros64b] at tr
      go_wp2_with ((with_reducible refine wpList_store_at (ty := 98) b 8 _ tr il oc ?_ ?_ ?_); rfl; rfl)
      all_goals go_end0
      all_goals refine ⟨rfl, ?_, ?_⟩
      · have h := HD.out.1.setK (M := List.replicate 64 0) (by simp)
        rw [HZ.out] at h
        rw [EM.out]
        exact h
      · exact HD.out.2.setCells _

end Go.Proofs.YtncpjgpioajbeaaGreatDoor.S

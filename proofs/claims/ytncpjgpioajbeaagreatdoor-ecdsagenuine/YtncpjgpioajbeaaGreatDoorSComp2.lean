import Derived.Test.YtncpjgpioajbeaaGreatDoorSComp
namespace Go.Proofs.YtncpjgpioajbeaaGreatDoor.S
open Go.RowKit Go.Sort

theorem eight {S : List (BitVec 32)} (h : S.length = 8) : ∃ a b c d e f g h, S = [a, b, c, d, e, f, g, h] := by
  match S, h with
  | [a, b, c, d, e, f, g, h], _ => exact ⟨a, b, c, d, e, f, g, h, rfl⟩

/-- Block b holds these eight words and may be written. -/
def E8 (W : World) (b : Nat) (S : List (BitVec 32)) : Prop := S.length = 8 ∧ Wds W b 0 S ∧ Loose W b 8
theorem E8.lt {W : World} {b : Nat} {L : List (BitVec 32)} (h : E8 W b L) : b < W.heap.size := h.2.1.lt (by rw [h.1]; decide)
theorem E8.keep {W w1 : World} {b : Nat} {L : List (BitVec 32)} (h : E8 W b L) (hb : Below W.heap.size W w1) : E8 w1 b L := ⟨h.1, h.2.1.keep hb, h.2.2.keep hb h.lt⟩
theorem E8.otherCells {W : World} {b b' o : Nat} {L : List (BitVec 32)} (h : E8 W b L) (ne : b' ≠ b) (cs : List Value) : E8 (W.setCells b' o cs) b L := ⟨h.1, h.2.1.otherCells ne cs, h.2.2.setCells _ _ _⟩
theorem E8.at {W : World} {b i : Nat} {L : List (BitVec 32)} (h : E8 W b L) (hi : i < 8) : W.cell? ⟨b, i, none⟩ = some (.int .u32 (U (L.getD i 0))) := by
  have k := h.2.1 i (by rw [h.1]; exact hi)
  rwa [Nat.zero_add] at k
theorem E8.there {W : World} {b : Nat} {L : List (BitVec 32)} (h : E8 W b L) : W.there b 0 8 := h.2.1.there h.2.2.lse h.1
theorem E8.new {W : World} {b : Nat} {L : List (BitVec 32)} (hl : L.length = 8) (t : TypeId) (e : b = W.heap.size) : E8 (W.alloc (.cells (wrds L).toArray t)) b L := ⟨hl, Wds.new L t e, Loose.new _ _ _ e⟩
theorem E8.zeros {W : World} {b : Nat} (t : TypeId) (e : b = W.heap.size) : E8 (W.alloc (.cells #[.int .u32 0, .int .u32 0, .int .u32 0, .int .u32 0, .int .u32 0, .int .u32 0, .int .u32 0, .int .u32 0] t)) b (List.replicate 8 0) := by
  have h : U 0#32 = 0 := U_zero
  have z : (wrds (List.replicate 8 0)).toArray = #[.int .u32 0, .int .u32 0, .int .u32 0, .int .u32 0, .int .u32 0, .int .u32 0, .int .u32 0, .int .u32 0] := by simp [wrds, List.replicate, h]
  rw [← z]
  exact E8.new (by simp) _ e

theorem index_word {X : List (BitVec 32)} {i : Nat} (hl : X.length = 64) (h : i < 64) (w : World) : (Instr.index 152 (.agg (wrds X).toArray) (.int .i64 (i : Int))).run Tryz.prog w = .ok (.int .u32 (U (X.getD i 0))) w := by
  have tu := Tryz.underlying152
  have ta := Tryz.isAgg101
  have g : (wrds X)[i]? = some (.int .u32 (U (X[i]?.getD 0#32))) := by simp [wrds, show i < X.length by omega]
  have tz : (sizeOf 101).run Tryz.prog w = .ok 1 w := by have := Tryz.sizeOf101; simp [go_sem, this]
  have h1 : (i : Int) < 64 := by omega
  simp only [Instr.index, asIntOf, Sem.run_bind, Sem.run_pure, Result.andThen_ok, run_underlying tu]
  simp [h1, tz, Go.part, go_sem, ta, g]
theorem turns_6 (x : BitVec 32) (w : World) : Calls Tryz.prog 152 #[.int .u32 (U x), .int .i64 6, .int .i64 11, .int .i64 25] w fun e w' => e = .returned (.int .u32 (U (tri x 6 11 25))) ∧ Below w.heap.size w w' :=
  (turns_any x (i := 6) (j := 11) (k := 25) (by decide) (by decide) (by decide) (by decide) (by decide) (by decide) w).mono fun _ _ ⟨h1, h2⟩ => ⟨h1, by rw [h2]; exact Below.refl _ _⟩
theorem turns_2 (x : BitVec 32) (w : World) : Calls Tryz.prog 152 #[.int .u32 (U x), .int .i64 2, .int .i64 13, .int .i64 22] w fun e w' => e = .returned (.int .u32 (U (tri x 2 13 22))) ∧ w' = w :=
  turns_any x (i := 2) (j := 13) (k := 22) (by decide) (by decide) (by decide) (by decide) (by decide) (by decide) w

set_option maxRecDepth 100000 in
set_option maxHeartbeats 4000000 in
theorem comp_any {bd od cd : Nat} {S : List (BitVec 32)} {B : List (BitVec 8)} (hs : S.length = 8) (hl : B.length = 64) (w : World) (hB : Byo w bd od B) (hk : Wds w 3 0 kN) :
    Calls Tryz.prog 130 #[.agg (wrds S).toArray, .slice (some ⟨bd, od, none⟩) 64 cd] w fun e w' => e = .returned (.tuple #[.agg (wrds (compL S B)).toArray, .int .i64 0]) ∧ Below w.heap.size w w' := by
  obtain ⟨s0, s1, s2, s3, s4, s5, s6, s7, rfl⟩ := eight hs
  have HC : Hid (compL [s0, s1, s2, s3, s4, s5, s6, s7] B = sums [s0, s1, s2, s3, s4, s5, s6, s7] (rnds kN (spreadL B) ⟨s0, s1, s2, s3, s4, s5, s6, s7⟩ 64)) := rfl
  have ew : (wrds [s0, s1, s2, s3, s4, s5, s6, s7]).toArray = #[.int .u32 (U s0), .int .u32 (U s1), .int .u32 (U s2), .int .u32 (U s3), .int .u32 (U s4), .int .u32 (U s5), .int .u32 (U s6), .int .u32 (U s7)] := rfl
  rw [ew]
  have HB : Hid (Byo w bd od B ∧ B.length = 64 ∧ Wds w 3 0 kN) := ⟨hB, hl, hk⟩
  clear hB hl hk ew hs
  go_enter Tryz.func130, Tryz.ntmps130
  go_wp2_with fail
  refine calls_world (fun W => Below w.heap.size w W ∧ E8 W w.heap.size [s0, s1, s2, s3, s4, s5, s6, s7] ∧ E8 W (w.heap.size + 1) (List.replicate 8 0)) ⟨?_, (E8.new rfl _ rfl).keep ((Below.refl _ _).alloc (Nat.le_refl _) _), E8.zeros _ (by simp)⟩ ?_
  · repeat (first | with_reducible exact Below.refl _ _ | with_reducible refine Below.alloc ?_ (by first | omega | (simp; done) | (simp; omega)) _)
  rintro W ⟨b0, hA, hR⟩
  refine (spread_any HB.out.2.1 _ (HB.out.1.keep b0)).mono ?_
  rintro e W2 ⟨rfl, hb⟩
  have H2 : Hid (Below w.heap.size w W2 ∧ E8 W2 w.heap.size [s0, s1, s2, s3, s4, s5, s6, s7] ∧ E8 W2 (w.heap.size + 1) (List.replicate 8 0)) := ⟨b0.trans (hb.mono b0.size), hA.keep hb, hR.keep hb⟩
  clear hb b0 hA hR
  obtain ⟨L, kL⟩ : ∃ L, spreadL B = L := ⟨_, rfl⟩
  have LL : Hid (L.length = 64 ∧ (wrds L).length = 64) := ⟨by rw [← kL]; exact spreadL_len B, by rw [wrds_len, ← kL]; exact spreadL_len B⟩
  rw [kL] at HC ⊢
  clear kL W
  have sz : ((wrds L).toArray).size = 64 := by simp [LL.out.2]
  have oc := one_wrds L
  have il : (Tryz.prog.info? 152).map (·.size) = some ((wrds L).toArray).size := by rw [sz]; kernel_rfl
  go_wp2_with ((with_reducible refine wpList_store_at (ty := 152) W2.heap.size 0 (wrds L).toArray ?_ il oc ?_ ?_ ?_); rw [sz]; exact (Sch.zeros _ rfl).there; rfl; rfl; refine wpList_world (fun W => Below w.heap.size w W ∧ E8 W w.heap.size [s0, s1, s2, s3, s4, s5, s6, s7] ∧ E8 W (w.heap.size + 1) (List.replicate 8 0) ∧ Sch W W2.heap.size L) ⟨below_setCells H2.out.1.size _ 0 _ (H2.out.1.alloc H2.out.1.size _), (H2.out.2.1.keep ((Below.refl _ _).alloc (Nat.le_refl _) _)).otherCells (by have := H2.out.2.1.lt; omega) _, (H2.out.2.2.keep ((Below.refl _ _).alloc (Nat.le_refl _) _)).otherCells (by have := H2.out.2.2.lt; omega) _, (Sch.zeros _ rfl).stored LL.out.1⟩ ?_; intro W3 h3; have H3 : Hid (Below w.heap.size w W3 ∧ E8 W3 w.heap.size [s0, s1, s2, s3, s4, s5, s6, s7] ∧ E8 W3 (w.heap.size + 1) (List.replicate 8 0) ∧ Sch W3 W2.heap.size L) := h3; have g0 := h3.2.1.at (i := 0) (by decide); have g1 := h3.2.1.at (i := 1) (by decide); have g2 := h3.2.1.at (i := 2) (by decide); have g3 := h3.2.1.at (i := 3) (by decide); have g4 := h3.2.1.at (i := 4) (by decide); have g5 := h3.2.1.at (i := 5) (by decide); have g6 := h3.2.1.at (i := 6) (by decide); have g7 := h3.2.1.at (i := 7) (by decide); simp only [List.getD_cons_zero, List.getD_cons_succ] at g0 g1 g2 g3 g4 g5 g6 g7; clear h3)
  generalize hw : W2.heap.size = bw at *
  have BW : Hid (w.heap.size + 1 < bw) := by have h : w.heap.size + 1 < bw := (by rw [← hw]; exact H2.out.2.2.lt); exact h
  clear hw H2
  have r0 := fun d os => cell_regrown g0 d os
  have r1 := fun d os => cell_regrown g1 d os
  have r2 := fun d os => cell_regrown g2 d os
  have r3 := fun d os => cell_regrown g3 d os
  have r4 := fun d os => cell_regrown g4 d os
  have r5 := fun d os => cell_regrown g5 d os
  have r6 := fun d os => cell_regrown g6 d os
  have r7 := fun d os => cell_regrown g7 d os
  clear g0 g1 g2 g3 g4 g5 g6 g7 sz oc il
  simp only [Act.put]
  refine wp_region_quiet_below (by kernel_rfl) (by kernel_rfl) ?_
  repeat (first | go_big_quiet_skip | (go_big_quiet_want; go_big_quiet_op; go_big_quiet_on))
  refine wpQuiet_nil ?_
  rintro W4 ⟨p, rfl⟩
  have hb := below_regrown W3 p.d p.os
  generalize grow (redrawn W3 p.d) p.os = W4 at *
  have H4 : Hid (Below w.heap.size w W4 ∧ E8 W4 w.heap.size [s0, s1, s2, s3, s4, s5, s6, s7] ∧ E8 W4 (w.heap.size + 1) (List.replicate 8 0) ∧ Sch W4 bw L) := ⟨H3.out.1.trans (hb.mono H3.out.1.size), H3.out.2.1.keep hb, H3.out.2.2.1.keep hb, H3.out.2.2.2.keep hb⟩
  clear hb H3 r0 r1 r2 r3 r4 r5 r6 r7 W3
  have rb := H4.out.2.2.2.2.1.range
  have il2 : (Tryz.prog.info? 152).map (·.size) = some (wrds L).length := by rw [LL.out.2]; kernel_rfl
  go_wp2_with ((with_reducible refine wpList_load_at (ty := 152) bw 0 (wrds L) _ rb Tryz.underlying152 ?_ il2 ?_ ?_); rfl; rfl; simp only [Act.put, List.setIfInBounds_toArray, List.set_cons_succ, List.set_cons_zero])
  obtain ⟨R, kR⟩ : ∃ R : Nat → St, R = rnds kN L ⟨s0, s1, s2, s3, s4, s5, s6, s7⟩ := ⟨_, rfl⟩
  have RS : Hid (R 0 = ⟨s0, s1, s2, s3, s4, s5, s6, s7⟩ ∧ ∀ t, R (t + 1) = rnd (R t) (kN.getD t 0) (L.getD t 0)) := by rw [kR]; exact ⟨rfl, fun _ => rfl⟩
  rw [← kR] at HC
  clear kR rb il2
  go_loopg [7, 8, 9, 10, 11, 12, 13, 14, 42] 64 (fun n va vb vc vd ve vf vg vh iv wr => ∃ t : Nat, n = 64 - t ∧ t ≤ 64 ∧ iv = .int .i64 t ∧ va = .int .u32 (U (R t).a) ∧ vb = .int .u32 (U (R t).b) ∧ vc = .int .u32 (U (R t).c) ∧ vd = .int .u32 (U (R t).d) ∧ ve = .int .u32 (U (R t).e) ∧ vf = .int .u32 (U (R t).f) ∧ vg = .int .u32 (U (R t).g) ∧ vh = .int .u32 (U (R t).h) ∧ Below w.heap.size w wr ∧ E8 wr w.heap.size [s0, s1, s2, s3, s4, s5, s6, s7] ∧ E8 wr (w.heap.size + 1) (List.replicate 8 0))
  case atStart =>
    refine ⟨0, rfl, by decide, rfl, ?_, ?_, ?_, ?_, ?_, ?_, ?_, ?_, H4.out.1, H4.out.2.1, H4.out.2.2.1⟩ <;> rw [RS.out.1]
  case round =>
    clear H4
    obtain ⟨t, hk, ht, rfl, rfl, rfl, rfl, rfl, rfl, rfl, rfl, rfl, hf⟩ := hrel
    have HK : Hid (gk = 64 - t) := hk
    have HF : Hid (Below w.heap.size w wr ∧ E8 wr w.heap.size [s0, s1, s2, s3, s4, s5, s6, s7] ∧ E8 wr (w.heap.size + 1) (List.replicate 8 0)) := hf
    clear hk hf
    by_cases h8 : t = 64
    · subst h8
      have g0 := HF.out.2.1.at (i := 0) (by decide)
      have g1 := HF.out.2.1.at (i := 1) (by decide)
      have g2 := HF.out.2.1.at (i := 2) (by decide)
      have g3 := HF.out.2.1.at (i := 3) (by decide)
      have g4 := HF.out.2.1.at (i := 4) (by decide)
      have g5 := HF.out.2.1.at (i := 5) (by decide)
      have g6 := HF.out.2.1.at (i := 6) (by decide)
      have g7 := HF.out.2.1.at (i := 7) (by decide)
      simp only [List.getD_cons_zero, List.getD_cons_succ] at g0 g1 g2 g3 g4 g5 g6 g7
      obtain ⟨q, kq⟩ : ∃ q, R 64 = q := ⟨_, rfl⟩
      rw [kq] at HC ⊢
      clear kq
      obtain ⟨a, b, c, d, e, f, g, h⟩ := q
      simp only
      have a0 := U_add' s0 a
      have a1 := U_add' s1 b
      have a2 := U_add' s2 c
      have a3 := U_add' s3 d
      have a4 := U_add' s4 e
      have a5 := U_add' s5 f
      have a6 := U_add' s6 g
      have a7 := U_add' s7 h
      obtain ⟨M, kM⟩ : ∃ M : List (BitVec 32), M = [s0 + a, s1 + b, s2 + c, s3 + d, s4 + e, s5 + f, s6 + g, s7 + h] := ⟨_, rfl⟩
      have EM : Hid (compL [s0, s1, s2, s3, s4, s5, s6, s7] B = M) := by rw [HC.out, kM]; exact rfl
      have lM : Hid (M.length = 8 ∧ (wrds M).length = 8) := by rw [kM]; exact ⟨rfl, rfl⟩
      have sz : ((wrds M).toArray).size = 8 := by simp [lM.out.2]
      have eM : (wrds M).toArray = #[.int .u32 (U (s0 + a)), .int .u32 (U (s1 + b)), .int .u32 (U (s2 + c)), .int .u32 (U (s3 + d)), .int .u32 (U (s4 + e)), .int .u32 (U (s5 + f)), .int .u32 (U (s6 + g)), .int .u32 (U (s7 + h))] := by rw [kM]; rfl
      have HM : Hid ((wrds M).toArray = #[.int .u32 (U (s0 + a)), .int .u32 (U (s1 + b)), .int .u32 (U (s2 + c)), .int .u32 (U (s3 + d)), .int .u32 (U (s4 + e)), .int .u32 (U (s5 + f)), .int .u32 (U (s6 + g)), .int .u32 (U (s7 + h))]) := eM
      have oc := one_wrds M
      have il : (Tryz.prog.info? 102).map (·.size) = some ((wrds M).toArray).size := by rw [sz]; kernel_rfl
      have tr : wr.there (w.heap.size + 1) 0 ((wrds M).toArray).size := by rw [sz]; exact HF.out.2.2.there
      clear kM eM HC sz
      go_wp2_with ((with_reducible refine wpList_store_at (ty := 102) (w.heap.size + 1) 0 (wrds M).toArray tr il oc ?_ ?_ ?_); rfl; rw [HM.out]; rfl)
      have ld := run_loadVar_mid (P := Tryz.prog) (wr.setCells (w.heap.size + 1) 0 (wrds M)) (w.heap.size + 1) 0 102 (wrds M) _ (World.rangeAt_setCells_same _ _ _ _ (by simpa using tr)) Tryz.underlying102 rfl (by rw [lM.out.2]; kernel_rfl)
      refine bodyPost_ret (v := .tuple #[.agg (wrds M).toArray, .int .i64 0]) ?_ rfl ⟨by rw [EM.out], below_setCells (by omega) (wrds M) 0 wr HF.out.1⟩
      simp [results, Tryz.results130, asAddr, ld]
    · have ht' : (t : Int) < 64 := by omega
      have pw := fun w => index_word (X := L) (i := t) LL.out.1 (by omega) w
      have gk0 : wr.cell? ⟨3, t, none⟩ = some (.int .u32 (U (kN.getD t 0))) := by
        have h := HB.out.2.2 t (by show t < 64; omega)
        rw [Nat.zero_add] at h
        rw [HF.out.1.cell (p := ⟨3, t, none⟩) (World.block_lt_of_cell? w _ h)]; exact h
      have RN : Hid (R (t + 1) = rnd (R t) (kN.getD t 0) (L.getD t 0)) := RS.out.2 t
      generalize kN.getD t 0 = k at *
      generalize L.getD t 0 = x at *
      obtain ⟨q, kq⟩ : ∃ q, R t = q := ⟨_, rfl⟩
      rw [kq] at RN ⊢
      clear kq
      obtain ⟨a, b, c, d, e, f, g, h⟩ := q
      simp only
      have gk := fun d os => cell_regrown gk0 d os
      have a1 := U_add' h (tri e 6 11 25)
      have n1 := U_and e f
      have n2 : bits .xor .u32 (if IntKind.u32.signed = true then -1 else IntKind.u32.max) (U e) = U (~~~e) := by rw [if_neg (by decide)]; exact U_not e
      have n3 := U_and (~~~e) g
      have n4 : bits .xor .u32 (U (e &&& f)) (U (~~~e &&& g)) = U (chs e f g) := U_xor _ _
      have a2 := U_add' (h + tri e 6 11 25) (chs e f g)
      have a3 := U_add' (h + tri e 6 11 25 + chs e f g) k
      have a4 : (U (h + tri e 6 11 25 + chs e f g + k) + U x) % 4294967296 = U (tmp1 ⟨a, b, c, d, e, f, g, h⟩ k x) := U_add' _ _
      go_wp2_with fail
      refine wp_region_quiet_below (by kernel_rfl) (by kernel_rfl) ?_
      repeat
        first
          | go_big_quiet_skip
          | (go_big_quiet_want; go_big_quiet_op; go_big_quiet_on)
          | (go_big_quiet_want
             go_big_quiet_op
             apply Exists.intro
             refine ⟨fun p => ?_, ?_⟩
             · (go_at_call 152; with_reducible exact Calls.regrown_of (turns_6 e _))
             go_big_quiet_on)
      refine wpQuiet_nil ?_
      rintro w1 ⟨p, rfl⟩
      have hb := below_regrown wr p.d p.os
      generalize grow (redrawn wr p.d) p.os = w1 at *
      have H1 : Hid (Below w.heap.size w w1 ∧ E8 w1 w.heap.size [s0, s1, s2, s3, s4, s5, s6, s7] ∧ E8 w1 (w.heap.size + 1) (List.replicate 8 0)) := ⟨HF.out.1.trans (hb.mono HF.out.1.size), HF.out.2.1.keep hb, HF.out.2.2.keep hb⟩
      clear hb HF gk gk0 a1 n1 n2 n3 n4 a2 a3 pw
      rw [a4]
      clear a4
      obtain ⟨T1, k1⟩ : ∃ T, tmp1 ⟨a, b, c, d, e, f, g, h⟩ k x = T := ⟨_, rfl⟩
      rw [k1]
      go_wp2_with fail
      refine (turns_2 a _).mono ?_
      rintro e' w2 ⟨rfl, rfl⟩
      have n1 := U_and a b
      have n2 := U_and a c
      have n3 := U_and b c
      have n4 := U_xor (a &&& b) (a &&& c)
      have n5 : bits .xor .u32 (U ((a &&& b) ^^^ (a &&& c))) (U (b &&& c)) = U (maj a b c) := U_xor _ _
      have m1 : (U (tri a 2 13 22) + U (maj a b c)) % 4294967296 = U (tmp2 ⟨a, b, c, d, e, f, g, h⟩) := U_add' _ _
      obtain ⟨T2, k2⟩ : ∃ T, tmp2 ⟨a, b, c, d, e, f, g, h⟩ = T := ⟨_, rfl⟩
      rw [k2] at m1
      have m2 := U_add' d T1
      have m3 := U_add' T1 T2
      have RR : Hid (R (t + 1) = ⟨T1 + T2, a, b, c, d + T1, e, f, g⟩) := by rw [RN.out, rnd, k1, k2]; exact rfl
      have M23 : Hid ((U d + U T1) % 4294967296 = U (d + T1) ∧ (U T1 + U T2) % 4294967296 = U (T1 + T2)) := ⟨m2, m3⟩
      clear k1 k2 RN
      go_wp2
      go_roundg (64 - (t + 1))
      case measure => have := HK.out; omega
      case rel =>
        refine ⟨t + 1, rfl, by omega, by go_num, ?_, ?_, ?_, ?_, ?_, ?_, ?_, ?_, H1.out⟩ <;> rw [RR.out] <;> first | rfl | rw [M23.out.1] | rw [M23.out.2]

end Go.Proofs.YtncpjgpioajbeaaGreatDoor.S

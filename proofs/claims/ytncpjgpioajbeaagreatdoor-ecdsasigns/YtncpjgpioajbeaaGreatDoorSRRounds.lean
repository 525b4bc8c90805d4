import Derived.Test.YtncpjgpioajbeaaGreatDoorSRWords
import Derived.Test.YtncpjgpioajbeaaGreatDoorSComp2
/- The document's rounds. -/
namespace Go.Proofs.YtncpjgpioajbeaaGreatDoor.S
open Go.RowKit Go.Sort

theorem E8.setA {W : World} {b i : Nat} {L : List (BitVec 32)} (h : E8 W b L) (hi : i < 8) (v : BitVec 32) : E8 (W.setCell ⟨b, i, none⟩ (.int .u32 (U v))) b (L.set i v) := by
  refine ⟨by rw [List.length_set]; exact h.1, ?_, h.2.2.set _ _⟩
  have := h.2.1.set i (by rw [h.1]; exact hi) v
  simpa using this
theorem E8.otherA {W : World} {b b' i : Nat} {L : List (BitVec 32)} (h : E8 W b L) (ne : b' ≠ b) (v : Value) : E8 (W.setCell ⟨b', i, none⟩ v) b L := ⟨h.1, h.2.1.other ne v, h.2.2.set _ _⟩
theorem E8.allocA {W : World} {b : Nat} {L : List (BitVec 32)} (h : E8 W b L) (o : Obj) : E8 (W.alloc o) b L := h.keep ((Below.refl _ _).alloc (Nat.le_refl _) o)
/-- Words in a row somewhere. -/
def Rw (W : World) (g : Nat) (L : List (BitVec 32)) : Prop := ∀ t, t < L.length → W.cell? ⟨g, t, none⟩ = some (.int .u32 (U (L.getD t 0)))
theorem Rw.keep {W w1 : World} {g : Nat} {L : List (BitVec 32)} (h : Rw W g L) (hb : Below W.heap.size W w1) : Rw w1 g L := fun t ht => cell_keep hb (h t ht)
theorem Rw.lt {W : World} {g : Nat} {L : List (BitVec 32)} (h : Rw W g L) (hl : 0 < L.length) : g < W.heap.size := World.block_lt_of_cell? W _ (h 0 hl)
theorem Rw.other {W : World} {g b' i : Nat} {L : List (BitVec 32)} (h : Rw W g L) (ne : b' ≠ g) (v : Value) : Rw (W.setCell ⟨b', i, none⟩ v) g L := fun t ht => by rw [World.cell?_setCell_far _ _ _ _ ne]; exact h t ht
theorem Rw.otherCells {W : World} {g b' i : Nat} {L : List (BitVec 32)} (h : Rw W g L) (ne : b' ≠ g) (cs : List Value) : Rw (W.setCells b' i cs) g L := fun t ht => by rw [World.cell?_setCells_out _ _ _ _ _ (fun e => absurd e.symm ne)]; exact h t ht
theorem Rw.alloc {W : World} {g : Nat} {L : List (BitVec 32)} (h : Rw W g L) (o : Obj) : Rw (W.alloc o) g L := h.keep ((Below.refl _ _).alloc (Nat.le_refl _) o)
theorem OwW.rw' {B : Nat} {W : World} {v : Value} {L : List (BitVec 32)} (h : OwW B W v L) (hl : 0 < L.length) : ∃ g c, v = .slice (some ⟨g, 0, none⟩) L.length c ∧ Rw W g L ∧ B ≤ g := by
  rcases h.2 with ⟨e, hx⟩ | ⟨g, cap, cur, e, hb, _⟩
  · omega
  · subst e
    exact ⟨g, cap, rfl, fun t ht => OwW.cell h ht, hb⟩
def stL (s : St) : List (BitVec 32) := [s.a, s.b, s.c, s.d, s.e, s.f, s.g, s.h]
theorem turned_6 (x : BitVec 32) (w : World) : Calls Tryz.prog 167 #[.int .u32 (U x), .int .u64 6] w fun e w' => e = .returned (.int .u32 (U (rotr x 6))) ∧ Below w.heap.size w w' := turned_any x (n := 6) rfl (by decide) (by decide) w
theorem turned_11 (x : BitVec 32) (w : World) : Calls Tryz.prog 167 #[.int .u32 (U x), .int .u64 11] w fun e w' => e = .returned (.int .u32 (U (rotr x 11))) ∧ Below w.heap.size w w' := turned_any x (n := 11) rfl (by decide) (by decide) w
theorem turned_25 (x : BitVec 32) (w : World) : Calls Tryz.prog 167 #[.int .u32 (U x), .int .u64 25] w fun e w' => e = .returned (.int .u32 (U (rotr x 25))) ∧ Below w.heap.size w w' := turned_any x (n := 25) rfl (by decide) (by decide) w
theorem turned_2 (x : BitVec 32) (w : World) : Calls Tryz.prog 167 #[.int .u32 (U x), .int .u64 2] w fun e w' => e = .returned (.int .u32 (U (rotr x 2))) ∧ Below w.heap.size w w' := turned_any x (n := 2) rfl (by decide) (by decide) w
theorem turned_13 (x : BitVec 32) (w : World) : Calls Tryz.prog 167 #[.int .u32 (U x), .int .u64 13] w fun e w' => e = .returned (.int .u32 (U (rotr x 13))) ∧ Below w.heap.size w w' := turned_any x (n := 13) rfl (by decide) (by decide) w
theorem turned_22 (x : BitVec 32) (w : World) : Calls Tryz.prog 167 #[.int .u32 (U x), .int .u64 22] w fun e w' => e = .returned (.int .u32 (U (rotr x 22))) ∧ Below w.heap.size w w' := turned_any x (n := 22) rfl (by decide) (by decide) w

set_option maxRecDepth 100000 in
set_option maxHeartbeats 16000000 in
theorem rounds_any {bd od cd bk ck : Nat} {S : List (BitVec 32)} {B : List (BitVec 8)} (hs : S.length = 8) (hl : B.length = 64) (w : World) (hB : Byo w bd od B) (hk : Rw w bk kN) :
    Calls Tryz.prog 159 #[.agg (wrds S).toArray, .slice (some ⟨bd, od, none⟩) 64 cd, .slice (some ⟨bk, 0, none⟩) 64 ck] w fun e w' => e = .returned (.agg (wrds (compL S B)).toArray) ∧ Below w.heap.size w w' := by
  obtain ⟨s0, s1, s2, s3, s4, s5, s6, s7, rfl⟩ := eight hs
  have HC : Hid (compL [s0, s1, s2, s3, s4, s5, s6, s7] B = sums [s0, s1, s2, s3, s4, s5, s6, s7] (rnds kN (spreadL B) ⟨s0, s1, s2, s3, s4, s5, s6, s7⟩ 64)) := rfl
  have ew : (wrds [s0, s1, s2, s3, s4, s5, s6, s7]).toArray = #[.int .u32 (U s0), .int .u32 (U s1), .int .u32 (U s2), .int .u32 (U s3), .int .u32 (U s4), .int .u32 (U s5), .int .u32 (U s6), .int .u32 (U s7)] := rfl
  rw [ew]
  have HB : Hid (Byo w bd od B ∧ B.length = 64 ∧ Rw w bk kN) := ⟨hB, hl, hk⟩
  clear hB hl hk ew hs
  go_enter Tryz.func159, Tryz.ntmps159
  go_wp2_with fail
  refine calls_world (fun W => Below w.heap.size w W ∧ E8 W w.heap.size [s0, s1, s2, s3, s4, s5, s6, s7] ∧ E8 W (w.heap.size + 1) (List.replicate 8 0)) ⟨by repeat (first | with_reducible exact Below.refl _ _ | with_reducible refine Below.alloc ?_ (by first | omega | (simp; done) | (simp; omega)) _), (E8.new rfl _ rfl).keep ((Below.refl _ _).alloc (Nat.le_refl _) _), E8.zeros _ (by simp)⟩ ?_
  rintro W ⟨b0, hA, hR⟩
  refine (words_walk (S := spreadL B) HB.out.2.1 (spreadL_len B) (fun t h => spread_word B h) (fun t h1 h2 => spread_next B h1 h2) _ (HB.out.1.keep b0)).mono ?_
  rintro e W2 ⟨⟨v, rfl, ho⟩, hb⟩
  obtain ⟨L, kL⟩ : ∃ L, spreadL B = L := ⟨_, rfl⟩
  have LL : Hid (L.length = 64) := by rw [← kL]; exact spreadL_len B
  rw [kL] at HC ho
  obtain ⟨bw, cw, rfl, hw, gw⟩ := ho.rw' (by rw [LL.out]; decide)
  rw [LL.out]
  have H2 : Hid (Below w.heap.size w W2 ∧ E8 W2 w.heap.size [s0, s1, s2, s3, s4, s5, s6, s7] ∧ E8 W2 (w.heap.size + 1) (List.replicate 8 0) ∧ Rw W2 bw L ∧ Rw W2 bk kN) := ⟨b0.trans (hb.mono b0.size), hA.keep hb, hR.keep hb, hw, (HB.out.2.2.keep b0).keep hb⟩
  have GW : Hid (w.heap.size + 1 < bw) := Nat.lt_of_lt_of_le hR.lt gw
  clear hb b0 hA hR hw gw ho kL W
  have g0 := H2.out.2.1.at (i := 0) (by decide)
  have g1 := H2.out.2.1.at (i := 1) (by decide)
  have g2 := H2.out.2.1.at (i := 2) (by decide)
  have g3 := H2.out.2.1.at (i := 3) (by decide)
  have g4 := H2.out.2.1.at (i := 4) (by decide)
  have g5 := H2.out.2.1.at (i := 5) (by decide)
  have g6 := H2.out.2.1.at (i := 6) (by decide)
  have g7 := H2.out.2.1.at (i := 7) (by decide)
  simp only [List.getD_cons_zero, List.getD_cons_succ] at g0 g1 g2 g3 g4 g5 g6 g7
  go_wp2_with fail
  obtain ⟨R, kR⟩ : ∃ R : Nat → St, R = rnds kN L ⟨s0, s1, s2, s3, s4, s5, s6, s7⟩ := ⟨_, rfl⟩
  have RS : Hid (R 0 = ⟨s0, s1, s2, s3, s4, s5, s6, s7⟩ ∧ ∀ t, R (t + 1) = rnd (R t) (kN.getD t 0) (L.getD t 0)) := by rw [kR]; exact ⟨rfl, fun _ => rfl⟩
  rw [← kR] at HC
  clear kR g0 g1 g2 g3 g4 g5 g6 g7
  refine wp_world (fun W => Below w.heap.size w W ∧ E8 W w.heap.size [s0, s1, s2, s3, s4, s5, s6, s7] ∧ E8 W (w.heap.size + 1) (List.replicate 8 0) ∧ Rw W bw L ∧ Rw W bk kN ∧ E8 W W2.heap.size (stL (R 0))) ⟨H2.out.1.alloc H2.out.1.size _, H2.out.2.1.allocA _, H2.out.2.2.1.allocA _, H2.out.2.2.2.1.alloc _, H2.out.2.2.2.2.alloc _, by rw [RS.out.1]; exact E8.new rfl _ rfl⟩ ?_
  have NB : Hid (W2.heap.size ≠ w.heap.size ∧ W2.heap.size ≠ w.heap.size + 1 ∧ W2.heap.size ≠ bw ∧ W2.heap.size ≠ bk ∧ w.heap.size ≤ W2.heap.size) := ⟨Nat.ne_of_gt H2.out.2.1.lt, Nat.ne_of_gt H2.out.2.2.1.lt, Nat.ne_of_gt (H2.out.2.2.2.1.lt (by rw [LL.out]; decide)), Nat.ne_of_gt (H2.out.2.2.2.2.lt (by decide)), H2.out.1.size⟩
  clear H2
  rintro V hV
  have HV : Hid (Below w.heap.size w V ∧ E8 V w.heap.size [s0, s1, s2, s3, s4, s5, s6, s7] ∧ E8 V (w.heap.size + 1) (List.replicate 8 0) ∧ Rw V bw L ∧ Rw V bk kN ∧ E8 V W2.heap.size (stL (R 0))) := hV
  clear hV
  generalize W2.heap.size = bv at *
  clear W2
  go_loopg [9] 64 (fun n iv wr => ∃ t : Nat, n = 64 - t ∧ t ≤ 64 ∧ iv = .int .i64 t ∧ (Below w.heap.size w wr ∧ E8 wr w.heap.size [s0, s1, s2, s3, s4, s5, s6, s7] ∧ E8 wr (w.heap.size + 1) (List.replicate 8 0) ∧ Rw wr bw L ∧ Rw wr bk kN ∧ E8 wr bv (stL (R t))))
  case atStart => exact ⟨0, rfl, by decide, rfl, HV.out⟩
  case round =>
    clear HV V
    obtain ⟨t, hk, ht, rfl, hf⟩ := hrel
    have HK : Hid (gk = 64 - t) := hk
    have HF : Hid (Below w.heap.size w wr ∧ E8 wr w.heap.size [s0, s1, s2, s3, s4, s5, s6, s7] ∧ E8 wr (w.heap.size + 1) (List.replicate 8 0) ∧ Rw wr bw L ∧ Rw wr bk kN ∧ E8 wr bv (stL (R t))) := hf
    clear hk hf
    by_cases h8 : t = 64
    · subst h8
      obtain ⟨q, kq⟩ : ∃ q, R 64 = q := ⟨_, rfl⟩
      rw [kq] at HC HF
      clear kq
      obtain ⟨a, b, c, d, e, f, g, h⟩ := q
      have EM : Hid (compL [s0, s1, s2, s3, s4, s5, s6, s7] B = [s0 + a, s1 + b, s2 + c, s3 + d, s4 + e, s5 + f, s6 + g, s7 + h]) := by rw [HC.out]; exact rfl
      obtain ⟨M, kM⟩ : ∃ M, M = [s0 + a, s1 + b, s2 + c, s3 + d, s4 + e, s5 + f, s6 + g, s7 + h] := ⟨_, rfl⟩
      rw [← kM] at EM
      have KM : Hid (M.length = 8 ∧ ∀ j, j < 8 → M.getD j 0 = (stL ⟨a, b, c, d, e, f, g, h⟩).getD j 0 + [s0, s1, s2, s3, s4, s5, s6, s7].getD j 0) := by
        rw [kM]
        refine ⟨rfl, fun j hj => ?_⟩
        have : j = 0 ∨ j = 1 ∨ j = 2 ∨ j = 3 ∨ j = 4 ∨ j = 5 ∨ j = 6 ∨ j = 7 := by omega
        rcases this with rfl | rfl | rfl | rfl | rfl | rfl | rfl | rfl <;> exact BitVec.add_comm _ _
      clear kM HC
      have LV : Hid ((stL ⟨a, b, c, d, e, f, g, h⟩).length = 8) := rfl
      generalize stL ⟨a, b, c, d, e, f, g, h⟩ = X at *
      have NBx := NB.out
      go_wp2_with fail
      go_loopg [18] 8 (fun n iv wr => ∃ (i : Nat) (N : List (BitVec 32)), n = 8 - i ∧ i ≤ 8 ∧ iv = .int .i64 i ∧ (∀ j, j < i → N.getD j 0 = M.getD j 0) ∧ (∀ j, i ≤ j → N.getD j 0 = X.getD j 0) ∧ (Below w.heap.size w wr ∧ E8 wr w.heap.size [s0, s1, s2, s3, s4, s5, s6, s7] ∧ E8 wr (w.heap.size + 1) (List.replicate 8 0) ∧ E8 wr bv N))
      case atStart => exact ⟨0, X, rfl, by decide, rfl, fun j h => absurd h (Nat.not_lt_zero _), fun j _ => rfl, HF.out.1, HF.out.2.1, HF.out.2.2.1, HF.out.2.2.2.2.2⟩
      case round =>
        clear HF
        obtain ⟨i, N, hk, hi, rfl, ev, eu, hf⟩ := hrel
        have HK2 : Hid (gk = 8 - i) := hk
        have EV : Hid ((∀ j, j < i → N.getD j 0 = M.getD j 0) ∧ (∀ j, i ≤ j → N.getD j 0 = X.getD j 0)) := ⟨ev, eu⟩
        have HG : Hid (Below w.heap.size w wr ∧ E8 wr w.heap.size [s0, s1, s2, s3, s4, s5, s6, s7] ∧ E8 wr (w.heap.size + 1) (List.replicate 8 0) ∧ E8 wr bv N) := hf
        clear hk ev eu hf
        by_cases h8 : i = 8
        · subst h8
          have eN : N = M := by
            apply List.ext_getElem (by rw [HG.out.2.2.2.1, KM.out.1])
            intro j h1 h2
            have := EV.out.1 j (by rw [HG.out.2.2.2.1] at h1; omega)
            rw [List.getD, List.getElem?_eq_getElem h1, List.getD, List.getElem?_eq_getElem h2] at this
            simpa using this
          subst eN
          have rb := HG.out.2.2.2.2.1.range
          have lN : Hid ((wrds N).length = 8) := by rw [wrds_len]; exact KM.out.1
          have sz : ((wrds N).toArray).size = 8 := by simp [lN.out]
          have oc := one_wrds N
          have il : (Tryz.prog.info? 102).map (·.size) = some ((wrds N).toArray).size := by rw [sz]; kernel_rfl
          have il2 : (Tryz.prog.info? 102).map (·.size) = some (wrds N).length := by rw [lN.out]; kernel_rfl
          have tr : wr.there (w.heap.size + 1) 0 ((wrds N).toArray).size := by rw [sz]; exact HG.out.2.2.1.there
          clear EV sz
          go_wp2_with (first | ((with_reducible refine wpList_load_at (ty := 102) bv 0 (wrds N) _ rb Tryz.underlying102 ?_ il2 ?_ ?_); rfl; rfl; simp only [Act.put, List.setIfInBounds_toArray, List.set_cons_succ, List.set_cons_zero]) | ((with_reducible refine wpList_store_at (ty := 102) (w.heap.size + 1) 0 (wrds N).toArray tr il oc ?_ ?_ ?_); rfl; rfl))
          have ld := run_loadVar_mid (P := Tryz.prog) (wr.setCells (w.heap.size + 1) 0 (wrds N)) (w.heap.size + 1) 0 102 (wrds N) _ (World.rangeAt_setCells_same _ _ _ _ (by simpa using tr)) Tryz.underlying102 rfl (by rw [lN.out]; kernel_rfl)
          refine bodyPost_ret (v := .agg (wrds N).toArray) ?_ rfl ⟨by rw [EM.out], below_setCells (by omega) (wrds N) 0 wr HG.out.1⟩
          simp [results, Tryz.results159, Act.put, asAddr, ld]
        · have hi' : (i : Int) < 8 := by omega
          have gx := HG.out.2.2.2.at (i := i) (by omega)
          rw [EV.out.2 i (Nat.le_refl _)] at gx
          have gs := HG.out.2.1.at (i := i) (by omega)
          have fx := HG.out.2.2.2.2.2 i (by omega)
          have KI := KM.out.2 i (by omega)
          generalize [s0, s1, s2, s3, s4, s5, s6, s7].getD i 0 = s at *
          generalize X.getD i 0 = x at *
          have y1 := U_add' x s
          have KI2 : Hid (M.getD i 0 = x + s) := KI
          clear KI
          go_wp2_with fail
          refine region_tail 9 (by kernel_rfl) (by kernel_rfl) ?_
          simp only [List.take_succ_cons, List.take_zero, List.drop_succ_cons, List.drop_zero]
          repeat (first | go_big_quiet_skip | (go_big_quiet_want; go_big_quiet_op; go_big_quiet_on))
          refine wpQuiet_nil ?_
          go_wp2
          go_roundg (8 - (i + 1))
          case measure => have := HK2.out; omega
          case rel =>
            skip
            refine ⟨i + 1, N.set i (x + s), rfl, by omega, by go_num, fun j h1 => ?_, fun j h1 => ?_, HG.out.1.drew.setCell NBx.2.2.2.2 _, HG.out.2.1.drew.otherA NBx.1 _, HG.out.2.2.1.drew.otherA NBx.2.1 _, HG.out.2.2.2.drew.setA (by omega) _⟩
            · by_cases ce : j = i
              · subst ce
                rw [List.getD, List.getElem?_set_self (by rw [HG.out.2.2.2.1]; omega), Option.getD_some]; exact KI2.out.symm
              · rw [List.getD, List.getElem?_set_ne (by omega), ← List.getD]; exact EV.out.1 j (by omega)
            · rw [List.getD, List.getElem?_set_ne (by omega), ← List.getD]; exact EV.out.2 j (by omega)
    · have ht' : (t : Int) < 64 := by omega
      have gk0 := HF.out.2.2.2.2.1 t (by show t < 64; omega)
      have gw0 := HF.out.2.2.2.1 t (by rw [LL.out]; omega)
      have RN : Hid (R (t + 1) = rnd (R t) (kN.getD t 0) (L.getD t 0)) := RS.out.2 t
      generalize kN.getD t 0 = k at *
      generalize L.getD t 0 = x at *
      obtain ⟨q, kq⟩ : ∃ q, R t = q := ⟨_, rfl⟩
      rw [kq] at RN HF
      clear kq
      obtain ⟨a, b, c, d, e, f, g, h⟩ := q
      have g0 : wr.cell? ⟨bv, 0, none⟩ = some (.int .u32 (U a)) := HF.out.2.2.2.2.2.at (i := 0) (by decide)
      have g1 : wr.cell? ⟨bv, 1, none⟩ = some (.int .u32 (U b)) := HF.out.2.2.2.2.2.at (i := 1) (by decide)
      have g2 : wr.cell? ⟨bv, 2, none⟩ = some (.int .u32 (U c)) := HF.out.2.2.2.2.2.at (i := 2) (by decide)
      have g3 : wr.cell? ⟨bv, 3, none⟩ = some (.int .u32 (U d)) := HF.out.2.2.2.2.2.at (i := 3) (by decide)
      have g4 : wr.cell? ⟨bv, 4, none⟩ = some (.int .u32 (U e)) := HF.out.2.2.2.2.2.at (i := 4) (by decide)
      have g5 : wr.cell? ⟨bv, 5, none⟩ = some (.int .u32 (U f)) := HF.out.2.2.2.2.2.at (i := 5) (by decide)
      have g6 : wr.cell? ⟨bv, 6, none⟩ = some (.int .u32 (U g)) := HF.out.2.2.2.2.2.at (i := 6) (by decide)
      have g7 : wr.cell? ⟨bv, 7, none⟩ = some (.int .u32 (U h)) := HF.out.2.2.2.2.2.at (i := 7) (by decide)
      have q5 := fun d os => cell_regrown g5 d os
      have q6 := fun d os => cell_regrown g6 d os
      have q7 := fun d os => cell_regrown g7 d os
      have qk := fun d os => cell_regrown gk0 d os
      have qw := fun d os => cell_regrown gw0 d os
      have m1 := U_xor (rotr e 6) (rotr e 11)
      have m2 : bits .xor .u32 (U (rotr e 6 ^^^ rotr e 11)) (U (rotr e 25)) = U (tri e 6 11 25) := U_xor _ _
      have a1 := U_add' h (tri e 6 11 25)
      have n1 := U_and e f
      have n2 : bits .xor .u32 (if IntKind.u32.signed = true then -1 else IntKind.u32.max) (U e) = U (~~~e) := by rw [if_neg (by decide)]; exact U_not e
      have n3 := U_and (~~~e) g
      have n4 : bits .xor .u32 (U (e &&& f)) (U (~~~e &&& g)) = U (chs e f g) := U_xor _ _
      have a2 := U_add' (h + tri e 6 11 25) (chs e f g)
      have a3 := U_add' (h + tri e 6 11 25 + chs e f g) k
      have a4 := U_add' (h + tri e 6 11 25 + chs e f g + k) x
      clear g5 g6 g7 gk0 gw0
      go_wp2_with fail
      refine wp_region_quiet_below (by kernel_rfl) (by kernel_rfl) ?_
      repeat
        first
          | go_big_quiet_skip
          | (go_big_quiet_want; go_big_quiet_op; go_big_quiet_on)
          | (go_big_quiet_want
             go_big_quiet_op
             apply Exists.intro
             refine ⟨fun p => ?_, ?_⟩
             · (first | (go_at_call 167; with_reducible exact Calls.regrown_of (turned_6 e _)) | (go_at_call 167; with_reducible exact Calls.regrown_of (turned_11 e _)) | (go_at_call 167; with_reducible exact Calls.regrown_of (turned_25 e _)))
             go_big_quiet_on)
      refine wpQuiet_nil ?_
      rintro W4 ⟨p, rfl⟩
      have hb := below_regrown wr p.d p.os
      have H4 : Hid (Below w.heap.size w (grow (redrawn wr p.d) p.os) ∧ E8 (grow (redrawn wr p.d) p.os) w.heap.size [s0, s1, s2, s3, s4, s5, s6, s7] ∧ E8 (grow (redrawn wr p.d) p.os) (w.heap.size + 1) (List.replicate 8 0) ∧ Rw (grow (redrawn wr p.d) p.os) bw L ∧ Rw (grow (redrawn wr p.d) p.os) bk kN ∧ E8 (grow (redrawn wr p.d) p.os) bv (stL ⟨a, b, c, d, e, f, g, h⟩)) := ⟨HF.out.1.trans (hb.mono HF.out.1.size), HF.out.2.1.keep hb, HF.out.2.2.1.keep hb, HF.out.2.2.2.1.keep hb, HF.out.2.2.2.2.1.keep hb, HF.out.2.2.2.2.2.keep hb⟩
      generalize grow (redrawn wr p.d) p.os = W4 at *
      clear HF hb q5 q6 q7 qk qw g0 g1 g2 g3 g4 wr m1 m2 a1 n1 n2 n3 n4 a2 a3
      rw [a4]
      clear a4
      have T1 : Hid (tmp1 ⟨a, b, c, d, e, f, g, h⟩ k x = h + tri e 6 11 25 + chs e f g + k + x) := rfl
      generalize h + tri e 6 11 25 + chs e f g + k + x = t1 at *
      go_wp2_with fail
      refine (turned_2 a _).mono ?_
      rintro e1 W5 ⟨rfl, hb⟩
      have H5 : Hid (Below w.heap.size w W5 ∧ E8 W5 w.heap.size [s0, s1, s2, s3, s4, s5, s6, s7] ∧ E8 W5 (w.heap.size + 1) (List.replicate 8 0) ∧ Rw W5 bw L ∧ Rw W5 bk kN ∧ E8 W5 bv (stL ⟨a, b, c, d, e, f, g, h⟩)) := ⟨H4.out.1.trans (hb.mono H4.out.1.size), H4.out.2.1.keep hb, H4.out.2.2.1.keep hb, H4.out.2.2.2.1.keep hb, H4.out.2.2.2.2.1.keep hb, H4.out.2.2.2.2.2.keep hb⟩
      clear hb H4 W4
      go_wp2_with fail
      refine (turned_13 a _).mono ?_
      rintro e1 W6 ⟨rfl, hb⟩
      have H6 : Hid (Below w.heap.size w W6 ∧ E8 W6 w.heap.size [s0, s1, s2, s3, s4, s5, s6, s7] ∧ E8 W6 (w.heap.size + 1) (List.replicate 8 0) ∧ Rw W6 bw L ∧ Rw W6 bk kN ∧ E8 W6 bv (stL ⟨a, b, c, d, e, f, g, h⟩)) := ⟨H5.out.1.trans (hb.mono H5.out.1.size), H5.out.2.1.keep hb, H5.out.2.2.1.keep hb, H5.out.2.2.2.1.keep hb, H5.out.2.2.2.2.1.keep hb, H5.out.2.2.2.2.2.keep hb⟩
      clear hb H5 W5
      have p1 := U_xor (rotr a 2) (rotr a 13)
      go_wp2_with fail
      refine (turned_22 a _).mono ?_
      rintro e1 W7 ⟨rfl, hb⟩
      have H7 : Hid (Below w.heap.size w W7 ∧ E8 W7 w.heap.size [s0, s1, s2, s3, s4, s5, s6, s7] ∧ E8 W7 (w.heap.size + 1) (List.replicate 8 0) ∧ Rw W7 bw L ∧ Rw W7 bk kN ∧ E8 W7 bv (stL ⟨a, b, c, d, e, f, g, h⟩)) := ⟨H6.out.1.trans (hb.mono H6.out.1.size), H6.out.2.1.keep hb, H6.out.2.2.1.keep hb, H6.out.2.2.2.1.keep hb, H6.out.2.2.2.2.1.keep hb, H6.out.2.2.2.2.2.keep hb⟩
      clear hb H6 W6
      have p2 : bits .xor .u32 (U (rotr a 2 ^^^ rotr a 13)) (U (rotr a 22)) = U (tri a 2 13 22) := U_xor _ _
      have p3 := U_and a b
      have p4 := U_and a c
      have p5 := U_xor (a &&& b) (a &&& c)
      have p6 := U_and b c
      have p7 : bits .xor .u32 (U ((a &&& b) ^^^ (a &&& c))) (U (b &&& c)) = U (maj a b c) := U_xor _ _
      have p8 := U_add' (tri a 2 13 22) (maj a b c)
      go_wp2_with fail
      rw [p8]
      have T2 : Hid (tmp2 ⟨a, b, c, d, e, f, g, h⟩ = tri a 2 13 22 + maj a b c) := rfl
      generalize tri a 2 13 22 + maj a b c = t2 at *
      clear p1 p2 p3 p4 p5 p6 p7 p8
      refine wp_world (fun V => Below w.heap.size w V ∧ E8 V w.heap.size [s0, s1, s2, s3, s4, s5, s6, s7] ∧ E8 V (w.heap.size + 1) (List.replicate 8 0) ∧ Rw V bw L ∧ Rw V bk kN ∧ E8 V bv (stL ⟨a, b, c, d, e, f, g, h⟩) ∧ E8 V W7.heap.size (List.replicate 8 0)) ⟨H7.out.1.alloc H7.out.1.size _, H7.out.2.1.allocA _, H7.out.2.2.1.allocA _, H7.out.2.2.2.1.alloc _, H7.out.2.2.2.2.1.alloc _, H7.out.2.2.2.2.2.allocA _, E8.zeros _ rfl⟩ ?_
      have NN : Hid (W7.heap.size ≠ w.heap.size ∧ W7.heap.size ≠ w.heap.size + 1 ∧ W7.heap.size ≠ bw ∧ W7.heap.size ≠ bk ∧ W7.heap.size ≠ bv ∧ w.heap.size ≤ W7.heap.size) := ⟨Nat.ne_of_gt H7.out.2.1.lt, Nat.ne_of_gt H7.out.2.2.1.lt, Nat.ne_of_gt (H7.out.2.2.2.1.lt (by rw [LL.out]; decide)), Nat.ne_of_gt (H7.out.2.2.2.2.1.lt (by decide)), Nat.ne_of_gt H7.out.2.2.2.2.2.lt, H7.out.1.size⟩
      clear H7
      rintro V hV
      have HV : Hid (Below w.heap.size w V ∧ E8 V w.heap.size [s0, s1, s2, s3, s4, s5, s6, s7] ∧ E8 V (w.heap.size + 1) (List.replicate 8 0) ∧ Rw V bw L ∧ Rw V bk kN ∧ E8 V bv (stL ⟨a, b, c, d, e, f, g, h⟩) ∧ E8 V W7.heap.size (List.replicate 8 0)) := hV
      clear hV
      generalize W7.heap.size = bn at *
      clear W7
      go_loopg [17] 7 (fun n iv wr => ∃ (i : Nat) (N : List (BitVec 32)), n = 8 - i ∧ 1 ≤ i ∧ i ≤ 8 ∧ iv = .int .i64 i ∧ N.getD 0 0 = 0 ∧ (∀ j, 1 ≤ j → j < i → N.getD j 0 = (stL ⟨a, b, c, d, e, f, g, h⟩).getD (j - 1) 0) ∧ (Below w.heap.size w wr ∧ E8 wr w.heap.size [s0, s1, s2, s3, s4, s5, s6, s7] ∧ E8 wr (w.heap.size + 1) (List.replicate 8 0) ∧ Rw wr bw L ∧ Rw wr bk kN ∧ E8 wr bv (stL ⟨a, b, c, d, e, f, g, h⟩) ∧ E8 wr bn N))
      case atStart => exact ⟨1, _, rfl, by decide, by decide, rfl, rfl, fun j h1 h2 => by omega, HV.out⟩
      case round =>
        clear HV V
        obtain ⟨i, N, hk, i1, hi, rfl, z0, ev, hf⟩ := hrel
        have HK2 : Hid (gk = 8 - i) := hk
        have EV : Hid (N.getD 0 0 = 0 ∧ ∀ j, 1 ≤ j → j < i → N.getD j 0 = (stL ⟨a, b, c, d, e, f, g, h⟩).getD (j - 1) 0) := ⟨z0, ev⟩
        have HG : Hid (Below w.heap.size w wr ∧ E8 wr w.heap.size [s0, s1, s2, s3, s4, s5, s6, s7] ∧ E8 wr (w.heap.size + 1) (List.replicate 8 0) ∧ Rw wr bw L ∧ Rw wr bk kN ∧ E8 wr bv (stL ⟨a, b, c, d, e, f, g, h⟩) ∧ E8 wr bn N) := hf
        clear hk z0 ev hf
        by_cases h8 : i = 8
        · subst h8
          obtain ⟨n0, n1, n2, n3, n4, n5, n6, n7, rfl⟩ := eight HG.out.2.2.2.2.2.2.1
          have e0 : n0 = 0 := EV.out.1
          have e1 : n1 = a := EV.out.2 1 (by decide) (by decide)
          have e2 : n2 = b := EV.out.2 2 (by decide) (by decide)
          have e3 : n3 = c := EV.out.2 3 (by decide) (by decide)
          have e4 : n4 = d := EV.out.2 4 (by decide) (by decide)
          have e5 : n5 = e := EV.out.2 5 (by decide) (by decide)
          have e6 : n6 = f := EV.out.2 6 (by decide) (by decide)
          have e7 : n7 = g := EV.out.2 7 (by decide) (by decide)
          subst e1 e2 e3 e4 e5 e6 e7 e0
          have c3 : wr.cell? ⟨bv, 3, none⟩ = some (.int .u32 (U n4)) := HG.out.2.2.2.2.2.1.at (i := 3) (by decide)
          have b0 : wr.cell? ⟨bn, 0, none⟩ = some (.int .u32 (U 0)) := HG.out.2.2.2.2.2.2.at (i := 0) (by decide)
          have f0 := HG.out.2.2.2.2.2.2.2.2 0 (by decide)
          have v0 := HG.out.2.2.2.2.2.1.at (i := 0) (by decide)
          have u0 := HG.out.2.2.2.2.2.1.2.2 0 (by decide)
          have b1 : wr.cell? ⟨bn, 1, none⟩ = some (.int .u32 (U n1)) := HG.out.2.2.2.2.2.2.at (i := 1) (by decide)
          have f1 := HG.out.2.2.2.2.2.2.2.2 1 (by decide)
          have v1 := HG.out.2.2.2.2.2.1.at (i := 1) (by decide)
          have u1 := HG.out.2.2.2.2.2.1.2.2 1 (by decide)
          have b2 : wr.cell? ⟨bn, 2, none⟩ = some (.int .u32 (U n2)) := HG.out.2.2.2.2.2.2.at (i := 2) (by decide)
          have f2 := HG.out.2.2.2.2.2.2.2.2 2 (by decide)
          have v2 := HG.out.2.2.2.2.2.1.at (i := 2) (by decide)
          have u2 := HG.out.2.2.2.2.2.1.2.2 2 (by decide)
          have b3 : wr.cell? ⟨bn, 3, none⟩ = some (.int .u32 (U n3)) := HG.out.2.2.2.2.2.2.at (i := 3) (by decide)
          have f3 := HG.out.2.2.2.2.2.2.2.2 3 (by decide)
          have v3 := HG.out.2.2.2.2.2.1.at (i := 3) (by decide)
          have u3 := HG.out.2.2.2.2.2.1.2.2 3 (by decide)
          have b4 : wr.cell? ⟨bn, 4, none⟩ = some (.int .u32 (U n4)) := HG.out.2.2.2.2.2.2.at (i := 4) (by decide)
          have f4 := HG.out.2.2.2.2.2.2.2.2 4 (by decide)
          have v4 := HG.out.2.2.2.2.2.1.at (i := 4) (by decide)
          have u4 := HG.out.2.2.2.2.2.1.2.2 4 (by decide)
          have b5 : wr.cell? ⟨bn, 5, none⟩ = some (.int .u32 (U n5)) := HG.out.2.2.2.2.2.2.at (i := 5) (by decide)
          have f5 := HG.out.2.2.2.2.2.2.2.2 5 (by decide)
          have v5 := HG.out.2.2.2.2.2.1.at (i := 5) (by decide)
          have u5 := HG.out.2.2.2.2.2.1.2.2 5 (by decide)
          have b6 : wr.cell? ⟨bn, 6, none⟩ = some (.int .u32 (U n6)) := HG.out.2.2.2.2.2.2.at (i := 6) (by decide)
          have f6 := HG.out.2.2.2.2.2.2.2.2 6 (by decide)
          have v6 := HG.out.2.2.2.2.2.1.at (i := 6) (by decide)
          have u6 := HG.out.2.2.2.2.2.1.2.2 6 (by decide)
          have b7 : wr.cell? ⟨bn, 7, none⟩ = some (.int .u32 (U n7)) := HG.out.2.2.2.2.2.2.at (i := 7) (by decide)
          have f7 := HG.out.2.2.2.2.2.2.2.2 7 (by decide)
          have v7 := HG.out.2.2.2.2.2.1.at (i := 7) (by decide)
          have u7 := HG.out.2.2.2.2.2.1.2.2 7 (by decide)
          have y1 := U_add' t1 t2
          have y2 := U_add' n4 t1
          have RR : Hid (R (t + 1) = ⟨t1 + t2, n1, n2, n3, n4 + t1, n5, n6, n7⟩) := by rw [RN.out, rnd, T1.out, T2.out]; exact rfl
          have nn := NN.out.2.2.2.2.1
          have nn' := nn.symm
          clear EV
          go_wp2
          go_roundg (64 - (t + 1))
          case measure => have := HK.out; omega
          case rel => 
            refine ⟨t + 1, rfl, by omega, by go_num, ?_⟩
            rw [RR.out]
            refine ⟨?_, ?_, ?_, ?_, ?_, ?_⟩
            · repeat (first | with_reducible exact HG.out.1 | with_reducible refine Below.setCell ?_ (by first | with_reducible exact NN.out.2.2.2.2.2 | with_reducible exact NB.out.2.2.2.2) _)
            · repeat (first | with_reducible exact HG.out.2.1 | with_reducible refine E8.otherA ?_ (by first | with_reducible exact NN.out.1 | with_reducible exact NB.out.1) _)
            · repeat (first | with_reducible exact HG.out.2.2.1 | with_reducible refine E8.otherA ?_ (by first | with_reducible exact NN.out.2.1 | with_reducible exact NB.out.2.1) _)
            · repeat (first | with_reducible exact HG.out.2.2.2.1 | with_reducible refine Rw.other ?_ (by first | with_reducible exact NN.out.2.2.1 | with_reducible exact NB.out.2.2.1) _)
            · repeat (first | with_reducible exact HG.out.2.2.2.2.1 | with_reducible refine Rw.other ?_ (by first | with_reducible exact NN.out.2.2.2.1 | with_reducible exact NB.out.2.2.2.1) _)
            · skip
              have h0 := (HG.out.2.2.2.2.2.1.otherA (b' := bn) (i := 0) NN.out.2.2.2.2.1 (.int .u32 (U (t1 + t2)))).otherA (b' := bn) (i := 4) NN.out.2.2.2.2.1 (.int .u32 (U (n4 + t1)))
              exact (((((((h0.setA (i := 0) (by decide) (t1 + t2)).setA (i := 1) (by decide) n1).setA (i := 2) (by decide) n2).setA (i := 3) (by decide) n3).setA (i := 4) (by decide) (n4 + t1)).setA (i := 5) (by decide) n5).setA (i := 6) (by decide) n6).setA (i := 7) (by decide) n7
        · have hi' : (i : Int) < 8 := by omega
          have i1' : (1 : Int) ≤ (i : Int) := by omega
          have ei : ((i : Int) - 1).toNat = i - 1 := by omega
          have gx := HG.out.2.2.2.2.2.1.at (i := i - 1) (by omega)
          have gn := HG.out.2.2.2.2.2.2.at (i := i) (by omega)
          have fn := HG.out.2.2.2.2.2.2.2.2 i (by omega)
          obtain ⟨z, kz⟩ : ∃ z, z = (stL ⟨a, b, c, d, e, f, g, h⟩).getD (i - 1) 0 := ⟨_, rfl⟩
          rw [← kz] at gx
          have KZ : Hid (z = (stL ⟨a, b, c, d, e, f, g, h⟩).getD (i - 1) 0) := kz
          clear kz
          go_wp2
          go_roundg (8 - (i + 1))
          case measure => have := HK2.out; omega
          case rel =>
            refine ⟨i + 1, N.set i z, rfl, by omega, by omega, by go_num, ?_, fun j h1 h2 => ?_, HG.out.1.setCell NN.out.2.2.2.2.2 _, HG.out.2.1.otherA NN.out.1 _, HG.out.2.2.1.otherA NN.out.2.1 _, HG.out.2.2.2.1.other NN.out.2.2.1 _, HG.out.2.2.2.2.1.other NN.out.2.2.2.1 _, HG.out.2.2.2.2.2.1.otherA NN.out.2.2.2.2.1 _, HG.out.2.2.2.2.2.2.setA (by omega) _⟩
            · rw [List.getD, List.getElem?_set_ne (by omega), ← List.getD]; exact EV.out.1
            · by_cases ce : j = i
              · subst ce
                rw [List.getD, List.getElem?_set_self (by rw [HG.out.2.2.2.2.2.2.1]; omega), Option.getD_some]; exact KZ.out
              · rw [List.getD, List.getElem?_set_ne (by omega), ← List.getD]; exact EV.out.2 j h1 (by omega)
end Go.Proofs.YtncpjgpioajbeaaGreatDoor.S

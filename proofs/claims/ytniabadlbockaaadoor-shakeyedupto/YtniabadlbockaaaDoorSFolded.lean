import Derived.Test.YtniabadlbockaaaDoorSJoined
import Derived.Test.YtniabadlbockaaaDoorSSums
namespace Go.Proofs.YtniabadlbockaaaDoor
open Go.RowKit Go.Sort

theorem slice_all {b t n c : Nat} (h : t + 64 ≤ c) (w : World) : (Instr.sliceAt 24 (.slice (some ⟨b, 0, none⟩) n c) (some (.int .i64 (t : Int))) (some (.int .i64 ((t : Int) + 64))) none).run Tryd.prog w = .ok (.slice (some ⟨b, t, none⟩) 64 (c - t)) w := by
  have tu := Tryd.underlying24
  have tz := Tryd.sizeOf5
  have h1 : (t : Int) + 64 ≤ (c : Int) := by omega
  have h2 : (0 : Int) ≤ (t : Int) + 64 := by omega
  have h3 : ((t : Int) + 64).toNat = t + 64 := by omega
  have h4 : ¬ (c = t) := by omega
  simp [Instr.sliceAt, Instr.slice, Instr.sliceBounds, run_underlying tu, run_sliceBound, go_sem, tz, h1, h2, h3, h4, Addr.add]
  intro h
  exact h.symm
theorem two_parts {W : World} {p q : Part} {vp vq : Value} (t : TypeId) (ep : vp = p.val) (eq : vq = q.val) (hp : p.ok W) (hq : q.ok W) : Prts (W.alloc (.cells #[vp, vq] t)) W.heap.size 0 [p, q] := by
  subst ep eq
  have B : Below W.heap.size W (W.alloc (.cells #[p.val, q.val] t)) := (Below.refl _ _).alloc (Nat.le_refl _) _
  intro i hi
  have hi' : i < 2 := hi
  rw [Nat.zero_add, World.cell?_alloc_mark]
  obtain rfl | rfl : i = 0 ∨ i = 1 := by omega
  · exact ⟨rfl, hp.1, hp.2.1, hp.2.2.keep B⟩
  · exact ⟨rfl, hq.1, hq.2.1, hq.2.2.keep B⟩
theorem cat_two (p q : Part) : catX [p, q] = p.X ++ q.X := by simp [catX]

set_option maxRecDepth 100000 in
set_option maxHeartbeats 4000000 in
theorem folded_any {a : Option Addr} {bd od cd : Nat} {X : List (BitVec 8)} (hl : X.length < 1073740000) (hc : X.length ≤ cd) (ha : At a bd od X) (w : World) (hX : Byo w bd od X) (hf : Wds w 0 0 hN) (hk : Wds w 1 0 kN) :
    Calls Tryd.prog 17 #[.slice a X.length cd] w fun e w' => e = .returned (.tuple #[.agg (byts (shaL X)).toArray, .bool true]) ∧ Below w.heap.size w w' := by
  have HH : Hid (At a bd od X ∧ Byo w bd od X ∧ Wds w 0 0 hN ∧ Wds w 1 0 kN ∧ X.length < 1073740000 ∧ X.length ≤ cd) := ⟨ha, hX, hf, hk, hl, hc⟩
  have hl' : (X.length : Int) < 1073740000 := by omega
  clear ha hX hf hk hl hc
  go_enter Tryd.func17, Tryd.ntmps17
  go_wp2_with fail
  refine calls_world (fun W => Below w.heap.size w W ∧ Hsh W w.heap.size (List.replicate 32 0)) ⟨(Below.refl _ _).alloc (Nat.le_refl _) _, Hsh.zeros _ rfl⟩ ?_
  rintro W1 ⟨b1, r1⟩
  refine (pad_any (n := X.length) (by have := HH.out; omega) _).mono ?_
  rintro e w2 ⟨rfl, hO, hB⟩
  obtain ⟨P, kP⟩ : ∃ P, P = padL X.length := ⟨_, rfl⟩
  rw [← kP] at hO ⊢
  have H2 : Hid (Below w.heap.size w w2 ∧ Hsh w2 w.heap.size (List.replicate 32 0) ∧ Byo w2 W1.heap.size 0 P ∧ Byo w2 bd od X) := by
    refine ⟨b1.trans (hB.mono b1.size), r1.keep hB, fun i hi => ?_, (HH.out.2.1.keep b1).keep hB⟩
    rw [Nat.zero_add, hO.row.cellAt i (by omega)]
    simp [byts, List.getD, hi]
  have lP : 9 ≤ P.length ∧ P.length ≤ 72 := by rw [kP, padL_len]; have := zn_lt X.length; omega
  have EF : Hid (X ++ P = fullX X ∧ (X.length + P.length) % 64 = 0) := by rw [kP]; exact ⟨rfl, pad_whole _⟩
  clear hO hB kP b1 r1
  generalize W1.heap.size = bp at *
  go_wp2_with fail
  obtain ⟨F, kF⟩ : ∃ F, F = fullX X := ⟨_, rfl⟩
  refine (joined_any (PS := [⟨a, bd, od, cd, X⟩, ⟨some ⟨bp, 0, none⟩, bp, 0, P.length, P⟩]) (by rw [cat_two, List.length_append]; have := HH.out; show X.length + P.length < _; omega) (by show 2 ≤ _; omega) (.inr rfl) _ (two_parts _ rfl rfl ⟨HH.out.1, HH.out.2.2.2.2.2, H2.out.2.2.2⟩ ⟨.inr rfl, Nat.le_refl _, H2.out.2.2.1⟩)).mono ?_
  rintro e w3 ⟨v3, rfl, hO, hB⟩
  rw [cat_two, EF.out.1, ← kF] at hO
  have lF : F.length = X.length + P.length := by rw [kF, ← EF.out.1, List.length_append]
  obtain ⟨bf, cf, ev, hcf⟩ := own_form hO (by omega)
  subst ev
  have H3 : Hid (Below w.heap.size w w3 ∧ Hsh w3 w.heap.size (List.replicate 32 0) ∧ Byo w3 bf 0 F ∧ F.length ≤ cf ∧ F.length % 64 = 0 ∧ F.length = X.length + P.length ∧ 0 < F.length) := by
    have B2 := (H2.out.1.alloc H2.out.1.size (.cells #[.slice a X.length cd, .slice (some ⟨bp, 0, none⟩) P.length P.length] 24))
    refine ⟨B2.trans (hB.mono B2.size), (H2.out.2.1.alloc _).keep hB, fun i hi => ?_, hcf, by rw [lF]; exact EF.out.2, lF, by omega⟩
    rw [Nat.zero_add, hO.row.cellAt i (by omega)]
    simp [byts, List.getD, hi]
  have KF : Hid (F = fullX X) := kF
  have m1 : (((F.length : Nat) : Int) % 64 != 0) = false := by
    have h : ((F.length : Nat) : Int) % 64 = 0 := by have := H3.out.2.2.2.2.1; omega
    rw [h]; rfl
  have d2 : decide ((P.length : Int) < 9) = false := decide_eq_false (by omega)
  have d3 : decide (72 < (P.length : Int)) = false := decide_eq_false (by omega)
  have fb : ((F.length : Nat) : Int) < 1073741824 := by have := HH.out; omega
  clear hO hB kF hcf lF H2
  go_wp2_with fail
  refine (start_any _ (HH.out.2.2.1.keep H3.out.1)).mono ?_
  rintro e w4 ⟨rfl, hb⟩
  have H4 : Hid (Below w.heap.size w w4 ∧ Hsh w4 w.heap.size (List.replicate 32 0) ∧ Byo w4 bf 0 F) := ⟨H3.out.1.trans (hb.mono H3.out.1.size), H3.out.2.1.keep hb, H3.out.2.2.1.keep hb⟩
  have HL : Hid (F.length ≤ cf ∧ F.length % 64 = 0 ∧ F.length = X.length + P.length ∧ 0 < F.length) := H3.out.2.2.2
  clear hb H3
  have sz : ((wrds hN).toArray).size = 8 := by simp [wrds_len, hN]
  have oc := one_wrds hN
  have il : (Tryd.prog.info? 45).map (·.size) = some ((wrds hN).toArray).size := by rw [sz]; kernel_rfl
  go_wp2_with ((with_reducible refine wpList_store_at (ty := 45) w4.heap.size 0 (wrds hN).toArray ?_ il oc ?_ ?_ ?_); rw [sz]; exact (E8.zeros _ rfl).there; rfl; rfl; refine wpList_world (fun W => Below w.heap.size w W ∧ Hsh W w.heap.size (List.replicate 32 0) ∧ Byo W bf 0 F ∧ E8 W w4.heap.size hN) ⟨below_setCells H4.out.1.size _ 0 _ (H4.out.1.alloc H4.out.1.size _), (H4.out.2.1.alloc _).otherCells (by have := H4.out.2.1.lt; omega) _, ?_, (E8.zeros _ rfl).stored rfl⟩ ?_; exact (H4.out.2.2.keep ((Below.refl _ _).alloc (Nat.le_refl _) _)).farCells (by have := World.block_lt_of_cell? w4 _ (H4.out.2.2 0 HL.out.2.2.2); intro e; simp at this; omega) _; intro W5 h5; have H5 : Hid (Below w.heap.size w W5 ∧ Hsh W5 w.heap.size (List.replicate 32 0) ∧ Byo W5 bf 0 F ∧ E8 W5 w4.heap.size hN) := h5; clear h5)
  -- THE LOOP
  (try simp only [Act.put])
  clear sz oc il
  have BS : Hid (w.heap.size < w4.heap.size ∧ bf ≠ w4.heap.size ∧ w.heap.size ≠ w4.heap.size) := by
    have h1 := H4.out.2.1.lt
    have h2 := World.block_lt_of_cell? w4 _ (H4.out.2.2 0 HL.out.2.2.2)
    simp at h2
    exact ⟨h1, by omega, by omega⟩
  clear H4
  generalize w4.heap.size = bs at *
  go_loopg [8] (F.length / 64) (fun k av wr => ∃ n : Nat, k = F.length / 64 - n ∧ n ≤ F.length / 64 ∧ av = .int .i64 ((64 * n : Nat) : Int) ∧ Below w.heap.size w wr ∧ Hsh wr w.heap.size (List.replicate 32 0) ∧ Byo wr bf 0 F ∧ E8 wr bs (stAt F n))
  case atStart => exact ⟨0, rfl, Nat.zero_le _, rfl, H5.out⟩
  case round =>
    clear H5
    obtain ⟨n, hk, hn, rfl, hf⟩ := hrel
    have HK : Hid (gk = F.length / 64 - n) := hk
    have HF : Hid (Below w.heap.size w wr ∧ Hsh wr w.heap.size (List.replicate 32 0) ∧ Byo wr bf 0 F ∧ E8 wr bs (stAt F n)) := hf
    clear hk hf
    obtain ⟨t, et⟩ : ∃ t, t = 64 * n := ⟨_, rfl⟩
    rw [← et]
    by_cases h8 : n = F.length / 64
    · have eF : t = F.length := by have := HL.out; omega
      have S8 : Hid (shaL X = hashS (stAt F n) ∧ (stAt F n).length = 8) := ⟨by rw [h8, KF.out]; exact rfl, stAt_len _ _⟩
      have H8 : Hid (E8 wr bs (stAt F n)) := HF.out.2.2.2
      obtain ⟨S, kS⟩ : ∃ S, S = stAt F n := ⟨_, rfl⟩
      rw [← kS] at S8 H8
      have HG : Hid (Below w.heap.size w wr ∧ Hsh wr w.heap.size (List.replicate 32 0)) := ⟨HF.out.1, HF.out.2.1⟩
      subst eF
      clear HF kS m1 d2 d3 h8 hn et
      go_wp2_with fail
      refine wp_world (fun W => Below w.heap.size w W ∧ Hsh W w.heap.size (List.replicate 32 0) ∧ Wds W bs 0 S ∧ Hsh W wr.heap.size (List.replicate 32 0)) ⟨HG.out.1.alloc HG.out.1.size _, HG.out.2.alloc _, H8.out.2.1.alloc _, Hsh.zeros _ rfl⟩ ?_
      rintro W ⟨hB, hR, hA, hO⟩
      have NB : Hid (wr.heap.size ≠ w.heap.size ∧ wr.heap.size ≠ bs ∧ w.heap.size ≤ wr.heap.size) := by
        have h1 := HG.out.2.lt
        have h2 := H8.out.lt
        exact ⟨by omega, by omega, HG.out.1.size⟩
      clear HG H8
      generalize wr.heap.size = bo at *
      go_loopg [12] 32 (fun k iv wr => ∃ (i : Nat) (M : List (BitVec 8)), k = 32 - i ∧ i ≤ 32 ∧ iv = .int .i64 i ∧ (∀ t, t < i → M.getD t 0 = cut8 (S.getD (t / 4) 0) (24 - t % 4 * 8)) ∧ Below w.heap.size w wr ∧ Wds wr bs 0 S ∧ Hsh wr w.heap.size (List.replicate 32 0) ∧ Hsh wr bo M)
      case atStart => exact ⟨0, _, rfl, by decide, rfl, fun t h => absurd h (Nat.not_lt_zero _), hB, hA, hR, hO⟩
      case round =>
        clear hB hA hR hO
        obtain ⟨i, M, hk, hi, rfl, up, hf⟩ := hrel
        have HK2 : Hid (gk = 32 - i) := hk
        have HF : Hid (Below w.heap.size w wr ∧ Wds wr bs 0 S ∧ Hsh wr w.heap.size (List.replicate 32 0) ∧ Hsh wr bo M) := hf
        have UP : Hid (∀ t, t < i → M.getD t 0 = cut8 (S.getD (t / 4) 0) (24 - t % 4 * 8)) := up
        clear hk hf up
        by_cases h9 : i = 32
        · subst h9
          have EL : Hid (M = hashS S) := hashS_ext HF.out.2.2.2.1 UP.out
          have rb := HF.out.2.2.2.range
          have sz : ((byts M).toArray).size = 32 := by simp [byts_len, HF.out.2.2.2.1]
          have tr : wr.there w.heap.size 0 ((byts M).toArray).size := by rw [sz]; exact HF.out.2.2.1.there
          have oc := one_byts M
          obtain ⟨N, kN⟩ : ∃ N, byts M = N := ⟨_, rfl⟩
          rw [kN] at rb sz tr oc
          have HM : Hid (N.length = 32 ∧ byts (shaL X) = N) := ⟨by rw [← kN, byts_len]; exact HF.out.2.2.2.1, by rw [S8.out.1, ← EL.out, kN]⟩
          clear kN
          have il : (Tryd.prog.info? 27).map (·.size) = some N.length := by rw [HM.out.1]; kernel_rfl
          have il3 : (Tryd.prog.info? 27).map (·.size) = some N.toArray.size := by rw [sz]; kernel_rfl
          go_wp2_with (first
            | ((with_reducible refine wpList_load_at (ty := 27) bo 0 N _ rb Tryd.underlying27 ?_ il ?_ ?_); rfl; rfl; simp only [Act.put, List.setIfInBounds_toArray, List.set_cons_succ, List.set_cons_zero])
            | ((with_reducible refine wpList_store_at (ty := 27) w.heap.size 0 N.toArray tr il3 oc ?_ ?_ ?_); rfl; rfl))
          have ld := run_loadVar_mid (P := Tryd.prog) (wr.setCells w.heap.size 0 N) w.heap.size 0 27 N _ (World.rangeAt_setCells_same _ _ _ _ (by simpa using tr)) Tryd.underlying27 rfl il
          refine bodyPost_ret (v := .tuple #[.agg N.toArray, .bool true]) ?_ rfl ⟨by rw [HM.out.2], below_setCells (Nat.le_refl _) N 0 wr HF.out.1⟩
          simp [results, Tryd.results17, asAddr, ld]
        · have hi' : (i : Int) < 32 := by omega
          have e1 : ((i : Int) / 4).toNat = i / 4 := by omega
          have e2 : (24 - 8 * ((i : Int) % 4)).toNat = 24 - i % 4 * 8 := by omega
          have g0 := HF.out.2.1 (i / 4) (by rw [S8.out.2]; omega)
          rw [Nat.zero_add] at g0
          have gs := HF.out.2.2.2.2.1 i (by omega)
          have fs := HF.out.2.2.2.2.2 i (by omega)
          obtain ⟨z, kz⟩ : ∃ z, z = S.getD (i / 4) 0 := ⟨_, rfl⟩
          rw [← kz] at g0
          have KZ : Hid (z = S.getD (i / 4) 0) := kz
          clear kz
          have v0 := U_lo z; have v1 := U_hi z
          have vd := Y_cut z (24 - i % 4 * 8)
          go_wp2
          go_roundg (32 - (i + 1))
          case measure => have := HK2.out; omega
          case rel =>
            refine ⟨i + 1, M.set i (cut8 z (24 - i % 4 * 8)), rfl, by omega, by go_num, fun t ht => ?_, HF.out.1.setCell NB.out.2.2 _, HF.out.2.1.other NB.out.2.1 _, HF.out.2.2.1.other NB.out.1 _, HF.out.2.2.2.set i (by omega) _⟩
            by_cases e : t = i
            · subst e; rw [← KZ.out]; simp [List.getD, HF.out.2.2.2.1, show t < 32 by omega]
            · rw [← UP.out t (by omega)]; simp [List.getD, List.getElem?_set_ne (Ne.symm e)]
    · have tb : t + 64 ≤ F.length := by omega
      have t1 : (t : Int) < (F.length : Int) := by omega
      have t2 : (t : Int) + 64 ≤ (cf : Int) := by have := HL.out; omega
      have t3 : ¬ (cf = t) := by have := HL.out; omega
      have t4 : ((t : Int) + 64).toNat = t + 64 := by omega
      have t5 : t + 64 ≤ cf := by have := HL.out; omega
      have t6 : ¬ (cf - t = 0) := by omega
      obtain ⟨Z, kZ⟩ : ∃ Z, Z = blk F n := ⟨_, rfl⟩
      have HZ : Hid (Z.length = 64 ∧ Byo wr bf t Z ∧ stAt F (n + 1) = compL (stAt F n) Z) := by
        refine ⟨by rw [kZ]; exact blk_len (by omega), fun i hi => ?_, by rw [kZ]; rfl⟩
        rw [kZ, blk_len (by omega)] at hi
        have h := HF.out.2.2.1 (t + i) (by omega)
        rw [Nat.zero_add] at h
        rw [h, kZ, blk, List.getD, List.getD, List.getElem?_take, if_pos hi, List.getElem?_drop, et]
      have HT : Hid (t = 64 * n ∧ n < F.length / 64) := ⟨et, by omega⟩
      obtain ⟨s0, s1, s2, s3, s4, s5, s6, s7, eS⟩ := eight HF.out.2.2.2.1
      obtain ⟨m0, m1', m2, m3, m4, m5, m6, m7, eM⟩ := eight (compL_len (stAt F n) Z)
      have ES : Hid (stAt F (n + 1) = [m0, m1', m2, m3, m4, m5, m6, m7]) := by rw [HZ.out.2.2, eM]; exact rfl
      rw [eS] at eM
      have FS : Hid (E8 wr bs [s0, s1, s2, s3, s4, s5, s6, s7]) := by rw [← eS]; exact HF.out.2.2.2
      have CP : Hid (∀ W, Below wr.heap.size wr W → Calls Tryd.prog 13 #[.slice (some ⟨bf, t, none⟩) 64 (cf - t)] W fun e w' => ∃ g c, e = .returned (.slice (some ⟨g, 0, none⟩) 64 c) ∧ Byo w' g 0 Z ∧ Below W.heap.size W w') := by
        intro W hW
        have hZ : Byo W bf t Z := HZ.out.2.1.keep hW
        have h := copied_any (X := Z) (a := some ⟨bf, t, none⟩) (bd := bf) (od := t) (cd := cf - t) (by rw [HZ.out.1]; omega) (.inr rfl) W hZ
        rw [HZ.out.1] at h
        refine h.mono ?_
        rintro e w' ⟨v, rfl, hO, hb⟩
        obtain ⟨g, c, ev, _⟩ := own_form hO (by rw [HZ.out.1]; omega)
        subst ev
        refine ⟨g, c, by rw [HZ.out.1], fun i hi => ?_, hb⟩
        rw [Nat.zero_add, hO.row.cellAt i (by omega)]
        simp [byts, List.getD, hi]
      have CC : Hid (∀ W g c, Below wr.heap.size wr W → Byo W g 0 Z → Calls Tryd.prog 26 #[.agg #[.int .u32 (U s0), .int .u32 (U s1), .int .u32 (U s2), .int .u32 (U s3), .int .u32 (U s4), .int .u32 (U s5), .int .u32 (U s6), .int .u32 (U s7)], .slice (some ⟨g, 0, none⟩) 64 c] W fun e w' => e = .returned (.tuple #[.agg #[.int .u32 (U m0), .int .u32 (U m1'), .int .u32 (U m2), .int .u32 (U m3), .int .u32 (U m4), .int .u32 (U m5), .int .u32 (U m6), .int .u32 (U m7)], .int .i64 0]) ∧ Below W.heap.size W w') := by
        intro W g c hW hZ
        have h := comp_any (S := [s0, s1, s2, s3, s4, s5, s6, s7]) (cd := c) rfl HZ.out.1 W hZ ((HH.out.2.2.2.1.keep HF.out.1).keep hW)
        rw [eM] at h
        exact h
      have SK : Hid (∀ W, Below wr.heap.size wr W → (fun w' => w'.cell? ⟨bs, 0, none⟩ = some (.int .u32 (U s0)) ∧ w'.cell? ⟨bs, 1, none⟩ = some (.int .u32 (U s1)) ∧ w'.cell? ⟨bs, 2, none⟩ = some (.int .u32 (U s2)) ∧ w'.cell? ⟨bs, 3, none⟩ = some (.int .u32 (U s3)) ∧ w'.cell? ⟨bs, 4, none⟩ = some (.int .u32 (U s4)) ∧ w'.cell? ⟨bs, 5, none⟩ = some (.int .u32 (U s5)) ∧ w'.cell? ⟨bs, 6, none⟩ = some (.int .u32 (U s6)) ∧ w'.cell? ⟨bs, 7, none⟩ = some (.int .u32 (U s7))) W) := fun W hW => ⟨cell_keep hW (FS.out.at (i := 0) (by decide)), cell_keep hW (FS.out.at (i := 1) (by decide)), cell_keep hW (FS.out.at (i := 2) (by decide)), cell_keep hW (FS.out.at (i := 3) (by decide)), cell_keep hW (FS.out.at (i := 4) (by decide)), cell_keep hW (FS.out.at (i := 5) (by decide)), cell_keep hW (FS.out.at (i := 6) (by decide)), cell_keep hW (FS.out.at (i := 7) (by decide))⟩
      clear eS eM kZ et h8 hn
      have sla := fun w => slice_all (b := bf) (n := F.length) t5 w
      have HT5 : Hid (t + 64 ≤ cf) := t5
      have t0 : (0 : Int) ≤ (t : Int) + 64 := by omega
      have t7 : t + 64 - t = 64 := by omega
      have w64 : IntKind.i64.wrap ((t : Int) + 64) = (t : Int) + 64 := by rw [IntKind.wrap_i64]; omega
      clear t6 tb lP
      go_wp2_with fail
      go_region_held (fun w' => w'.cell? ⟨bs, 0, none⟩ = some (.int .u32 (U s0)) ∧ w'.cell? ⟨bs, 1, none⟩ = some (.int .u32 (U s1)) ∧ w'.cell? ⟨bs, 2, none⟩ = some (.int .u32 (U s2)) ∧ w'.cell? ⟨bs, 3, none⟩ = some (.int .u32 (U s3)) ∧ w'.cell? ⟨bs, 4, none⟩ = some (.int .u32 (U s4)) ∧ w'.cell? ⟨bs, 5, none⟩ = some (.int .u32 (U s5)) ∧ w'.cell? ⟨bs, 6, none⟩ = some (.int .u32 (U s6)) ∧ w'.cell? ⟨bs, 7, none⟩ = some (.int .u32 (U s7))) (((try dsimp only); refine SK.out _ ?_; (repeat (first | with_reducible assumption | with_reducible exact Below.refl _ _ | with_reducible refine Below.drew ?_ | with_reducible refine Below.alloc ?_ (by first | (simp; done) | (have := B1.size; simp; omega) | (have := B2.size; simp; omega)) _ | with_reducible refine Below.setCell ?_ (by first | (simp; done) | (have := B1.size; simp; omega) | (have := B2.size; simp; omega)) _)))) (first
        | (go_at_call 13; refine (CP.out _ (by repeat (first | with_reducible assumption | with_reducible exact Below.refl _ _ | with_reducible refine Below.drew ?_ | with_reducible refine Below.alloc ?_ (by first | (simp; done) | (have := B1.size; simp; omega) | (have := B2.size; simp; omega)) _ | with_reducible refine Below.setCell ?_ (by first | (simp; done) | (have := B1.size; simp; omega) | (have := B2.size; simp; omega)) _))).mono ?_; rintro e w1 ⟨g, c, rfl, hz1, hb1⟩; have B1 : Below wr.heap.size wr w1 := (Below.trans (by (repeat (first | with_reducible assumption | with_reducible exact Below.refl _ _ | with_reducible refine Below.drew ?_ | with_reducible refine Below.alloc ?_ (by first | (simp; done) | (have := B1.size; simp; omega) | (have := B2.size; simp; omega)) _ | with_reducible refine Below.setCell ?_ (by first | (simp; done) | (have := B1.size; simp; omega) | (have := B2.size; simp; omega)) _))) (hb1.mono (by first | (simp; done) | (simp; omega)))); (try (have Z1 : E8 w1 wr.heap.size (List.replicate 8 0) := (E8.zeros (W := wr.drew) 45 rfl).keep hb1)))
        | (go_at_call 26; refine (CC.out _ g c (by repeat (first | with_reducible assumption | with_reducible exact Below.refl _ _ | with_reducible refine Below.drew ?_ | with_reducible refine Below.alloc ?_ (by first | (simp; done) | (have := B1.size; simp; omega) | (have := B2.size; simp; omega)) _ | with_reducible refine Below.setCell ?_ (by first | (simp; done) | (have := B1.size; simp; omega) | (have := B2.size; simp; omega)) _)) (by first | exact hz1 | exact hz1.keep ((Below.refl _ _).alloc (Nat.le_refl _) _))).mono ?_; rintro e w2 ⟨rfl, hb2⟩; have B2 : Below wr.heap.size wr w2 := (Below.trans (by (repeat (first | with_reducible assumption | with_reducible exact Below.refl _ _ | with_reducible refine Below.drew ?_ | with_reducible refine Below.alloc ?_ (by first | (simp; done) | (have := B1.size; simp; omega) | (have := B2.size; simp; omega)) _ | with_reducible refine Below.setCell ?_ (by first | (simp; done) | (have := B1.size; simp; omega) | (have := B2.size; simp; omega)) _))) (hb2.mono (by first | (simp; done) | (have := B1.size; omega) | (have := B1.size; simp; omega)))); (first | (have Z2 := Z1.keep hb2; have y0 := Z2.at (i := 0) (by decide); have x0 := Z2.2.2 0 (by decide); have y1 := Z2.at (i := 1) (by decide); have x1 := Z2.2.2 1 (by decide); have y2 := Z2.at (i := 2) (by decide); have x2 := Z2.2.2 2 (by decide); have y3 := Z2.at (i := 3) (by decide); have x3 := Z2.2.2 3 (by decide); have y4 := Z2.at (i := 4) (by decide); have x4 := Z2.2.2 4 (by decide); have y5 := Z2.at (i := 5) (by decide); have x5 := Z2.2.2 5 (by decide); have y6 := Z2.at (i := 6) (by decide); have x6 := Z2.2.2 6 (by decide); have y7 := Z2.at (i := 7) (by decide); have x7 := Z2.2.2 7 (by decide)) | (have Z2 := (E8.zeros (W := w1) 45 rfl).keep hb2; have y0 := Z2.at (i := 0) (by decide); have x0 := Z2.2.2 0 (by decide); have y1 := Z2.at (i := 1) (by decide); have x1 := Z2.2.2 1 (by decide); have y2 := Z2.at (i := 2) (by decide); have x2 := Z2.2.2 2 (by decide); have y3 := Z2.at (i := 3) (by decide); have x3 := Z2.2.2 3 (by decide); have y4 := Z2.at (i := 4) (by decide); have x4 := Z2.2.2 4 (by decide); have y5 := Z2.at (i := 5) (by decide); have x5 := Z2.2.2 5 (by decide); have y6 := Z2.at (i := 6) (by decide); have x6 := Z2.2.2 6 (by decide); have y7 := Z2.at (i := 7) (by decide); have x7 := Z2.2.2 7 (by decide)) | skip)))
      · refine exit_world (fun W => Below wr.heap.size wr W ∧ E8 W w2.heap.size [m0, m1', m2, m3, m4, m5, m6, m7]) ⟨B2.alloc B2.size _, E8.new (L := [m0, m1', m2, m3, m4, m5, m6, m7]) rfl _ rfl⟩ ?_
        rintro V ⟨hv, hm⟩
        have HV : Hid (Below w.heap.size w V ∧ Hsh V w.heap.size (List.replicate 32 0) ∧ Byo V bf 0 F ∧ E8 V bs [s0, s1, s2, s3, s4, s5, s6, s7]) := ⟨HF.out.1.trans (hv.mono HF.out.1.size), HF.out.2.1.keep hv, HF.out.2.2.1.keep hv, FS.out.keep hv⟩
        (try clear y0 y1 y2 y3 y4 y5 y6 y7 x0 x1 x2 x3 x4 x5 x6 x7)
        (try clear Z2)
        (try clear Z1)
        have q0 : V.cell? ⟨w2.heap.size, 0, none⟩ = some (.int .u32 (U m0)) := hm.at (i := 0) (by decide)
        have k0 : V.cell? ⟨bs, 0, none⟩ = some (.int .u32 (U s0)) := HV.out.2.2.2.at (i := 0) (by decide)
        have f0 := HV.out.2.2.2.2.2 0 (by decide)
        have q1 : V.cell? ⟨w2.heap.size, 1, none⟩ = some (.int .u32 (U m1')) := hm.at (i := 1) (by decide)
        have k1 : V.cell? ⟨bs, 1, none⟩ = some (.int .u32 (U s1)) := HV.out.2.2.2.at (i := 1) (by decide)
        have f1 := HV.out.2.2.2.2.2 1 (by decide)
        have q2 : V.cell? ⟨w2.heap.size, 2, none⟩ = some (.int .u32 (U m2)) := hm.at (i := 2) (by decide)
        have k2 : V.cell? ⟨bs, 2, none⟩ = some (.int .u32 (U s2)) := HV.out.2.2.2.at (i := 2) (by decide)
        have f2 := HV.out.2.2.2.2.2 2 (by decide)
        have q3 : V.cell? ⟨w2.heap.size, 3, none⟩ = some (.int .u32 (U m3)) := hm.at (i := 3) (by decide)
        have k3 : V.cell? ⟨bs, 3, none⟩ = some (.int .u32 (U s3)) := HV.out.2.2.2.at (i := 3) (by decide)
        have f3 := HV.out.2.2.2.2.2 3 (by decide)
        have q4 : V.cell? ⟨w2.heap.size, 4, none⟩ = some (.int .u32 (U m4)) := hm.at (i := 4) (by decide)
        have k4 : V.cell? ⟨bs, 4, none⟩ = some (.int .u32 (U s4)) := HV.out.2.2.2.at (i := 4) (by decide)
        have f4 := HV.out.2.2.2.2.2 4 (by decide)
        have q5 : V.cell? ⟨w2.heap.size, 5, none⟩ = some (.int .u32 (U m5)) := hm.at (i := 5) (by decide)
        have k5 : V.cell? ⟨bs, 5, none⟩ = some (.int .u32 (U s5)) := HV.out.2.2.2.at (i := 5) (by decide)
        have f5 := HV.out.2.2.2.2.2 5 (by decide)
        have q6 : V.cell? ⟨w2.heap.size, 6, none⟩ = some (.int .u32 (U m6)) := hm.at (i := 6) (by decide)
        have k6 : V.cell? ⟨bs, 6, none⟩ = some (.int .u32 (U s6)) := HV.out.2.2.2.at (i := 6) (by decide)
        have f6 := HV.out.2.2.2.2.2 6 (by decide)
        have q7 : V.cell? ⟨w2.heap.size, 7, none⟩ = some (.int .u32 (U m7)) := hm.at (i := 7) (by decide)
        have k7 : V.cell? ⟨bs, 7, none⟩ = some (.int .u32 (U s7)) := HV.out.2.2.2.at (i := 7) (by decide)
        have f7 := HV.out.2.2.2.2.2 7 (by decide)
        have HB2 : Hid (B1.size = B1.size) := rfl
        clear hm hv sla hz1 hb1 hb2 HB2 m1 d2 d3 t0 t2 t3 t4 t5 t7 w64
        go_wp2
        go_roundg (F.length / 64 - (n + 1))
        case measure => have := HK.out; have := HT.out; omega
        case rel =>
          refine ⟨n + 1, rfl, by have := HT.out; omega, ?_, below_setCells (Nat.le_of_lt BS.out.1) (wrds [m0, m1', m2, m3, m4, m5, m6, m7]) 0 _ HV.out.1, HV.out.2.1.otherCells BS.out.2.2.symm (o := 0) (wrds [m0, m1', m2, m3, m4, m5, m6, m7]), HV.out.2.2.1.farCells (i := 0) BS.out.2.1.symm (wrds [m0, m1', m2, m3, m4, m5, m6, m7]), ?_⟩
          · have h : (t : Int) + 64 = ((64 * (n + 1) : Nat) : Int) := by have := HT.out; omega
            rw [h]
          · rw [ES.out]
            exact HV.out.2.2.2.stored (M := [m0, m1', m2, m3, m4, m5, m6, m7]) rfl
      · refine exit_world (fun W => Below wr.heap.size wr W ∧ E8 W w1.heap.size [m0, m1', m2, m3, m4, m5, m6, m7]) ⟨below_setCells B1.size (wrds [m0, m1', m2, m3, m4, m5, m6, m7]) 0 _ B2, Z2.stored (M := [m0, m1', m2, m3, m4, m5, m6, m7]) rfl⟩ ?_
        rintro V ⟨hv, hm⟩
        have HV : Hid (Below w.heap.size w V ∧ Hsh V w.heap.size (List.replicate 32 0) ∧ Byo V bf 0 F ∧ E8 V bs [s0, s1, s2, s3, s4, s5, s6, s7]) := ⟨HF.out.1.trans (hv.mono HF.out.1.size), HF.out.2.1.keep hv, HF.out.2.2.1.keep hv, FS.out.keep hv⟩
        (try clear y0 y1 y2 y3 y4 y5 y6 y7 x0 x1 x2 x3 x4 x5 x6 x7)
        (try clear Z2)
        (try clear Z1)
        have q0 : V.cell? ⟨w1.heap.size, 0, none⟩ = some (.int .u32 (U m0)) := hm.at (i := 0) (by decide)
        have k0 : V.cell? ⟨bs, 0, none⟩ = some (.int .u32 (U s0)) := HV.out.2.2.2.at (i := 0) (by decide)
        have f0 := HV.out.2.2.2.2.2 0 (by decide)
        have q1 : V.cell? ⟨w1.heap.size, 1, none⟩ = some (.int .u32 (U m1')) := hm.at (i := 1) (by decide)
        have k1 : V.cell? ⟨bs, 1, none⟩ = some (.int .u32 (U s1)) := HV.out.2.2.2.at (i := 1) (by decide)
        have f1 := HV.out.2.2.2.2.2 1 (by decide)
        have q2 : V.cell? ⟨w1.heap.size, 2, none⟩ = some (.int .u32 (U m2)) := hm.at (i := 2) (by decide)
        have k2 : V.cell? ⟨bs, 2, none⟩ = some (.int .u32 (U s2)) := HV.out.2.2.2.at (i := 2) (by decide)
        have f2 := HV.out.2.2.2.2.2 2 (by decide)
        have q3 : V.cell? ⟨w1.heap.size, 3, none⟩ = some (.int .u32 (U m3)) := hm.at (i := 3) (by decide)
        have k3 : V.cell? ⟨bs, 3, none⟩ = some (.int .u32 (U s3)) := HV.out.2.2.2.at (i := 3) (by decide)
        have f3 := HV.out.2.2.2.2.2 3 (by decide)
        have q4 : V.cell? ⟨w1.heap.size, 4, none⟩ = some (.int .u32 (U m4)) := hm.at (i := 4) (by decide)
        have k4 : V.cell? ⟨bs, 4, none⟩ = some (.int .u32 (U s4)) := HV.out.2.2.2.at (i := 4) (by decide)
        have f4 := HV.out.2.2.2.2.2 4 (by decide)
        have q5 : V.cell? ⟨w1.heap.size, 5, none⟩ = some (.int .u32 (U m5)) := hm.at (i := 5) (by decide)
        have k5 : V.cell? ⟨bs, 5, none⟩ = some (.int .u32 (U s5)) := HV.out.2.2.2.at (i := 5) (by decide)
        have f5 := HV.out.2.2.2.2.2 5 (by decide)
        have q6 : V.cell? ⟨w1.heap.size, 6, none⟩ = some (.int .u32 (U m6)) := hm.at (i := 6) (by decide)
        have k6 : V.cell? ⟨bs, 6, none⟩ = some (.int .u32 (U s6)) := HV.out.2.2.2.at (i := 6) (by decide)
        have f6 := HV.out.2.2.2.2.2 6 (by decide)
        have q7 : V.cell? ⟨w1.heap.size, 7, none⟩ = some (.int .u32 (U m7)) := hm.at (i := 7) (by decide)
        have k7 : V.cell? ⟨bs, 7, none⟩ = some (.int .u32 (U s7)) := HV.out.2.2.2.at (i := 7) (by decide)
        have f7 := HV.out.2.2.2.2.2 7 (by decide)
        have HB2 : Hid (B1.size = B1.size) := rfl
        clear hm hv sla hz1 hb1 hb2 HB2 m1 d2 d3 t0 t2 t3 t4 t5 t7 w64
        go_wp2
        go_roundg (F.length / 64 - (n + 1))
        case measure => have := HK.out; have := HT.out; omega
        case rel =>
          refine ⟨n + 1, rfl, by have := HT.out; omega, ?_, below_setCells (Nat.le_of_lt BS.out.1) (wrds [m0, m1', m2, m3, m4, m5, m6, m7]) 0 _ HV.out.1, HV.out.2.1.otherCells BS.out.2.2.symm (o := 0) (wrds [m0, m1', m2, m3, m4, m5, m6, m7]), HV.out.2.2.1.farCells (i := 0) BS.out.2.1.symm (wrds [m0, m1', m2, m3, m4, m5, m6, m7]), ?_⟩
          · have h : (t : Int) + 64 = ((64 * (n + 1) : Nat) : Int) := by have := HT.out; omega
            rw [h]
          · rw [ES.out]
            exact HV.out.2.2.2.stored (M := [m0, m1', m2, m3, m4, m5, m6, m7]) rfl
      · refine exit_world (fun W => Below wr.heap.size wr W ∧ E8 W wr.heap.size [m0, m1', m2, m3, m4, m5, m6, m7]) ⟨below_setCells (Nat.le_refl _) (wrds [m0, m1', m2, m3, m4, m5, m6, m7]) 0 _ B2, Z2.stored (M := [m0, m1', m2, m3, m4, m5, m6, m7]) rfl⟩ ?_
        rintro V ⟨hv, hm⟩
        have HV : Hid (Below w.heap.size w V ∧ Hsh V w.heap.size (List.replicate 32 0) ∧ Byo V bf 0 F ∧ E8 V bs [s0, s1, s2, s3, s4, s5, s6, s7]) := ⟨HF.out.1.trans (hv.mono HF.out.1.size), HF.out.2.1.keep hv, HF.out.2.2.1.keep hv, FS.out.keep hv⟩
        (try clear y0 y1 y2 y3 y4 y5 y6 y7 x0 x1 x2 x3 x4 x5 x6 x7)
        (try clear Z2)
        (try clear Z1)
        have q0 : V.cell? ⟨wr.heap.size, 0, none⟩ = some (.int .u32 (U m0)) := hm.at (i := 0) (by decide)
        have k0 : V.cell? ⟨bs, 0, none⟩ = some (.int .u32 (U s0)) := HV.out.2.2.2.at (i := 0) (by decide)
        have f0 := HV.out.2.2.2.2.2 0 (by decide)
        have q1 : V.cell? ⟨wr.heap.size, 1, none⟩ = some (.int .u32 (U m1')) := hm.at (i := 1) (by decide)
        have k1 : V.cell? ⟨bs, 1, none⟩ = some (.int .u32 (U s1)) := HV.out.2.2.2.at (i := 1) (by decide)
        have f1 := HV.out.2.2.2.2.2 1 (by decide)
        have q2 : V.cell? ⟨wr.heap.size, 2, none⟩ = some (.int .u32 (U m2)) := hm.at (i := 2) (by decide)
        have k2 : V.cell? ⟨bs, 2, none⟩ = some (.int .u32 (U s2)) := HV.out.2.2.2.at (i := 2) (by decide)
        have f2 := HV.out.2.2.2.2.2 2 (by decide)
        have q3 : V.cell? ⟨wr.heap.size, 3, none⟩ = some (.int .u32 (U m3)) := hm.at (i := 3) (by decide)
        have k3 : V.cell? ⟨bs, 3, none⟩ = some (.int .u32 (U s3)) := HV.out.2.2.2.at (i := 3) (by decide)
        have f3 := HV.out.2.2.2.2.2 3 (by decide)
        have q4 : V.cell? ⟨wr.heap.size, 4, none⟩ = some (.int .u32 (U m4)) := hm.at (i := 4) (by decide)
        have k4 : V.cell? ⟨bs, 4, none⟩ = some (.int .u32 (U s4)) := HV.out.2.2.2.at (i := 4) (by decide)
        have f4 := HV.out.2.2.2.2.2 4 (by decide)
        have q5 : V.cell? ⟨wr.heap.size, 5, none⟩ = some (.int .u32 (U m5)) := hm.at (i := 5) (by decide)
        have k5 : V.cell? ⟨bs, 5, none⟩ = some (.int .u32 (U s5)) := HV.out.2.2.2.at (i := 5) (by decide)
        have f5 := HV.out.2.2.2.2.2 5 (by decide)
        have q6 : V.cell? ⟨wr.heap.size, 6, none⟩ = some (.int .u32 (U m6)) := hm.at (i := 6) (by decide)
        have k6 : V.cell? ⟨bs, 6, none⟩ = some (.int .u32 (U s6)) := HV.out.2.2.2.at (i := 6) (by decide)
        have f6 := HV.out.2.2.2.2.2 6 (by decide)
        have q7 : V.cell? ⟨wr.heap.size, 7, none⟩ = some (.int .u32 (U m7)) := hm.at (i := 7) (by decide)
        have k7 : V.cell? ⟨bs, 7, none⟩ = some (.int .u32 (U s7)) := HV.out.2.2.2.at (i := 7) (by decide)
        have f7 := HV.out.2.2.2.2.2 7 (by decide)
        have HB2 : Hid (B1.size = B1.size) := rfl
        clear hm hv sla hz1 hb1 hb2 HB2 m1 d2 d3 t0 t2 t3 t4 t5 t7 w64
        go_wp2
        go_roundg (F.length / 64 - (n + 1))
        case measure => have := HK.out; have := HT.out; omega
        case rel =>
          refine ⟨n + 1, rfl, by have := HT.out; omega, ?_, below_setCells (Nat.le_of_lt BS.out.1) (wrds [m0, m1', m2, m3, m4, m5, m6, m7]) 0 _ HV.out.1, HV.out.2.1.otherCells BS.out.2.2.symm (o := 0) (wrds [m0, m1', m2, m3, m4, m5, m6, m7]), HV.out.2.2.1.farCells (i := 0) BS.out.2.1.symm (wrds [m0, m1', m2, m3, m4, m5, m6, m7]), ?_⟩
          · have h : (t : Int) + 64 = ((64 * (n + 1) : Nat) : Int) := by have := HT.out; omega
            rw [h]
          · rw [ES.out]
            exact HV.out.2.2.2.stored (M := [m0, m1', m2, m3, m4, m5, m6, m7]) rfl


end Go.Proofs.YtniabadlbockaaaDoor

import Derived.Test.YtcgibaggponfnaaDoorKInv
namespace Go.Proofs.YtcgibaggponfnaaDoor
open Go.RowKit Go.Sort

theorem dig_none : digV 0 [] = .agg (byts noneL).toArray := by
  unfold digV
  rw [← none_known]
  rfl
theorem prts_nil (W : World) (b o : Nat) : Prts W b o [] := fun i hi => absurd hi (by simp)

theorem one_part {W : World} {g c : Nat} {X : List (BitVec 8)} (t : TypeId) (hc : X.length ≤ c) (h : Byo W g 0 X) : Prts (W.alloc (.cells #[.slice (some ⟨g, 0, none⟩) X.length c] t)) W.heap.size 0 [⟨some ⟨g, 0, none⟩, g, 0, c, X⟩] := by
  intro i hi
  have e : i = 0 := by simpa using hi
  subst e
  refine ⟨?_, .inr rfl, hc, h.keep ((Below.refl _ _).alloc (Nat.le_refl _) _)⟩
  rw [World.cell?_alloc_mark]
  rfl
theorem cat_one (p : Part) : catX [p] = p.X := by simp [catX]
theorem Prts.grown {W : World} {b o : Nat} {PS : List Part} (h : Prts W b o PS) (d : Nat) (os : Array Obj) : Prts (grow (redrawn W d) os) b o PS := fun i hi =>
  ⟨cell_regrown (h i hi).1 d os, (h i hi).2.1, (h i hi).2.2.1, fun j hj => cell_regrown ((h i hi).2.2.2 j hj) d os⟩
theorem Sp.grown {W : World} {b : Nat} {k : Int} {L : List (BitVec 64)} {t : Nat} (h : Sp W b k L t) (d : Nat) (os : Array Obj) : Sp (grow (redrawn W d) os) b k L t := h.keep (below_regrown W d os)
theorem Hsh.grown {W : World} {b : Nat} {M : List (BitVec 8)} (h : Hsh W b M) (d : Nat) (os : Array Obj) : Hsh (grow (redrawn W d) os) b M := h.keep (below_regrown W d os)
theorem Inv.prts {w W : World} {b0 b1 gp cap : Nat} {PS : List Part} {L0 L1 : List (BitVec 64)} {t0 t1 : Nat} (h : Inv w W b0 b1 (.slice (some ⟨gp, 0, none⟩) PS.length cap) PS L0 L1 t0 t1) : Prts W gp 0 PS ∧ PS.length ≤ cap := by
  have hc : PS.length ≤ cap := by
    rcases h.own.2 with ⟨e, _⟩ | ⟨g, c, cur, e, _, _, hle, _⟩
    · cases e
    · cases e; exact hle
  refine ⟨fun i hi => ⟨?_, ?_⟩, hc⟩
  · rw [Nat.zero_add, h.own.cellAt i (by omega)]
    simp [List.getD, List.getElem?_eq_getElem hi]
  · have hm : PS.getD i .none ∈ PS := by rw [List.getD, List.getElem?_eq_getElem hi]; exact List.getElem_mem hi
    exact (h.parts _ hm).1

theorem info_slice : (Tryd.prog.info? 27).map (fun i => (i.zero, i.size, i.bytes)) = some (some (.slice none 0 0), 1, 24) := by kernel_rfl
theorem lent_n {a : Option Addr} {bd od cd m : Nat} {X : List (BitVec 8)} (e : X.length = m) (hl : m < 1073741824) (ha : At a bd od X) (w : World) (hX : Byo w bd od X) :
    Calls Tryd.prog 15 #[.slice a m cd] w fun e w' => ∃ g, e = .returned (.slice (some ⟨g, 0, none⟩) m (m + 200)) ∧ w.heap.size ≤ g ∧ g < w'.heap.size ∧ Byo w' g 0 X ∧ Below w.heap.size w w' := by
  subst e
  refine (lent_any hl ha w hX).mono ?_
  rintro e w' ⟨g, rfl, h1, h2, h3⟩
  generalize hM : List.replicate 200 (195 : BitVec 8) = M at h2
  have lM : M.length = 200 := by rw [← hM, List.length_replicate]
  clear hM
  refine ⟨g, rfl, h1, World.block_lt_of_cell? w' ⟨g, 0 + 0, none⟩ (h2.1 0 (by rw [List.length_append]; omega)), fun i hi => ?_, h3⟩
  rw [h2.1 i (by rw [List.length_append]; omega)]
  rw [List.getD, List.getElem?_append_left hi, List.getD]
theorem write_n {b bd od cd m : Nat} {a : Option Addr} {k : Int} {L : List (BitVec 64)} {t : Nat} {X : List (BitVec 8)} (e : X.length = m) (ne : bd ≠ b) (nt : 3 ≠ b) (nm : 0 ≠ b) (hs : t + m < 1073741824) (hc : m ≤ cd) (hx : At a bd od X) (w : World) (hS : Sp w b k L t) (hX : Byo w bd od X) (ht : Tab w 3 turnsN) (hm : Lns w 0 marksN) :
    Calls Tryd.prog 16 #[.pointer (some ⟨b, 0, none⟩), .slice a m cd] w fun e w' => e = .returned (.tuple #[]) ∧ Sp w' b k (absb L t X) (t + m) ∧ Off b w w' := by
  subst e
  exact write_any ne nt nm hs hc hx w hS hX ht hm

set_option maxRecDepth 100000 in
set_option maxHeartbeats 4000000 in
theorem cuts_any {a sa : Option Addr} {bt ot ct bs os cs : Nat} {X : List (BitVec 8)} {S : List Int} (hx : X.length < 1073741824) (hc : X.length ≤ ct) (hs : S.length < 1073741824) (ha : At a bt ot X) (hsa : S = [] ∨ sa = some ⟨bs, os, none⟩) (w : World) (hX : Byo w bt ot X) (hS : ∀ i, i < S.length → w.cell? ⟨bs, os + i, none⟩ = some (.int .i64 (S.getD i 0)))
    (ht : Tab w 3 turnsN) (hm : Lns w 0 marksN) :
    Calls Tryd.prog 5 #[.slice a X.length ct, .slice sa S.length cs] w fun e w' => e = .returned (.bool true) ∧ Below w.heap.size w w' := by
  have HH : Hid (Tab w 3 turnsN ∧ Lns w 0 marksN) := ⟨ht, hm⟩
  have HX : Hid (At a bt ot X ∧ Byo w bt ot X ∧ X.length < 1073741824 ∧ X.length ≤ ct) := ⟨ha, hX, hx, hc⟩
  have HS : Hid ((S = [] ∨ sa = some ⟨bs, os, none⟩) ∧ (∀ i, i < S.length → w.cell? ⟨bs, os + i, none⟩ = some (.int .i64 (S.getD i 0))) ∧ S.length < 1073741824) := ⟨hsa, hS, hs⟩
  clear ht hm ha hX hx hsa hS hs hc
  have LG : Hid (3 < w.heap.size ∧ 0 < w.heap.size) := ⟨HH.out.1.lt (by decide), HH.out.2.lt (by decide)⟩
  obtain ⟨i1, hi1', hz0, hz1, hz2⟩ := info_parts info_slice
  have HZ : Hid (Tryd.prog.info? 27 = some i1 ∧ i1.zero = some (.slice none 0 0) ∧ i1.size = 1 ∧ i1.bytes = 24) := ⟨hi1', hz0, hz1, hz2⟩
  clear hi1' hz0 hz1 hz2
  have eq0 := fun w => eq_hash (X := noneL) (Zs := noneL) rfl rfl w
  simp only [decide_true] at eq0
  go_enter Tryd.func5, Tryd.ntmps5
  go_wp2_with fail
  refine (sum_any (PS := []) (bp := 0) (op := 0) (by decide) (by decide) (by decide) (.inl rfl) _ (prts_nil _ _ _) HH.out.1 HH.out.2).mono ?_
  rintro e w1 ⟨rfl, B⟩
  rw [show catX [] = [] from rfl, dig_none]
  go_wp2_with fail
  refine (none_any _).mono ?_
  rintro e w2 ⟨rfl, hb⟩
  replace B := B.trans (hb.mono B.size)
  clear hb
  go_wp2_with fail
  refine (new0_any _).mono ?_
  rintro e w3 ⟨b0, rfl, g0, S0, hb⟩
  have B3 : Hid (Below w.heap.size w w3 ∧ w.heap.size ≤ b0 ∧ Sp w3 b0 0 (List.replicate 25 0) 0) := ⟨B.trans (hb.mono B.size), Nat.le_trans B.size g0, S0⟩
  clear hb B g0 S0 w1
  go_wp2_with fail
  refine (new1_any _).mono ?_
  rintro e w4 ⟨b1, rfl, g1, S1, hb⟩
  have B4 : Hid (Below w.heap.size w w4 ∧ w.heap.size ≤ b0 ∧ w.heap.size ≤ b1 ∧ b0 ≠ b1 ∧ Sp w4 b0 0 (List.replicate 25 0) 0 ∧ Sp w4 b1 1 (List.replicate 25 0) 0) :=
    ⟨B3.out.1.trans (hb.mono B3.out.1.size), B3.out.2.1, Nat.le_trans B3.out.1.size g1, by have := B3.out.2.2.lt; omega, B3.out.2.2.keep hb, S1⟩
  clear hb B3 g1 S1 w2
  go_wp2_with fail
  refine (num_any 0 _).mono ?_
  rintro e w5 ⟨rfl, rfl⟩
  go_wp2_with fail
  refine (num_any 0 _).mono ?_
  rintro e w6 ⟨rfl, rfl⟩
  go_wp2_with fail
  have I0 : Hid (Inv w w6 b0 b1 (.slice none 0 0) [] (List.replicate 25 0) (List.replicate 25 0) 0 0) := ⟨B4.out.1, B4.out.2.1, B4.out.2.2.1, B4.out.2.2.2.1, B4.out.2.2.2.2.1, B4.out.2.2.2.2.2, World.ownsRow_nil _ _ _ _, by simp [Value.ownBlock], by simp [Value.ownBlock], fun p hp => by cases hp⟩
  clear B4 w3
  go_loopg [5, 10, 11] (S.length + 1) (fun g pv av iv wr => ∃ (i n : Nat) (PS : List Part), g = S.length + 1 - i ∧ i ≤ S.length + 1 ∧ n ≤ X.length ∧ (i = S.length + 1 → n = X.length) ∧ av = .int .i64 (n : Int) ∧ iv = .int .i64 (i : Int) ∧ PS.length = i ∧ catX PS = X.take n ∧ Inv w wr b0 b1 pv PS (absb (List.replicate 25 0) 0 (X.take n)) (absb (List.replicate 25 0) 0 (X.take n)) n n)
  case atStart => exact ⟨0, 0, [], rfl, Nat.zero_le _, Nat.zero_le _, fun h => absurd h (by omega), rfl, rfl, rfl, rfl, I0.out⟩
  case round =>
    clear I0
    obtain ⟨i, n, PS, hk, hi, hn, hlast, rfl, rfl, hps, hcat, hinv⟩ := hrel
    have HK : Hid (gk = S.length + 1 - i) := hk
    have HI : Hid (Inv w wr b0 b1 u5 PS (absb (List.replicate 25 0) 0 (X.take n)) (absb (List.replicate 25 0) 0 (X.take n)) n n ∧ PS.length = i ∧ catX PS = X.take n ∧ n ≤ X.length ∧ (i = S.length + 1 → n = X.length)) := ⟨hinv, hps, hcat, hn, hlast⟩
    clear hk hinv hps hcat hn hlast
    by_cases h8 : i = S.length + 1
    · have en : n = X.length := HI.out.2.2.2.2 h8
      subst h8
      subst en
      obtain ⟨D, kD⟩ : ∃ D, D = absb (List.replicate 25 0) 0 X := ⟨_, rfl⟩
      have I6 : Hid (Inv w wr b0 b1 u5 PS D D X.length X.length ∧ PS.length = S.length + 1 ∧ catX PS = X) := by
        have h := HI.out
        rw [List.take_length, ← kD] at h
        exact ⟨h.1, h.2.1, h.2.2.1⟩
      have I6' : Hid (True ∧ PS.length = S.length + 1 ∧ catX PS = X) := ⟨trivial, I6.out.2⟩
      obtain ⟨gp, cap, ev⟩ : ∃ gp cap, u5 = .slice (some ⟨gp, 0, none⟩) PS.length cap := by
        rcases I6.out.1.own.2 with h | ⟨g, cap, _, h, _⟩
        · have := h.2; have := I6.out.2.1; omega
        · exact ⟨g, cap, h⟩
      subst ev
      obtain ⟨M0, kM0⟩ : ∃ M, M = hashL (finL 0 D X.length) := ⟨_, rfl⟩
      obtain ⟨M1, kM1⟩ : ∃ M, M = hashL (finL 1 D X.length) := ⟨_, rfl⟩
      have DG : Hid (digV 0 X = .agg (byts M0).toArray ∧ digV 1 X = .agg (byts M1).toArray ∧ M0 = hashL (finL 0 D X.length) ∧ M1 = hashL (finL 1 D X.length)) := ⟨by rw [kM0, kD, digV], by rw [kM1, kD, digV], kM0, kM1⟩
      have l0 : M0.length = 32 := by rw [kM0, hashL_len]
      have l1 : M1.length = 32 := by rw [kM1, hashL_len]
      have L01 : Hid (M0.length = 32 ∧ M1.length = 32) := ⟨l0, l1⟩
      clear kD kM0 kM1 HI
      go_wp2_with fail
      refine (lent_n (X := X) rfl HX.out.2.2.1 HX.out.1 _ (fun j hj => by have h := HX.out.2.1 j hj; rw [I6.out.1.below.cell (p := ⟨bt, ot + j, none⟩) (World.block_lt_of_cell? w _ h)]; exact h)).mono ?_
      rintro e w7 ⟨g, rfl, hg, hlt, hR, hb⟩
      have I7 : Hid (Inv w w7 b0 b1 (.slice (some ⟨gp, 0, none⟩) PS.length cap) PS D D X.length X.length) := I6.out.1.same hb
      have G7 : Hid (Byo w7 g 0 X) := hR
      clear hg hlt hR hb
      go_wp2_with fail
      have Ia : Hid (Inv w (w7.alloc (.cells #[.slice (some ⟨g, 0, none⟩) X.length (X.length + 200)] 27)) b0 b1 (.slice (some ⟨gp, 0, none⟩) PS.length cap) PS D D X.length X.length) := I7.out.same ((Below.refl _ _).alloc (Nat.le_refl _) _)
      refine (sum_any (PS := [⟨some ⟨g, 0, none⟩, g, 0, X.length + 200, X⟩]) (by rw [cat_one]; exact HX.out.2.2.1) (by simp) (Nat.le_refl _) (.inr rfl) _ (one_part _ (by omega) G7.out) (HH.out.1.keep Ia.out.below) (HH.out.2.keep Ia.out.below)).mono ?_
      rintro e w8 ⟨rfl, hb⟩
      rw [cat_one, DG.out.1]
      have I8 : Hid (Inv w w8 b0 b1 (.slice (some ⟨gp, 0, none⟩) PS.length cap) PS D D X.length X.length) := Ia.out.same hb
      clear hb Ia I7 G7 I6
      have oc0 := one_byts M0
      have oc1 := one_byts M1
      have sz0 : ((byts M0).toArray).size = 32 := by simp [byts_len, l0]
      have sz1 : ((byts M1).toArray).size = 32 := by simp [byts_len, l1]
      clear l0 l1
      go_wp2_with (refine wpList_store_mid rfl 30 _ _ rfl w8.heap.size 0 (byts M0).toArray rfl rfl ?th ?sz oc0 ?go; rw [sz0]; exact (Hsh.zeros _ rfl).there; rw [sz0]; kernel_rfl; refine wpList_world (fun W => Inv w W b0 b1 (.slice (some ⟨gp, 0, none⟩) PS.length cap) PS D D X.length X.length ∧ Hsh W w8.heap.size M0) ⟨I8.out.same (below_setCells (Nat.le_refl _) _ 0 _ ((Below.refl _ _).alloc (Nat.le_refl _) _)), (Hsh.zeros _ rfl).stored L01.out.1⟩ ?_; intro W9 hh; have I9 : Hid (Inv w W9 b0 b1 (.slice (some ⟨gp, 0, none⟩) PS.length cap) PS D D X.length X.length ∧ Hsh W9 w8.heap.size M0) := hh; clear hh)
      have n8 : Hid (w8.heap.size = w8.heap.size) := rfl
      generalize w8.heap.size = g0 at *
      clear n8
      refine (lent_n (X := X) rfl HX.out.2.2.1 HX.out.1 _ (fun j hj => by have h := HX.out.2.1 j hj; rw [I9.out.1.below.cell (p := ⟨bt, ot + j, none⟩) (World.block_lt_of_cell? w _ h)]; exact h)).mono ?_
      rintro e wa ⟨g, rfl, hg, hlt, hR, hb⟩
      have Ia : Hid (Inv w wa b0 b1 (.slice (some ⟨gp, 0, none⟩) PS.length cap) PS D D X.length X.length ∧ Hsh wa g0 M0) := ⟨I9.out.1.same hb, I9.out.2.keep hb⟩
      have Ga : Hid (Byo wa g 0 X) := hR
      clear hg hlt hR hb I9
      go_wp2_with fail
      have Ib : Hid (Inv w (wa.alloc (.cells #[.slice (some ⟨g, 0, none⟩) X.length (X.length + 200)] 27)) b0 b1 (.slice (some ⟨gp, 0, none⟩) PS.length cap) PS D D X.length X.length ∧ Hsh (wa.alloc (.cells #[.slice (some ⟨g, 0, none⟩) X.length (X.length + 200)] 27)) g0 M0) := ⟨Ia.out.1.same ((Below.refl _ _).alloc (Nat.le_refl _) _), Ia.out.2.alloc _⟩
      refine (sha_any (PS := [⟨some ⟨g, 0, none⟩, g, 0, X.length + 200, X⟩]) (by rw [cat_one]; exact HX.out.2.2.1) (by simp) (Nat.le_refl _) (.inr rfl) _ (one_part _ (by omega) Ga.out) (HH.out.1.keep Ib.out.1.below) (HH.out.2.keep Ib.out.1.below)).mono ?_
      rintro e wb ⟨rfl, hb⟩
      rw [cat_one, DG.out.2.1]
      have Ic : Hid (Inv w wb b0 b1 (.slice (some ⟨gp, 0, none⟩) PS.length cap) PS D D X.length X.length ∧ Hsh wb g0 M0) := ⟨Ib.out.1.same hb, Ib.out.2.keep hb⟩
      clear hb Ia Ib Ga
      go_wp2_with (refine wpList_store_mid rfl 30 _ _ rfl wb.heap.size 0 (byts M1).toArray rfl rfl ?th2 ?sz2 oc1 ?go2; rw [sz1]; exact (Hsh.zeros _ rfl).there; rw [sz1]; kernel_rfl; refine wpList_world (fun W => Inv w W b0 b1 (.slice (some ⟨gp, 0, none⟩) PS.length cap) PS D D X.length X.length ∧ Hsh W g0 M0 ∧ Hsh W wb.heap.size M1) ⟨Ic.out.1.same (below_setCells (Nat.le_refl _) _ 0 _ ((Below.refl _ _).alloc (Nat.le_refl _) _)), (Ic.out.2.alloc _).otherCells (by have := Ic.out.2.lt; omega) _, (Hsh.zeros _ rfl).stored L01.out.2⟩ ?_; intro Wd hh; have Ie : Hid (Inv w Wd b0 b1 (.slice (some ⟨gp, 0, none⟩) PS.length cap) PS D D X.length X.length ∧ Hsh Wd g0 M0 ∧ Hsh Wd wb.heap.size M1) := hh; clear hh)
      generalize wb.heap.size = g1 at *
      simp only [Act.put]
      clear Ic oc0 oc1 sz0 sz1
      have q0 := fun w => eq_hash L01.out.1 L01.out.1 w
      have q1 := fun w => eq_hash L01.out.2 L01.out.2 w
      simp only [decide_true] at q0 q1
      have ld0 : Hid (∀ w', (∃ p : Regrown, w' = grow (redrawn Wd p.d) p.os) → w'.rangeAt g0 0 (byts M0)) := by rintro w' ⟨p, rfl⟩; exact (Ie.out.2.1.grown _ _).range
      have ld1 : Hid (∀ w', (∃ p : Regrown, w' = grow (redrawn Wd p.d) p.os) → w'.rangeAt g1 0 (byts M1)) := by rintro w' ⟨p, rfl⟩; exact (Ie.out.2.2.grown _ _).range
      have m0 : Hid ((byts M0).length = 32 ∧ (byts M1).length = 32) := by rw [byts_len, byts_len]; exact L01.out
      have TT : Hid (Tab Wd 3 turnsN ∧ Lns Wd 0 marksN) := ⟨HH.out.1.keep Ie.out.1.below, HH.out.2.keep Ie.out.1.below⟩
      have CP : Hid ((catX PS).length < 1073741824 ∧ PS.length ≤ 1073741824 ∧ catX PS = X) := by
        have h1 := I6'.out.2.1
        have h2 := HS.out.2.2
        have h3 : PS.length ≤ 1073741824 := by omega
        exact ⟨by rw [I6'.out.2.2]; exact HX.out.2.2.1, h3, I6'.out.2.2⟩
      have S0 : Hid (∀ d os, Calls Tryd.prog 11 #[.slice (some ⟨gp, 0, none⟩) PS.length cap] (grow (redrawn Wd d) os) fun e w' => e = .returned (.agg (byts M0).toArray) ∧ Below (grow (redrawn Wd d) os).heap.size (grow (redrawn Wd d) os) w') := fun d os => by
        have h := sum_any CP.out.1 CP.out.2.1 Ie.out.1.prts.2 (.inr rfl) _ (Ie.out.1.prts.1.grown d os) (TT.out.1.grown d os) (TT.out.2.grown d os)
        rw [CP.out.2.2, DG.out.1] at h
        exact h
      have S1 : Hid (∀ d os, Calls Tryd.prog 17 #[.slice (some ⟨gp, 0, none⟩) PS.length cap] (grow (redrawn Wd d) os) fun e w' => e = .returned (.agg (byts M1).toArray) ∧ Below (grow (redrawn Wd d) os).heap.size (grow (redrawn Wd d) os) w') := fun d os => by
        have h := sha_any CP.out.1 CP.out.2.1 Ie.out.1.prts.2 (.inr rfl) _ (Ie.out.1.prts.1.grown d os) (TT.out.1.grown d os) (TT.out.2.grown d os)
        rw [CP.out.2.2, DG.out.2.1] at h
        exact h
      have S2 : Hid (∀ d os, Calls Tryd.prog 18 #[.pointer (some ⟨b0, 0, none⟩)] (grow (redrawn Wd d) os) fun e w' => e = .returned (.agg (byts M0).toArray) ∧ Below (grow (redrawn Wd d) os).heap.size (grow (redrawn Wd d) os) w') := fun d os => by
        have h := ssum_any HX.out.2.2.1 _ (Ie.out.1.s0.grown d os) (TT.out.1.grown d os) (TT.out.2.grown d os)
        rw [← DG.out.2.2.1] at h
        exact h
      have S3 : Hid (∀ d os, Calls Tryd.prog 18 #[.pointer (some ⟨b1, 0, none⟩)] (grow (redrawn Wd d) os) fun e w' => e = .returned (.agg (byts M1).toArray) ∧ Below (grow (redrawn Wd d) os).heap.size (grow (redrawn Wd d) os) w') := fun d os => by
        have h := ssum_any HX.out.2.2.1 _ (Ie.out.1.s1.grown d os) (TT.out.1.grown d os) (TT.out.2.grown d os)
        rw [← DG.out.2.2.2] at h
        exact h
      have S4 : Hid (∀ d os, Calls Tryd.prog 19 #[.pointer (some ⟨b0, 0, none⟩)] (grow (redrawn Wd d) os) fun e w' => e = .returned (.int .i64 (X.length : Int)) ∧ Below (grow (redrawn Wd d) os).heap.size (grow (redrawn Wd d) os) w') := fun d os =>
        (len_any _ (Ie.out.1.s0.grown d os).2.2.2.1).mono fun _ _ ⟨h1, h2⟩ => ⟨h1, by rw [h2]; exact Below.refl _ _⟩
      refine wp_region_quiet_below (by kernel_rfl) (by kernel_rfl) ?_
      repeat
        first
          | go_big_quiet_skip
          | (go_big_quiet_want; go_big_quiet_op; go_big_quiet_on)
          | (go_big_quiet_want; refine quiet_load_mid 30 _ rfl g0 0 rfl (byts M0) _ ld0.out Tryd.underlying30 rfl (by rw [m0.out.1]; kernel_rfl) ?_; simp only [Act.put, List.setIfInBounds_toArray, List.set_cons_succ, List.set_cons_zero]; go_big_quiet_on)
          | (go_big_quiet_want; refine quiet_load_mid 30 _ rfl g1 0 rfl (byts M1) _ ld1.out Tryd.underlying30 rfl (by rw [m0.out.2]; kernel_rfl) ?_; simp only [Act.put, List.setIfInBounds_toArray, List.set_cons_succ, List.set_cons_zero]; go_big_quiet_on)
          | (go_big_quiet_want
             go_big_quiet_op
             apply Exists.intro
             refine ⟨fun p => ?_, ?_⟩
             · first
                 | (go_at_call 11; exact Calls.regrown_of (S0.out _ _))
                 | (go_at_call 17; exact Calls.regrown_of (S1.out _ _))
                 | (go_at_call 18; first | (with_reducible exact Calls.regrown_of (S2.out _ _)) | (with_reducible exact Calls.regrown_of (S3.out _ _)))
                 | (go_at_call 19; exact Calls.regrown_of (S4.out _ _))
             go_big_quiet_on)
      refine wpQuiet_nil ?_
      rintro we ⟨p, rfl⟩
      have hb := Ie.out.1.below.trans ((below_regrown Wd p.d p.os).mono Ie.out.1.below.size)
      generalize grow (redrawn Wd p.d) p.os = we at *
      go_wp2
      go_ret
      exact ⟨rfl, hb⟩
    · have hi1 : i ≤ S.length := by omega
      obtain ⟨r, er⟩ : ∃ r : Nat, (X.length : Int) - (n : Int) = (r : Int) := ⟨X.length - n, by have := HI.out; omega⟩
      have ER : Hid (X.length - n = r ∧ n + r = X.length) := by have h : X.length - n = r ∧ n + r = X.length := (by have := HI.out; omega); exact h
      have rb : (r : Int) < 1073741824 := by have := HX.out; have := ER.out; omega
      have nb : (n : Int) < 1073741824 := by have := HX.out; have := ER.out; omega
      obtain ⟨a2, hpt⟩ : ∃ a2, (if ct = n then a else Option.map (fun x => x.add n) a) = a2 := ⟨_, rfl⟩
      have AT : Hid (∀ m, m ≤ r → At a2 bt (ot + n) ((X.drop n).take m)) := by
        intro m hm
        rcases HX.out.1 with h | h
        · exact .inl (by rw [h]; simp)
        · by_cases e : ct = n
          · refine .inl ?_
            have h1 : X.drop n = [] := List.drop_eq_nil_of_le (by have := HX.out; omega)
            rw [h1]; simp
          · rw [if_neg e, h] at hpt
            exact .inr (by rw [← hpt, Option.map_some, Addr.add_mid])
      have BY : Hid (∀ m, m ≤ r → ∀ W, Below w.heap.size w W → Byo W bt (ot + n) ((X.drop n).take m)) := by
        intro m hm W hW j hj
        rw [List.length_take, List.length_drop] at hj
        have h := HX.out.2.1 (n + j) (by omega)
        rw [hW.cell (p := ⟨bt, ot + n + j, none⟩) (World.block_lt_of_cell? w _ (by rw [show ot + n + j = ot + (n + j) by omega]; exact h)), show ot + n + j = ot + (n + j) by omega, h]
        simp [List.getD, show j < m by omega]
      by_cases h9 : i = S.length
      · subst h9
        have hnm : n + r ≤ ct := by have := HX.out; have := ER.out; omega
        have hnm' : (n : Int) + (r : Int) ≤ (ct : Int) := by omega
        obtain ⟨Z, kZ⟩ : ∃ Z, Z = (X.drop n).take r := ⟨_, rfl⟩
        have lZ : Hid (Z.length = r ∧ r < 1073741824 ∧ n + r < 1073741824) := by
          have h : Z.length = r := by rw [kZ, List.length_take, List.length_drop]; have := ER.out; omega
          have := HX.out; have := ER.out
          exact ⟨h, by omega, by omega⟩
        have AZ : Hid (At a2 bt (ot + n) Z ∧ ∀ W, Below w.heap.size w W → Byo W bt (ot + n) Z) := by rw [kZ]; exact ⟨AT.out r (Nat.le_refl _), BY.out r (Nat.le_refl _)⟩
        have FC : Hid (X.take (n + r) = X.take n ++ Z) := by rw [kZ]; exact List.take_add
        have FA : Hid (absb (List.replicate 25 0) 0 (X.take (n + r)) = absb (absb (List.replicate 25 0) 0 (X.take n)) n Z) := by
          rw [FC.out, absb_app, List.length_take, Nat.min_eq_left HI.out.2.2.2.1, Nat.zero_add]
          exact rfl
        clear kZ
        obtain ⟨A, kA⟩ : ∃ A, A = absb (List.replicate 25 0) 0 (X.take n) := ⟨_, rfl⟩
        have I6 : Hid (Inv w wr b0 b1 u5 PS A A n n) := by rw [kA]; exact HI.out.1
        have FB : Hid (absb (List.replicate 25 0) 0 (X.take (n + r)) = absb A n Z) := by rw [kA]; exact FA.out
        clear kA FA AT BY
        go_wp2_with fail
        refine (lent_n (X := Z) lZ.out.1 lZ.out.2.1 AZ.out.1 _ (AZ.out.2 _ I6.out.below)).mono ?_
        rintro e w7 ⟨g, rfl, hg, hlt, hR, hb⟩
        have I7 : Hid (Inv w w7 b0 b1 u5 PS A A n n) := I6.out.same hb
        have G7 : Hid (g < w7.heap.size ∧ g ≠ b0 ∧ g ≠ b1 ∧ u5.ownBlock ≠ some g ∧ Byo w7 g 0 Z) := ⟨hlt, by have := I6.out.s0.lt; omega, by have := I6.out.s1.lt; omega, fun e => by have := (I6.out.own.lt g e).2; omega, hR⟩
        clear hg hlt hR hb
        have PL : Hid (PS.length < 1073741825) := by have h : PS.length < 1073741825 := (by have := HI.out.2.1; have := HS.out.2.2; omega); exact h
        go_wp2_with ((at_builtin; go_loud (refine wpList_append_own_at _ rfl _ _ 33 rfl w.heap.size 27 i1 (.slice none 0 0) 1 24 Tryd.underlying33 HZ.out.1 HZ.out.2.1 HZ.out.2.2.1 HZ.out.2.2.2 rfl (by decide) u5 _ _ rfl (I7.out.own.alloc _) ⟨w7.heap.size, 0, none⟩ 1 1 [.slice (some ⟨g, 0, none⟩) r (r + 200)] rfl rfl (cell_one_new _ _ _) (fun u hu => by simp at hu; subst hu; rfl) (by unfold maxLen; have := PL.out; omega) (by have := PL.out; omega) (by have := I7.out.below.size; simp; omega) ?_); intro v' w8 hown hgrow hnil hblk))
        obtain ⟨p, kp⟩ : ∃ p : Part, p = ⟨some ⟨g, 0, none⟩, g, 0, r + 200, Z⟩ := ⟨_, rfl⟩
        have pv : p.val = .slice (some ⟨g, 0, none⟩) r (r + 200) := by rw [kp, Part.val, lZ.out.1]
        have I8 : Hid (Inv w w8 b0 b1 v' (PS ++ [p]) A A n n) := by
          have Ia := I7.out.same ((Below.refl _ _).alloc (Nat.le_refl _) (.cells #[.slice (some ⟨g, 0, none⟩) r (r + 200)] 27))
          have pb : p.b = g := by rw [kp]
          refine Ia.push (p := p) ?_ ?_ (by rw [pb]; exact G7.out.2.1) (by rw [pb]; exact G7.out.2.2.1) (by rw [pb]; exact G7.out.2.2.2.1) (by rw [pv]; exact hown) hgrow hblk
          · rw [kp]
            exact ⟨.inr rfl, by show Z.length ≤ r + 200; rw [lZ.out.1]; omega, G7.out.2.2.2.2.keep ((Below.refl _ _).alloc (Nat.le_refl _) _)⟩
          · rw [pb]; have := G7.out.1; simp; omega
        have PX : Hid (p.X = Z) := by rw [kp]; exact rfl
        clear kp pv hown hgrow hnil hblk I7 G7 PL I6
        refine (lent_n (X := Z) lZ.out.1 lZ.out.2.1 AZ.out.1 _ (AZ.out.2 _ I8.out.below)).mono ?_
        rintro e w9 ⟨g2, rfl, hg, hlt, hR, hb⟩
        have I9 : Hid (Inv w w9 b0 b1 v' (PS ++ [p]) A A n n) := I8.out.same hb
        have G9 : Hid (g2 ≠ b0 ∧ Byo w9 g2 0 Z) := ⟨by have := I8.out.s0.lt; omega, hR⟩
        clear hg hlt hR hb I8
        go_wp2_with fail
        refine (write_n (X := Z) lZ.out.1 G9.out.1 (by have := LG.out; have := I9.out.ge0; omega) (by have := LG.out; have := I9.out.ge0; omega) lZ.out.2.2 (by omega) (.inr rfl) _ I9.out.s0 G9.out.2 (HH.out.1.keep I9.out.below) (HH.out.2.keep I9.out.below)).mono ?_
        rintro e wa ⟨rfl, hs, ho⟩
        have Ia : Hid (Inv w wa b0 b1 v' (PS ++ [p]) (absb A n Z) A (n + r) n) := I9.out.write0 ho hs
        clear hs ho I9 G9
        go_wp2_with fail
        refine (lent_n (X := Z) lZ.out.1 lZ.out.2.1 AZ.out.1 _ (AZ.out.2 _ Ia.out.below)).mono ?_
        rintro e wb ⟨g3, rfl, hg, hlt, hR, hb⟩
        have Ib : Hid (Inv w wb b0 b1 v' (PS ++ [p]) (absb A n Z) A (n + r) n) := Ia.out.same hb
        have Gb : Hid (g3 ≠ b1 ∧ Byo wb g3 0 Z) := ⟨by have := Ia.out.s1.lt; omega, hR⟩
        clear hg hlt hR hb Ia
        go_wp2_with fail
        refine (write_n (X := Z) lZ.out.1 Gb.out.1 (by have := LG.out; have := Ib.out.ge1; omega) (by have := LG.out; have := Ib.out.ge1; omega) lZ.out.2.2 (by omega) (.inr rfl) _ Ib.out.s1 Gb.out.2 (HH.out.1.keep Ib.out.below) (HH.out.2.keep Ib.out.below)).mono ?_
        rintro e wc ⟨rfl, hs, ho⟩
        have Ic : Hid (Inv w wc b0 b1 v' (PS ++ [p]) (absb A n Z) (absb A n Z) (n + r) (n + r)) := Ib.out.write1 ho hs
        clear hs ho Ib Gb
        have sb : (S.length : Int) < 1073741824 := by have := HS.out.2.2; omega
        go_wp2
        go_roundg (S.length + 1 - (S.length + 1))
        case measure => have := HK.out; omega
        case rel =>
          refine ⟨S.length + 1, n + r, PS ++ [p], rfl, by omega, by have := ER.out; omega, fun _ => ER.out.2, by go_num, by go_num, by rw [List.length_append, HI.out.2.1]; rfl, ?_, ?_⟩
          · rw [FC.out, ← PX.out, ← HI.out.2.2.1, catX, List.flatMap_append, catX]
            simp
          · rw [FB.out]; exact Ic.out
      · have hi2 : i < S.length := by omega
        have es : sa = some ⟨bs, os, none⟩ := by
          rcases HS.out.1 with h | h
          · rw [h] at hi2; simp at hi2
          · exact h
        subst es
        have gs : wr.cell? ⟨bs, os + i, none⟩ = some (.int .i64 (S.getD i 0)) := by
          have h := HS.out.2.1 i hi2
          rw [HI.out.1.below.cell (p := ⟨bs, os + i, none⟩) (World.block_lt_of_cell? w _ h)]; exact h
        generalize S.getD i 0 = z at *
        obtain ⟨mx, hmx⟩ : ∃ mx : Int, (if z < 0 then 0 else z) = mx := ⟨_, rfl⟩
        have mx0 : 0 ≤ mx := by rw [← hmx]; split <;> omega
        obtain ⟨m, em⟩ : ∃ m : Nat, (if (r : Int) < mx then (r : Int) else mx) = (m : Int) := ⟨(if (r : Int) < mx then (r : Int) else mx).toNat, by split <;> omega⟩
        have hmr : m ≤ r := by revert em; split <;> intro em <;> omega
        have hmx2 : (if 0 > z then 0 else z) = mx := hmx
        have mb : (m : Int) < 1073741824 := by omega
        have hnm : n + m ≤ ct := by have := HX.out; have := ER.out; omega
        have hnm' : (n : Int) + (m : Int) ≤ (ct : Int) := by omega
        obtain ⟨Z, kZ⟩ : ∃ Z, Z = (X.drop n).take m := ⟨_, rfl⟩
        have lZ : Hid (Z.length = m ∧ m < 1073741824 ∧ n + m < 1073741824) := by
          have h : Z.length = m := by rw [kZ, List.length_take, List.length_drop]; have := ER.out; omega
          have := HX.out; have := ER.out
          exact ⟨h, by omega, by omega⟩
        have AZ : Hid (At a2 bt (ot + n) Z ∧ ∀ W, Below w.heap.size w W → Byo W bt (ot + n) Z) := by rw [kZ]; exact ⟨AT.out m hmr, BY.out m hmr⟩
        have FC : Hid (X.take (n + m) = X.take n ++ Z) := by rw [kZ]; exact List.take_add
        have FA : Hid (absb (List.replicate 25 0) 0 (X.take (n + m)) = absb (absb (List.replicate 25 0) 0 (X.take n)) n Z) := by
          rw [FC.out, absb_app, List.length_take, Nat.min_eq_left HI.out.2.2.2.1, Nat.zero_add]
          exact rfl
        clear kZ
        obtain ⟨A, kA⟩ : ∃ A, A = absb (List.replicate 25 0) 0 (X.take n) := ⟨_, rfl⟩
        have I6 : Hid (Inv w wr b0 b1 u5 PS A A n n) := by rw [kA]; exact HI.out.1
        have FB : Hid (absb (List.replicate 25 0) 0 (X.take (n + m)) = absb A n Z) := by rw [kA]; exact FA.out
        clear kA FA AT BY
        go_wp2_with fail
        refine (lent_n (X := Z) lZ.out.1 lZ.out.2.1 AZ.out.1 _ (AZ.out.2 _ I6.out.below)).mono ?_
        rintro e w7 ⟨g, rfl, hg, hlt, hR, hb⟩
        have I7 : Hid (Inv w w7 b0 b1 u5 PS A A n n) := I6.out.same hb
        have G7 : Hid (g < w7.heap.size ∧ g ≠ b0 ∧ g ≠ b1 ∧ u5.ownBlock ≠ some g ∧ Byo w7 g 0 Z) := ⟨hlt, by have := I6.out.s0.lt; omega, by have := I6.out.s1.lt; omega, fun e => by have := (I6.out.own.lt g e).2; omega, hR⟩
        clear hg hlt hR hb
        have PL : Hid (PS.length < 1073741825) := by have h : PS.length < 1073741825 := (by have := HI.out.2.1; have := HS.out.2.2; omega); exact h
        go_wp2_with ((at_builtin; go_loud (refine wpList_append_own_at _ rfl _ _ 33 rfl w.heap.size 27 i1 (.slice none 0 0) 1 24 Tryd.underlying33 HZ.out.1 HZ.out.2.1 HZ.out.2.2.1 HZ.out.2.2.2 rfl (by decide) u5 _ _ rfl (I7.out.own.alloc _) ⟨w7.heap.size, 0, none⟩ 1 1 [.slice (some ⟨g, 0, none⟩) m (m + 200)] rfl rfl (cell_one_new _ _ _) (fun u hu => by simp at hu; subst hu; rfl) (by unfold maxLen; have := PL.out; omega) (by have := PL.out; omega) (by have := I7.out.below.size; simp; omega) ?_); intro v' w8 hown hgrow hnil hblk))
        obtain ⟨p, kp⟩ : ∃ p : Part, p = ⟨some ⟨g, 0, none⟩, g, 0, m + 200, Z⟩ := ⟨_, rfl⟩
        have pv : p.val = .slice (some ⟨g, 0, none⟩) m (m + 200) := by rw [kp, Part.val, lZ.out.1]
        have I8 : Hid (Inv w w8 b0 b1 v' (PS ++ [p]) A A n n) := by
          have Ia := I7.out.same ((Below.refl _ _).alloc (Nat.le_refl _) (.cells #[.slice (some ⟨g, 0, none⟩) m (m + 200)] 27))
          have pb : p.b = g := by rw [kp]
          refine Ia.push (p := p) ?_ ?_ (by rw [pb]; exact G7.out.2.1) (by rw [pb]; exact G7.out.2.2.1) (by rw [pb]; exact G7.out.2.2.2.1) (by rw [pv]; exact hown) hgrow hblk
          · rw [kp]
            exact ⟨.inr rfl, by show Z.length ≤ m + 200; rw [lZ.out.1]; omega, G7.out.2.2.2.2.keep ((Below.refl _ _).alloc (Nat.le_refl _) _)⟩
          · rw [pb]; have := G7.out.1; simp; omega
        have PX : Hid (p.X = Z) := by rw [kp]; exact rfl
        clear kp pv hown hgrow hnil hblk I7 G7 PL I6
        refine (lent_n (X := Z) lZ.out.1 lZ.out.2.1 AZ.out.1 _ (AZ.out.2 _ I8.out.below)).mono ?_
        rintro e w9 ⟨g2, rfl, hg, hlt, hR, hb⟩
        have I9 : Hid (Inv w w9 b0 b1 v' (PS ++ [p]) A A n n) := I8.out.same hb
        have G9 : Hid (g2 ≠ b0 ∧ Byo w9 g2 0 Z) := ⟨by have := I8.out.s0.lt; omega, hR⟩
        clear hg hlt hR hb I8
        go_wp2_with fail
        refine (write_n (X := Z) lZ.out.1 G9.out.1 (by have := LG.out; have := I9.out.ge0; omega) (by have := LG.out; have := I9.out.ge0; omega) lZ.out.2.2 (by omega) (.inr rfl) _ I9.out.s0 G9.out.2 (HH.out.1.keep I9.out.below) (HH.out.2.keep I9.out.below)).mono ?_
        rintro e wa ⟨rfl, hs, ho⟩
        have Ia : Hid (Inv w wa b0 b1 v' (PS ++ [p]) (absb A n Z) A (n + m) n) := I9.out.write0 ho hs
        clear hs ho I9 G9
        go_wp2_with fail
        refine (lent_n (X := Z) lZ.out.1 lZ.out.2.1 AZ.out.1 _ (AZ.out.2 _ Ia.out.below)).mono ?_
        rintro e wb ⟨g3, rfl, hg, hlt, hR, hb⟩
        have Ib : Hid (Inv w wb b0 b1 v' (PS ++ [p]) (absb A n Z) A (n + m) n) := Ia.out.same hb
        have Gb : Hid (g3 ≠ b1 ∧ Byo wb g3 0 Z) := ⟨by have := Ia.out.s1.lt; omega, hR⟩
        clear hg hlt hR hb Ia
        go_wp2_with fail
        refine (write_n (X := Z) lZ.out.1 Gb.out.1 (by have := LG.out; have := Ib.out.ge1; omega) (by have := LG.out; have := Ib.out.ge1; omega) lZ.out.2.2 (by omega) (.inr rfl) _ Ib.out.s1 Gb.out.2 (HH.out.1.keep Ib.out.below) (HH.out.2.keep Ib.out.below)).mono ?_
        rintro e wc ⟨rfl, hs, ho⟩
        have Ic : Hid (Inv w wc b0 b1 v' (PS ++ [p]) (absb A n Z) (absb A n Z) (n + m) (n + m)) := Ib.out.write1 ho hs
        clear hs ho Ib Gb
        have sb : (i : Int) < 1073741824 := by have := HS.out.2.2; omega
        go_wp2
        go_roundg (S.length + 1 - (i + 1))
        case measure => have := HK.out; omega
        case rel =>
          refine ⟨i + 1, n + m, PS ++ [p], rfl, by omega, by have := ER.out; omega, fun h => absurd h (by omega), by go_num, by go_num, by rw [List.length_append, HI.out.2.1]; rfl, ?_, ?_⟩
          · rw [FC.out, ← PX.out, ← HI.out.2.2.1, catX, List.flatMap_append, catX]
            simp
          · rw [FB.out]; exact Ic.out

end Go.Proofs.YtcgibaggponfnaaDoor

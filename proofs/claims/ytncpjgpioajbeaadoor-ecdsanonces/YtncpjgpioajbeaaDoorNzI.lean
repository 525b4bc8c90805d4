import Derived.Test.YtncpjgpioajbeaaDoorNzG
/- Nonces: the document's choice. -/
namespace Go.Proofs.YtncpjgpioajbeaaDoor
open Go.RowKit Go.Sort

set_option maxRecDepth 100000 in
set_option maxHeartbeats 8000000 in
theorem rfit_any {C : Nat → Int} {wh n g o c : Nat} {a : Option Addr} (hC : ∀ i, Num (C i)) (hw : wh < 64) (hn : n ≤ 256) (ha : At4 a g o ((List.range n).map C)) (w : World) (hN : Nms w g o ((List.range n).map C)) :
    Calls Tryd.prog 13 #[.slice a n c, .int .i64 (wh : Int)] w fun e w' => e = .returned (.tuple #[.agg #[.int .u64 (l0 ((pkZ C wh n).getD 0)), .int .u64 (l1 ((pkZ C wh n).getD 0)), .int .u64 (l2 ((pkZ C wh n).getD 0)), .int .u64 (l3 ((pkZ C wh n).getD 0))], .bool (pkZ C wh n).isSome]) ∧ Below w.heap.size w w' := by
  have w64 : (wh : Int) < 64 := by omega
  have n6 : (n : Int) ≤ 256 := by omega
  have gt : ∀ i, i < n → ((List.range n).map C).getD i 0 = C i := fun i hi => by simp [List.getD, hi]
  have HC : Hid ((∀ i, Num (C i)) ∧ n ≤ 256 ∧ wh < 64) := ⟨hC, hn, hw⟩
  have KD : Hid (∀ W, Below w.heap.size w W → ∀ i, i < n → a = some ⟨g, o, none⟩ ∧ W.cell? ⟨g, o + i * 4, none⟩ = some (.int .u64 (l0 (C i))) ∧ W.cell? ⟨g, o + i * 4 + 1, none⟩ = some (.int .u64 (l1 (C i))) ∧ W.cell? ⟨g, o + i * 4 + 2, none⟩ = some (.int .u64 (l2 (C i))) ∧ W.cell? ⟨g, o + i * 4 + 3, none⟩ = some (.int .u64 (l3 (C i)))) := fun W hb i hi => by
    have := (hN.keep hb) i (by simpa using hi)
    rw [gt i hi] at this
    refine ⟨ha.resolve_left (fun e => ?_), this⟩
    have := congrArg List.length e
    simp at this
    omega
  have z0 : l0 0 = 0 ∧ l1 0 = 0 ∧ l2 0 = 0 ∧ l3 0 = 0 := by decide
  clear hC hw hn ha hN gt
  go_enter Tryd.func13, Tryd.ntmps13
  go_wp2_with fail
  refine wp_world (fun W => Below w.heap.size w W ∧ Blank W w.heap.size) ⟨(Below.refl _ _).alloc (Nat.le_refl _) _, Blank.new rfl⟩ ?_
  rintro W0 HW
  go_loopg [1, 6] n (fun q hv iv wr => ∃ i : Nat, q = n - i ∧ i ≤ n ∧ hv = .int .i64 ((wh : Int) - (cntZ C i : Nat)) ∧ iv = .int .i64 (i : Int) ∧ cntZ C i ≤ wh ∧ pkZ C wh i = none ∧ Below w.heap.size w wr ∧ Blank wr w.heap.size)
  case atStart => exact ⟨0, rfl, Nat.zero_le _, by simp [cntZ], rfl, Nat.zero_le _, rfl, HW.1, HW.2⟩
  case round =>
    clear HW
    obtain ⟨i, hk, hi, rfl, rfl, hc, hp, hB, hR⟩ := hrel
    have HK : Hid (gk = n - i ∧ i ≤ n) := ⟨hk, hi⟩
    have HP : Hid (pkZ C wh i = none ∧ Below w.heap.size w wr ∧ Blank wr w.heap.size) := ⟨hp, hB, hR⟩
    clear hk hp hB hR
    by_cases h8 : i = n
    · subst h8
      have gR0 := HP.out.2.2.1.all4
      have fR0 := HP.out.2.2.2.all4
      go_wp2
      have e1 : (pkZ C wh i).getD 0 = 0 := by rw [HP.out.1]; rfl
      have e2 : (pkZ C wh i).isSome = false := by rw [HP.out.1]; rfl
      have fin := fun v0 v1 v2 v3 => ((((S.Off.refl w.heap.size wr).setCell (i := 0) v0).setCell (i := 1) v1).setCell (i := 2) v2).setCell (i := 3) v3
      have fb := fun v0 v1 v2 v3 => HP.out.2.1.trans ((fin v0 v1 v2 v3).below (B := w.heap.size) HP.out.2.1.size (Nat.le_refl _))
      simp [bodyPost, results, Tryd.results13, go_sem, gR0, e1, e2, z0]
      exact fb _ _ _ _
    · have hi' : (i : Int) < (n : Int) := by omega
      obtain ⟨rfl, gA⟩ := KD.out wr HP.out.2.1 i (by omega)
      have IN := r6fit_any (HC.out.1 i)
      have CN : Hid (cntZ C (i + 1) = if fitN (C i) then cntZ C i + 1 else cntZ C i) := rfl
      cases hf : fitN (C i) with
      | false =>
        rw [hf] at IN
        have FN : Hid (fitN (C i) = false ∧ cntZ C i ≤ wh) := ⟨hf, hc⟩
        go_wp2_with fail
        with_reducible refine (IN.out _).mono ?_
        rintro e w2 ⟨rfl, hb⟩
        have F2 : Hid (Below w.heap.size w w2 ∧ Blank w2 w.heap.size) := ⟨HP.out.2.1.trans (hb.mono HP.out.2.1.size), HP.out.2.2.keep hb⟩
        clear hb IN hf gA
        go_wp2
        go_roundg (n - (i + 1))
        case measure => have := HK.out; omega
        case rel =>
          refine ⟨i + 1, rfl, by omega, ?_, by go_num, ?_, pkZ_unfit HP.out.1 FN.out.1, F2.out⟩
          · rw [CN.out, FN.out.1]; rfl
          · rw [CN.out, FN.out.1]; exact FN.out.2
      | true =>
        rw [hf] at IN
        have FN : Hid (fitN (C i) = true ∧ cntZ C i ≤ wh) := ⟨hf, hc⟩
        go_wp2_with fail
        with_reducible refine (IN.out _).mono ?_
        rintro e w2 ⟨rfl, hb⟩
        have F2 : Hid (Below w.heap.size w w2 ∧ Blank w2 w.heap.size) := ⟨HP.out.2.1.trans (hb.mono HP.out.2.1.size), HP.out.2.2.keep hb⟩
        have gB := (KD.out w2 F2.out.1 i (by omega)).2
        clear hb IN hf gA
        by_cases he : cntZ C i = wh
        · have HE : Hid (pkZ C wh (i + 1) = some (C i)) := pkZ_here HP.out.1 FN.out.1 he
          have he' : ((wh : Int) - (cntZ C i : Nat)) = 0 := by omega
          have gR0 := F2.out.2.1.all4
          have fR0 := F2.out.2.2.all4
          clear CN
          generalize cntZ C i = ct at *
          go_wp2
          have hm := pkZ_mono HE.out (n - (i + 1))
          rw [show i + 1 + (n - (i + 1)) = n by omega] at hm
          have e1 : (pkZ C wh n).getD 0 = C i := by rw [hm]; rfl
          have e2 : (pkZ C wh n).isSome = true := by rw [hm]; rfl
          have fin := fun v0 v1 v2 v3 => ((((S.Off.refl w.heap.size w2).setCell (i := 0) v0).setCell (i := 1) v1).setCell (i := 2) v2).setCell (i := 3) v3
          have fb := fun v0 v1 v2 v3 => F2.out.1.trans ((fin v0 v1 v2 v3).below (B := w.heap.size) F2.out.1.size (Nat.le_refl _))
          simp [bodyPost, results, Tryd.results13, go_sem, gR0, e1, e2]
          exact fb _ _ _ _
        · have HE : Hid (pkZ C wh (i + 1) = none) := pkZ_other HP.out.1 he
          have he' : ¬ ((wh : Int) - (cntZ C i : Nat)) = 0 := by omega
          clear gB
          obtain ⟨ct, ect⟩ : ∃ ct, ct = cntZ C i := ⟨_, rfl⟩
          rw [← ect] at he he' hc ⊢
          rw [← ect] at CN FN
          clear ect
          go_wp2
          go_roundg (n - (i + 1))
          case measure => have := HK.out; omega
          case rel =>
            refine ⟨i + 1, rfl, by omega, ?_, by go_num, ?_, HE.out, F2.out⟩
            · rw [CN.out, FN.out.1]
              go_num
            · rw [CN.out, FN.out.1]
              show ct + 1 ≤ wh
              omega
end Go.Proofs.YtncpjgpioajbeaaDoor

/- Nonce of the document. -/
namespace Go.Proofs.YtncpjgpioajbeaaDoor
open Go.RowKit Go.Sort

set_option maxRecDepth 100000 in
set_option maxHeartbeats 8000000 in
theorem rnonce_arg {key wh : Int} {A : List Int} (hl : A.length = 32) (hb : wh < 0 ∨ 64 ≤ wh) (w : World) :
    Calls Tryd.prog 5 #[.agg #[.int .u64 (l0 key), .int .u64 (l1 key), .int .u64 (l2 key), .int .u64 (l3 key)], hashV A, .int .i64 wh] w fun e w' => e = .returned (.tuple #[.agg #[.int .u64 (l0 0), .int .u64 (l1 0), .int .u64 (l2 0), .int .u64 (l3 0)], .int .i64 1]) ∧ Below w.heap.size w w' := by
  have HL : Hid (A.length = 32) := hl
  clear hl
  unfold hashV
  have z0 : l0 0 = 0 ∧ l1 0 = 0 ∧ l2 0 = 0 ∧ l3 0 = 0 := by decide
  rcases hb with hb | hb
  all_goals
    go_enter Tryd.func5, Tryd.ntmps5
    go_wp2
    simp [bodyPost, results, Tryd.results5, go_sem, z0]
    repeat (first | with_reducible exact Below.refl _ _ | with_reducible refine Below.setCell ?_ (by first | omega | (simp; omega)) _ | with_reducible refine Below.alloc ?_ (by first | omega | (simp; done) | (simp; omega)) _)

/-- What holds in the document's Nonce behind its boxes. -/
structure NrZ (w W : World) (key : Int) (M : List Value) : Prop where
  below : Below w.heap.size w W
  key : Hold W w.heap.size key
  dig : W.rangeAt (w.heap.size + 1) 0 M
  res : Blank W (w.heap.size + 1 + 1)
theorem NrZ.keep {w W W' : World} {key : Int} {M : List Value} (h : NrZ w W key M) (B : Below W.heap.size W W') : NrZ w W' key M := ⟨h.below.trans (B.mono h.below.size), h.key.keep B, rangeZ h.dig B, h.res.keep B⟩
theorem nrZ_new {w : World} {key : Int} {M : List Value} {t1 t2 t3 : TypeId} : NrZ w (((w.alloc (.cells #[.int .u64 (l0 key), .int .u64 (l1 key), .int .u64 (l2 key), .int .u64 (l3 key)] t1)).alloc (.cells M.toArray t2)).alloc (.cells #[.int .u64 0, .int .u64 0, .int .u64 0, .int .u64 0] t3)) key M := by
  have BA : ∀ (V : World) o, Below V.heap.size V (V.alloc o) := fun V o => (Below.refl _ _).alloc (Nat.le_refl _) o
  refine ⟨?_, ((Hold.new _ _ _).keep (BA _ _)).keep (BA _ _), ?_, Blank.new (by simp)⟩
  · exact (((Below.refl _ _).alloc (Nat.le_refl _) _).alloc (by simp) _).alloc (by simp; omega) _
  · have := range_newZ (W := w.alloc (.cells #[.int .u64 (l0 key), .int .u64 (l1 key), .int .u64 (l2 key), .int .u64 (l3 key)] t1)) (cs := M) (t := t2)
    rw [show (w.alloc (.cells #[.int .u64 (l0 key), .int .u64 (l1 key), .int .u64 (l2 key), .int .u64 (l3 key)] t1)).heap.size = w.heap.size + 1 by simp] at this
    exact rangeZ this (BA _ _)

theorem Blank.zeroZ {W : World} {b : Nat} (h : Blank W b) : Var W b 0 := by
  have g := h.1.all4
  exact ⟨⟨g.1, g.2.1, g.2.2.1, g.2.2.2⟩, h.2⟩

set_option maxRecDepth 100000 in
set_option maxHeartbeats 8000000 in
theorem rnonce_key {key : Int} {wh : Nat} {M : List Value} (hl : M.length = 32) (hw : wh < 64) (IN : Hid (∀ w, Calls Tryd.prog 11 #[.agg #[.int .u64 (l0 key), .int .u64 (l1 key), .int .u64 (l2 key), .int .u64 (l3 key)]] w fun e w' => e = .returned (.bool false) ∧ Below w.heap.size w w')) (w : World) :
    Calls Tryd.prog 5 #[.agg #[.int .u64 (l0 key), .int .u64 (l1 key), .int .u64 (l2 key), .int .u64 (l3 key)], .agg M.toArray, .int .i64 (wh : Int)] w fun e w' => e = .returned (.tuple #[.agg #[.int .u64 (l0 0), .int .u64 (l1 0), .int .u64 (l2 0), .int .u64 (l3 0)], .int .i64 60]) ∧ Below w.heap.size w w' := by
  have HL : Hid (M.length = 32) := hl
  clear hl
  have z0 : l0 0 = 0 ∧ l1 0 = 0 ∧ l2 0 = 0 ∧ l3 0 = 0 := by decide
  have w1 : (wh : Int) < 64 := by omega
  go_enter Tryd.func5, Tryd.ntmps5
  go_wp2_with fail
  refine calls_world (fun W => NrZ w W key M) nrZ_new ?_
  rintro W HW
  with_reducible refine (IN.out _).mono ?_
  rintro e w2 ⟨rfl, hb⟩
  have H2 := HW.keep hb
  clear hb HW
  have gR0 := H2.res.1.all4
  have fR0 := H2.res.2.all4
  have B9 := H2.below
  clear H2
  go_wp2
  simp [bodyPost, results, Tryd.results5, go_sem, gR0, z0]
  repeat (first | with_reducible exact B9 | with_reducible refine Below.setCell ?_ (by first | omega | (simp; omega)) _)

set_option maxRecDepth 100000 in
set_option maxHeartbeats 8000000 in
theorem rnonce_ok {key d v f : Int} {wh : Nat} {M : List Value} (hl : M.length = 32) (hw : wh < 64) (IN : Hid (∀ w, Calls Tryd.prog 11 #[.agg #[.int .u64 (l0 key), .int .u64 (l1 key), .int .u64 (l2 key), .int .u64 (l3 key)]] w fun e w' => e = .returned (.bool true) ∧ Below w.heap.size w w'))
    (ND : Hid (∀ w, Calls Tryd.prog 25 #[.agg M.toArray] w fun e w' => e = .returned (.agg #[.int .u64 (l0 d), .int .u64 (l1 d), .int .u64 (l2 d), .int .u64 (l3 d)]) ∧ Below w.heap.size w w'))
    (hv : nzV (cndZ (stZ key d)) wh = v) (hf : nzE (cndZ (stZ key d)) wh = f) (w : World) :
    Calls Tryd.prog 5 #[.agg #[.int .u64 (l0 key), .int .u64 (l1 key), .int .u64 (l2 key), .int .u64 (l3 key)], .agg M.toArray, .int .i64 (wh : Int)] w fun e w' => e = .returned (.tuple #[.agg #[.int .u64 (l0 v), .int .u64 (l1 v), .int .u64 (l2 v), .int .u64 (l3 v)], .int .i64 f]) ∧ Below w.heap.size w w' := by
  have il : (Tryd.prog.info? 26).map (·.size) = some M.length := by rw [hl]; kernel_rfl
  have w1 : (wh : Int) < 64 := by omega
  have z0 : l0 0 = 0 ∧ l1 0 = 0 ∧ l2 0 = 0 ∧ l3 0 = 0 := by decide
  obtain ⟨C, eC⟩ : ∃ C, C = cndZ (stZ key d) := ⟨_, rfl⟩
  have HC : Hid (C = cndZ (stZ key d) ∧ (∀ i, Num (C i)) ∧ M.length = 32 ∧ wh < 64 ∧ nzV C wh = v ∧ nzE C wh = f) := ⟨eC, by rw [eC]; exact cndZ_num _, hl, hw, by rw [eC]; exact hv, by rw [eC]; exact hf⟩
  have CD : Hid (∀ (n : Nat) (W : World), n ≤ 256 → Calls Tryd.prog 12 #[.agg #[.int .u64 (l0 key), .int .u64 (l1 key), .int .u64 (l2 key), .int .u64 (l3 key)], .agg M.toArray, .int .i64 (n : Int)] W fun e w' => ∃ v, e = .returned v ∧ OwnU W.heap.size w' v ((List.range n).map C) ∧ Below W.heap.size W w') := fun n W hn => by rw [eC]; exact rcand_any hl hn ND W
  clear eC hl hw hv hf ND
  go_enter Tryd.func5, Tryd.ntmps5
  go_wp2_with fail
  refine calls_world (fun W => NrZ w W key M) nrZ_new ?_
  rintro W HW
  with_reducible refine (IN.out _).mono ?_
  rintro e w2 ⟨rfl, hb⟩
  have H2 := HW.keep hb
  clear hb HW IN
  clear W
  have gk := H2.key.cells
  have rg := H2.dig
  go_wp2_with (refine wpList_load_mid rfl 26 _ rfl (w.heap.size + 1) 0 rfl M _ rg Tryd.underlying26 rfl il ?_)
  have c1 := CD.out (wh + 1) w2 (by have := HC.out; omega)
  rw [show ((wh + 1 : Nat) : Int) = (wh : Int) + 1 by omega] at c1
  refine c1.mono ?_
  clear c1
  rintro e w3 ⟨lv, rfl, ho, hb⟩
  have H3 := H2.keep hb
  clear hb H2 gk rg
  obtain ⟨a, g, c, elv, ha, hN, hge⟩ := ho.lies
  rw [List.length_map, List.length_range] at elv
  subst elv
  clear ho hge
  clear w2
  go_wp2_with fail
  refine (rfit_any HC.out.2.1 HC.out.2.2.2.1 (by have := HC.out; omega) ha w3 hN).mono ?_
  rintro e w4 ⟨rfl, hb⟩
  have H4 := H3.keep hb
  clear hb H3 ha hN
  clear w3
  cases hp : pkZ C wh (wh + 1) with
  | some x =>
    obtain ⟨e1, e2⟩ := nz_some hp (by have := HC.out; omega)
    rw [show (some x : Option Int).getD 0 = x from rfl, show (some x : Option Int).isSome = true from rfl]
    have EV : Hid (v = x ∧ f = 0) := ⟨by rw [← HC.out.2.2.2.2.1, e1], by rw [← HC.out.2.2.2.2.2, e2]⟩
    clear hp e1 e2
    have gR0 := fun o => (H4.res.alloc o).1.all4
    have fR0 := fun o => (H4.res.alloc o).2.all4
    have gR1 := H4.res.1.all4
    have fR1 := H4.res.2.all4
    have B9 := H4.below
    have ls := H4.res.1.lt (by simp)
    have nr : w4.heap.size ≠ w.heap.size + 1 + 1 := by omega
    have nr' := nr.symm
    have gr : w.heap.size ≤ w.heap.size + 1 + 1 := by omega
    clear H4 il
    generalize w.heap.size + 1 + 1 = br at *
    go_wp2
    have ev1 := EV.out.1
    have ev2 := EV.out.2
    simp [bodyPost, results, Tryd.results5, go_sem, *]
    repeat (first | with_reducible exact B9 | with_reducible refine Below.alloc ?_ (by first | exact B9.size | (simp; exact B9.size)) _ | with_reducible refine Below.setCell ?_ (by first | omega | (simp; omega)) _)
  | none =>
    rw [show (none : Option Int).getD 0 = 0 from rfl, show (none : Option Int).isSome = false from rfl]
    have gk := fun o => (H4.keep ((Below.refl _ _).alloc (Nat.le_refl _) o)).key.cells
    have rg := fun o => (H4.keep ((Below.refl _ _).alloc (Nat.le_refl _) o)).dig
    go_wp2_with (refine wpList_load_mid rfl 26 _ rfl (w.heap.size + 1) 0 rfl M _ (rg _) Tryd.underlying26 rfl il ?_)
    refine calls_world (fun W => NrZ w W key M ∧ Var W w4.heap.size 0 ∧ w.heap.size + 1 + 1 < w4.heap.size) ⟨H4.keep ((Below.refl _ _).alloc (Nat.le_refl _) _), Blank.zeroZ (Blank.new rfl), H4.res.1.lt (by simp)⟩ ?_
    rintro W5 ⟨H5, hV, hlt⟩
    clear gk rg H4
    generalize w4.heap.size = b10 at *
    clear w4
    refine (CD.out 256 W5 (Nat.le_refl _)).mono ?_
    rintro e w6 ⟨lv, rfl, ho, hb⟩
    have H6 := H5.keep hb
    have hV6 := hV.keep hb
    clear hb H5 hV
    obtain ⟨a2, g2, c2, elv, ha, hN, hge⟩ := ho.lies
    rw [List.length_map, List.length_range] at elv
    subst elv
    clear ho hge
    clear W5
    go_wp2_with fail
    refine (rfit_any HC.out.2.1 HC.out.2.2.2.1 (Nat.le_refl _) ha w6 hN).mono ?_
    rintro e w7 ⟨rfl, hb⟩
    have H7 := H6.keep hb
    have hV7 := hV6.keep hb
    clear hb H6 hV6 ha hN
    clear w6
    have nr : b10 ≠ w.heap.size + 1 + 1 := by omega
    have nr' := nr.symm
    have gr : w.heap.size ≤ w.heap.size + 1 + 1 := by omega
    have gb : w.heap.size ≤ b10 := by omega
    have B9 := H7.below
    have gR1 := H7.res.1.all4
    have fR1 := H7.res.2.all4
    have gV := hV7.1.cells
    have fV := hV7.2.all4
    cases hq : pkZ C wh 256 with
    | some x =>
      obtain ⟨e1, e2⟩ := nz_some hq (Nat.le_refl _)
      rw [show (some x : Option Int).getD 0 = x from rfl, show (some x : Option Int).isSome = true from rfl]
      have EV : Hid (v = x ∧ f = 0) := ⟨by rw [← HC.out.2.2.2.2.1, e1], by rw [← HC.out.2.2.2.2.2, e2]⟩
      clear hq e1 e2 H7 hV7 il
      generalize w.heap.size + 1 + 1 = br at *
      go_wp2
      simp [bodyPost, results, Tryd.results5, go_sem, gR1, EV.out.1, EV.out.2]
      repeat (first | with_reducible exact B9 | with_reducible refine Below.setCell ?_ (by first | omega | (simp; omega)) _)
    | none =>
      obtain ⟨e1, e2⟩ := nz_none hq
      rw [show (none : Option Int).getD 0 = 0 from rfl, show (none : Option Int).isSome = false from rfl]
      have EV : Hid (v = 0 ∧ f = 65) := ⟨by rw [← HC.out.2.2.2.2.1, e1], by rw [← HC.out.2.2.2.2.2, e2]⟩
      clear hq e1 e2 H7 hV7 il
      generalize w.heap.size + 1 + 1 = br at *
      go_wp2
      simp [bodyPost, results, Tryd.results5, go_sem, gR1, EV.out.1, EV.out.2, z0]
      repeat (first | with_reducible exact B9 | with_reducible refine Below.setCell ?_ (by first | omega | (simp; omega)) _)
end Go.Proofs.YtncpjgpioajbeaaDoor

/- EcdsaNonces. -/
namespace Go.Proofs.YtncpjgpioajbeaaDoor
open Go.RowKit Go.Sort

/-- What Nonce answers, of any key, digest and number. -/
noncomputable def nonV (key : Int) (A : List Int) (wh : Int) : Int := if wh < 0 ∨ 64 ≤ wh then 0 else if fitN key then nzV (cndZ (stZ key (modN nN (sufN A 32)))) wh.toNat else 0
noncomputable def nonE (key : Int) (A : List Int) (wh : Int) : Int := if wh < 0 ∨ 64 ≤ wh then 1 else if fitN key then nzE (cndZ (stZ key (modN nN (sufN A 32)))) wh.toNat else 60
theorem nonce_any {key wh : Int} {A : List Int} (hk : Num key) (hA : Byts A) (hl : A.length = 32) (w : World) (hm : Mds w) (ht : ShT w) :
    Calls Tryd.prog 4 #[.agg #[.int .u64 (l0 key), .int .u64 (l1 key), .int .u64 (l2 key), .int .u64 (l3 key)], hashV A, .int .i64 wh] w fun e w' => e = .returned (.tuple #[.agg #[.int .u64 (l0 (nonV key A wh)), .int .u64 (l1 (nonV key A wh)), .int .u64 (l2 (nonV key A wh)), .int .u64 (l3 (nonV key A wh))], .int .i64 (nonE key A wh)]) ∧ Below w.heap.size w w' := by
  unfold nonV nonE
  by_cases hb : wh < 0 ∨ 64 ≤ wh
  · rw [if_pos hb, if_pos hb]
    exact nonce_arg hl hb w
  · rw [if_neg hb, if_neg hb]
    obtain ⟨n, rfl⟩ := Int.eq_ofNat_of_zero_le (show 0 ≤ wh by omega)
    have hn : n < 64 := by omega
    have IN := einside_any hk
    cases hf : fitN key with
    | false =>
      rw [hf] at IN
      exact nonce_key hl hn IN w hm ht
    | true =>
      rw [hf] at IN
      rw [if_pos rfl, if_pos rfl, show ((n : Int)).toNat = n from rfl]
      exact nonce_ok hl hn rfl IN (fun w hm => enumber_any hA hl w hm) rfl rfl w hm ht
theorem rnonce_any {key wh : Int} {A : List Int} (hk : Num key) (hA : Byts A) (hl : A.length = 32) (w : World) :
    Calls Tryd.prog 5 #[.agg #[.int .u64 (l0 key), .int .u64 (l1 key), .int .u64 (l2 key), .int .u64 (l3 key)], hashV A, .int .i64 wh] w fun e w' => e = .returned (.tuple #[.agg #[.int .u64 (l0 (nonV key A wh)), .int .u64 (l1 (nonV key A wh)), .int .u64 (l2 (nonV key A wh)), .int .u64 (l3 (nonV key A wh))], .int .i64 (nonE key A wh)]) ∧ Below w.heap.size w w' := by
  unfold nonV nonE
  by_cases hb : wh < 0 ∨ 64 ≤ wh
  · rw [if_pos hb, if_pos hb]
    exact rnonce_arg hl hb w
  · rw [if_neg hb, if_neg hb]
    obtain ⟨n, rfl⟩ := Int.eq_ofNat_of_zero_le (show 0 ≤ wh by omega)
    have hn : n < 64 := by omega
    have hM : (A.map fun z => Value.int .u8 z).length = 32 := by rw [List.length_map]; exact hl
    have IN := r6fit_any hk
    cases hf : fitN key with
    | false =>
      rw [hf] at IN
      exact rnonce_key hM hn IN w
    | true =>
      rw [hf] at IN
      rw [if_pos rfl, if_pos rfl, show ((n : Int)).toNat = n from rfl]
      exact rnonce_ok hM hn IN (fun w => r6number_any hA hl w) rfl rfl w
theorem nzV_num {s : KvZ} {n : Nat} : Num (nzV (cndZ s) n) := by
  unfold nzV
  cases h : pkZ (cndZ s) n 256 with
  | none => exact ⟨by decide, by decide⟩
  | some x => exact pkZ_num (cndZ_num s) h
theorem nonV_num (key : Int) (A : List Int) (wh : Int) : Num (nonV key A wh) := by
  unfold nonV
  split
  · exact ⟨by decide, by decide⟩
  · split
    · exact nzV_num
    · exact ⟨by decide, by decide⟩

set_option maxRecDepth 100000 in
set_option maxHeartbeats 8000000 in
theorem nonces_any {key wh : Int} {A : List Int} (hk : Num key) (hA : Byts A) (hl : A.length = 32) (w : World) (hm : Mds w) (ht : ShT w) :
    Calls Tryd.prog 3 #[.agg #[.int .u64 (l0 key), .int .u64 (l1 key), .int .u64 (l2 key), .int .u64 (l3 key)], hashV A, .int .i64 wh] w fun e w' => e = .returned (.bool true) ∧ Below w.heap.size w w' := by
  have C1 : Hid (∀ w, Mds w → ShT w → Calls Tryd.prog 4 #[.agg #[.int .u64 (l0 key), .int .u64 (l1 key), .int .u64 (l2 key), .int .u64 (l3 key)], .agg (A.map fun z => Value.int .u8 z).toArray, .int .i64 wh] w fun e w' => e = .returned (.tuple #[.agg #[.int .u64 (l0 (nonV key A wh)), .int .u64 (l1 (nonV key A wh)), .int .u64 (l2 (nonV key A wh)), .int .u64 (l3 (nonV key A wh))], .int .i64 (nonE key A wh)]) ∧ Below w.heap.size w w') := fun w hm ht => nonce_any hk hA hl w hm ht
  have C2 : Hid (∀ w, Calls Tryd.prog 5 #[.agg #[.int .u64 (l0 key), .int .u64 (l1 key), .int .u64 (l2 key), .int .u64 (l3 key)], .agg (A.map fun z => Value.int .u8 z).toArray, .int .i64 wh] w fun e w' => e = .returned (.tuple #[.agg #[.int .u64 (l0 (nonV key A wh)), .int .u64 (l1 (nonV key A wh)), .int .u64 (l2 (nonV key A wh)), .int .u64 (l3 (nonV key A wh))], .int .i64 (nonE key A wh)]) ∧ Below w.heap.size w w') := fun w => rnonce_any hk hA hl w
  have nv := nonV_num key A wh
  have hM : (A.map fun z => Value.int .u8 z).length = 32 := by rw [List.length_map]; exact hl
  unfold hashV
  generalize A.map (fun z => Value.int .u8 z) = M at *
  generalize nonV key A wh = v at *
  generalize nonE key A wh = f at *
  have il : (Tryd.prog.info? 26).map (·.size) = some M.length := by rw [hM]; kernel_rfl
  have EQ : ∀ w, (Op.equalIn 10000 24 (.agg #[.int .u64 (l0 v), .int .u64 (l1 v), .int .u64 (l2 v), .int .u64 (l3 v)]) (.agg #[.int .u64 (l0 v), .int .u64 (l1 v), .int .u64 (l2 v), .int .u64 (l3 v)])).run Tryd.prog w = .ok true w := fun w => by rw [eq_num nv nv, decide_eq_true rfl]
  clear hA hl hk nv hM
  have NC : ∀ t1 t2, (Below w.heap.size w ((w.alloc (.cells #[.int .u64 (l0 key), .int .u64 (l1 key), .int .u64 (l2 key), .int .u64 (l3 key)] t1)).alloc (.cells M.toArray t2)) ∧ Mds ((w.alloc (.cells #[.int .u64 (l0 key), .int .u64 (l1 key), .int .u64 (l2 key), .int .u64 (l3 key)] t1)).alloc (.cells M.toArray t2)) ∧ ShT ((w.alloc (.cells #[.int .u64 (l0 key), .int .u64 (l1 key), .int .u64 (l2 key), .int .u64 (l3 key)] t1)).alloc (.cells M.toArray t2))) ∧ Hold ((w.alloc (.cells #[.int .u64 (l0 key), .int .u64 (l1 key), .int .u64 (l2 key), .int .u64 (l3 key)] t1)).alloc (.cells M.toArray t2)) w.heap.size key ∧ ((w.alloc (.cells #[.int .u64 (l0 key), .int .u64 (l1 key), .int .u64 (l2 key), .int .u64 (l3 key)] t1)).alloc (.cells M.toArray t2)).rangeAt (w.heap.size + 1) 0 M := fun t1 t2 => by
    have BA : ∀ (V : World) o, Below V.heap.size V (V.alloc o) := fun V o => (Below.refl _ _).alloc (Nat.le_refl _) o
    refine ⟨⟨((Below.refl _ _).alloc (Nat.le_refl _) _).alloc (by simp) _, (hm.alloc _).alloc _, (ht.keep (BA _ _)).keep (BA _ _)⟩, (Hold.new _ _ _).keep (BA _ _), ?_⟩
    have := range_newZ (W := w.alloc (.cells #[.int .u64 (l0 key), .int .u64 (l1 key), .int .u64 (l2 key), .int .u64 (l3 key)] t1)) (cs := M) (t := t2)
    rwa [show (w.alloc (.cells #[.int .u64 (l0 key), .int .u64 (l1 key), .int .u64 (l2 key), .int .u64 (l3 key)] t1)).heap.size = w.heap.size + 1 by simp] at this
  have rg0 := fun t1 t2 => (NC t1 t2).2.2
  go_enter Tryd.func3, Tryd.ntmps3
  go_wp2_with (refine wpList_load_mid rfl 26 _ rfl (w.heap.size + 1) 0 rfl M _ (rg0 _ _) Tryd.underlying26 rfl il ?_)
  refine calls_world (fun W => (Below w.heap.size w W ∧ Mds W ∧ ShT W) ∧ Hold W w.heap.size key ∧ W.rangeAt (w.heap.size + 1) 0 M) (NC _ _) ?_
  clear NC rg0 hm ht
  rintro W ⟨⟨B, hm, ht⟩, hK, hD⟩
  refine (C1.out W hm ht).mono ?_
  rintro e w2 ⟨rfl, hb⟩
  have H2 : Hid (Below w.heap.size w w2) := B.trans (hb.mono B.size)
  have BA : ∀ (V : World) o, Below V.heap.size V (V.alloc o) := fun V o => (Below.refl _ _).alloc (Nat.le_refl _) o
  have gk := fun o => ((hK.keep hb).keep (BA _ o)).cells
  have rg := fun o => rangeZ (rangeZ hD hb) (BA _ o)
  clear hb B hm ht hK hD C1
  clear W
  go_wp2_with (refine wpList_load_mid rfl 26 _ rfl (w.heap.size + 1) 0 rfl M _ (rg _) Tryd.underlying26 rfl il ?_)
  refine calls_world (fun W => Below w.heap.size w W ∧ Hold W w2.heap.size v) ⟨H2.out.alloc H2.out.size _, Hold.new _ _ _⟩ ?_
  rintro W ⟨B, hV⟩
  refine (C2.out W).mono ?_
  rintro e w3 ⟨rfl, hb⟩
  have lv := World.block_lt_of_cell? W _ hV.1
  have l3v := Nat.lt_of_lt_of_le lv hb.size
  have g1 := fun o => ((hV.keep hb).keep (BA _ o)).cells
  have g2 := fun t => (Hold.new w3 v t).cells
  have H3 : Hid (Below w.heap.size w w3) := B.trans (hb.mono B.size)
  clear hb B hV gk rg C2 H2 lv BA il
  clear W
  generalize w2.heap.size = b2 at *
  clear w2
  go_wp2_with fail
  refine calls_world (fun W => Below w.heap.size w W) (H3.out.alloc H3.out.size _) ?_
  rintro W4 B4
  refine (lnum6_any f W4).mono ?_
  rintro e w5 ⟨rfl, hb⟩
  replace B4 := B4.trans (hb.mono B4.size)
  clear hb g1 g2 EQ H3
  go_wp2
  simp [bodyPost, results, Tryd.results3]
  exact B4
end Go.Proofs.YtncpjgpioajbeaaDoor

import Derived.Test.YtncpjgpioajbeaaGreatDoorNzI
/- Nonce of the document. -/
namespace Go.Proofs.YtncpjgpioajbeaaGreatDoor
open Go.RowKit Go.Sort

set_option maxRecDepth 100000 in
set_option maxHeartbeats 8000000 in
theorem rnonce_arg {key wh : Int} {A : List Int} (hl : A.length = 32) (hb : wh < 0 ∨ 64 ≤ wh) (w : World) :
    Calls Tryz.prog 32 #[.agg #[.int .u64 (l0 key), .int .u64 (l1 key), .int .u64 (l2 key), .int .u64 (l3 key)], hashV A, .int .i64 wh] w fun e w' => e = .returned (.tuple #[.agg #[.int .u64 (l0 0), .int .u64 (l1 0), .int .u64 (l2 0), .int .u64 (l3 0)], .int .i64 1]) ∧ Below w.heap.size w w' := by
  have HL : Hid (A.length = 32) := hl
  clear hl
  unfold hashV
  have z0 : l0 0 = 0 ∧ l1 0 = 0 ∧ l2 0 = 0 ∧ l3 0 = 0 := by decide
  rcases hb with hb | hb
  all_goals
    go_enter Tryz.func32, Tryz.ntmps32
    go_wp2
    simp [bodyPost, results, Tryz.results32, go_sem, z0]
    repeat (first | with_reducible exact Below.refl _ _ | with_reducible refine Below.setCell ?_ (by first | omega | (simp; omega)) _ | with_reducible refine Below.alloc ?_ (by first | omega | (simp; done) | (simp; omega)) _)

/-- What holds in the document's Nonce behind its boxes. -/
structure NrZ (w W : World) (key : Int) (M : List Value) : Prop where
  below : Below w.heap.size w W
  key : Hold W w.heap.size key
  dig : W.rangeAt (w.heap.size + 1) 0 M
  res : Blank W (w.heap.size + 1 + 1)
theorem NrZ.keep {w W W' : World} {key : Int} {M : List Value} (h : NrZ w W key M) (B : Below W.heap.size W W') : NrZ w W' key M := ⟨h.below.trans (B.mono h.below.size), h.key.keep B, rangeZ h.dig B, h.res.keep B⟩
theorem nrZ_new {w : World} {key : Int} {M : List Value} {t1 t2 t3 : TypeId} : NrZ w (((w.alloc (.cells #[.int .u64 (l0 key), .int .u64 (l1 key), .int .u64 (l2 key), .int .u64 (l3 key)] t1)).alloc (.cells M.toArray t2)).alloc (.cells #[.int .u64 0, .int .u64 0, .int .u64 0, .int .u64 0] t3)) key M := by
  have BA : ∀ (V : World) o, Below V.heap.size V (V.alloc o) := fun V o => (Below.refl _ _).alloc (Nat.le_refl _) o
  refine ⟨?_, ((Hold.new _ _ _).keep (BA _ _)).keep (BA _ _), ?_, Blank.new (by simp)⟩
  · exact (((Below.refl _ _).alloc (Nat.le_refl _) _).alloc (by simp) _).alloc (by simp; omega) _
  · have := range_newZ (W := w.alloc (.cells #[.int .u64 (l0 key), .int .u64 (l1 key), .int .u64 (l2 key), .int .u64 (l3 key)] t1)) (cs := M) (t := t2)
    rw [show (w.alloc (.cells #[.int .u64 (l0 key), .int .u64 (l1 key), .int .u64 (l2 key), .int .u64 (l3 key)] t1)).heap.size = w.heap.size + 1 by simp] at this
    exact rangeZ this (BA _ _)

theorem Blank.zeroZ {W : World} {b : Nat} (h : Blank W b) : Var W b 0 := by
  have g := h.1.all4
  exact ⟨⟨g.1, g.2.1, g.2.2.1, g.2.2.2⟩, h.2⟩

set_option maxRecDepth 100000 in
set_option maxHeartbeats 8000000 in
theorem rnonce_key {key : Int} {wh : Nat} {M : List Value} (hl : M.length = 32) (hw : wh < 64) (IN : Hid (∀ w, Calls Tryz.prog 31 #[.agg #[.int .u64 (l0 key), .int .u64 (l1 key), .int .u64 (l2 key), .int .u64 (l3 key)]] w fun e w' => e = .returned (.bool false) ∧ Below w.heap.size w w')) (w : World) :
    Calls Tryz.prog 32 #[.agg #[.int .u64 (l0 key), .int .u64 (l1 key), .int .u64 (l2 key), .int .u64 (l3 key)], .agg M.toArray, .int .i64 (wh : Int)] w fun e w' => e = .returned (.tuple #[.agg #[.int .u64 (l0 0), .int .u64 (l1 0), .int .u64 (l2 0), .int .u64 (l3 0)], .int .i64 60]) ∧ Below w.heap.size w w' := by
  have HL : Hid (M.length = 32) := hl
  clear hl
  have z0 : l0 0 = 0 ∧ l1 0 = 0 ∧ l2 0 = 0 ∧ l3 0 = 0 := by decide
  have w1 : (wh : Int) < 64 := by omega
  go_enter Tryz.func32, Tryz.ntmps32
  go_wp2_with fail
  refine calls_world (fun W => NrZ w W key M) nrZ_new ?_
  rintro W HW
  with_reducible refine (IN.out _).mono ?_
  rintro e w2 ⟨rfl, hb⟩
  have H2 := HW.keep hb
  clear hb HW
  have gR0 := H2.res.1.all4
  have fR0 := H2.res.2.all4
  have B9 := H2.below
  clear H2
  go_wp2
  simp [bodyPost, results, Tryz.results32, go_sem, gR0, z0]
  repeat (first | with_reducible exact B9 | with_reducible refine Below.setCell ?_ (by first | omega | (simp; omega)) _)

set_option maxRecDepth 100000 in
set_option maxHeartbeats 8000000 in
theorem rnonce_ok {key d v f : Int} {wh : Nat} {M : List Value} (hl : M.length = 32) (hw : wh < 64) (IN : Hid (∀ w, Calls Tryz.prog 31 #[.agg #[.int .u64 (l0 key), .int .u64 (l1 key), .int .u64 (l2 key), .int .u64 (l3 key)]] w fun e w' => e = .returned (.bool true) ∧ Below w.heap.size w w'))
    (ND : Hid (∀ w, Calls Tryz.prog 96 #[.agg M.toArray] w fun e w' => e = .returned (.agg #[.int .u64 (l0 d), .int .u64 (l1 d), .int .u64 (l2 d), .int .u64 (l3 d)]) ∧ Below w.heap.size w w'))
    (hv : nzV (cndZ (stZ key d)) wh = v) (hf : nzE (cndZ (stZ key d)) wh = f) (w : World) :
    Calls Tryz.prog 32 #[.agg #[.int .u64 (l0 key), .int .u64 (l1 key), .int .u64 (l2 key), .int .u64 (l3 key)], .agg M.toArray, .int .i64 (wh : Int)] w fun e w' => e = .returned (.tuple #[.agg #[.int .u64 (l0 v), .int .u64 (l1 v), .int .u64 (l2 v), .int .u64 (l3 v)], .int .i64 f]) ∧ Below w.heap.size w w' := by
  have il : (Tryz.prog.info? 26).map (·.size) = some M.length := by rw [hl]; kernel_rfl
  have w1 : (wh : Int) < 64 := by omega
  have z0 : l0 0 = 0 ∧ l1 0 = 0 ∧ l2 0 = 0 ∧ l3 0 = 0 := by decide
  obtain ⟨C, eC⟩ : ∃ C, C = cndZ (stZ key d) := ⟨_, rfl⟩
  have HC : Hid (C = cndZ (stZ key d) ∧ (∀ i, Num (C i)) ∧ M.length = 32 ∧ wh < 64 ∧ nzV C wh = v ∧ nzE C wh = f) := ⟨eC, by rw [eC]; exact cndZ_num _, hl, hw, by rw [eC]; exact hv, by rw [eC]; exact hf⟩
  have CD : Hid (∀ (n : Nat) (W : World), n ≤ 256 → Calls Tryz.prog 66 #[.agg #[.int .u64 (l0 key), .int .u64 (l1 key), .int .u64 (l2 key), .int .u64 (l3 key)], .agg M.toArray, .int .i64 (n : Int)] W fun e w' => ∃ v, e = .returned v ∧ OwnU W.heap.size w' v ((List.range n).map C) ∧ Below W.heap.size W w') := fun n W hn => by rw [eC]; exact rcand_any hl hn ND W
  clear eC hl hw hv hf ND
  go_enter Tryz.func32, Tryz.ntmps32
  go_wp2_with fail
  refine calls_world (fun W => NrZ w W key M) nrZ_new ?_
  rintro W HW
  with_reducible refine (IN.out _).mono ?_
  rintro e w2 ⟨rfl, hb⟩
  have H2 := HW.keep hb
  clear hb HW IN
  clear W
  have gk := H2.key.cells
  have rg := H2.dig
  go_wp2_with (refine wpList_load_mid rfl 26 _ rfl (w.heap.size + 1) 0 rfl M _ rg Tryz.underlying26 rfl il ?_)
  have c1 := CD.out (wh + 1) w2 (by have := HC.out; omega)
  rw [show ((wh + 1 : Nat) : Int) = (wh : Int) + 1 by omega] at c1
  refine c1.mono ?_
  clear c1
  rintro e w3 ⟨lv, rfl, ho, hb⟩
  have H3 := H2.keep hb
  clear hb H2 gk rg
  obtain ⟨a, g, c, elv, ha, hN, hge⟩ := ho.lies
  rw [List.length_map, List.length_range] at elv
  subst elv
  clear ho hge
  clear w2
  go_wp2_with fail
  refine (rfit_any HC.out.2.1 HC.out.2.2.2.1 (by have := HC.out; omega) ha w3 hN).mono ?_
  rintro e w4 ⟨rfl, hb⟩
  have H4 := H3.keep hb
  clear hb H3 ha hN
  clear w3
  cases hp : pkZ C wh (wh + 1) with
  | some x =>
    obtain ⟨e1, e2⟩ := nz_some hp (by have := HC.out; omega)
    rw [show (some x : Option Int).getD 0 = x from rfl, show (some x : Option Int).isSome = true from rfl]
    have EV : Hid (v = x ∧ f = 0) := ⟨by rw [← HC.out.2.2.2.2.1, e1], by rw [← HC.out.2.2.2.2.2, e2]⟩
    clear hp e1 e2
    have gR0 := fun o => (H4.res.alloc o).1.all4
    have fR0 := fun o => (H4.res.alloc o).2.all4
    have gR1 := H4.res.1.all4
    have fR1 := H4.res.2.all4
    have B9 := H4.below
    have ls := H4.res.1.lt (by simp)
    have nr : w4.heap.size ≠ w.heap.size + 1 + 1 := by omega
    have nr' := nr.symm
    have gr : w.heap.size ≤ w.heap.size + 1 + 1 := by omega
    clear H4 il
    generalize w.heap.size + 1 + 1 = br at *
    go_wp2
    have ev1 := EV.out.1
    have ev2 := EV.out.2
    simp [bodyPost, results, Tryz.results32, go_sem, *]
    repeat (first | with_reducible exact B9 | with_reducible refine Below.alloc ?_ (by first | exact B9.size | (simp; exact B9.size)) _ | with_reducible refine Below.setCell ?_ (by first | omega | (simp; omega)) _)
  | none =>
    rw [show (none : Option Int).getD 0 = 0 from rfl, show (none : Option Int).isSome = false from rfl]
    have gk := fun o => (H4.keep ((Below.refl _ _).alloc (Nat.le_refl _) o)).key.cells
    have rg := fun o => (H4.keep ((Below.refl _ _).alloc (Nat.le_refl _) o)).dig
    go_wp2_with (refine wpList_load_mid rfl 26 _ rfl (w.heap.size + 1) 0 rfl M _ (rg _) Tryz.underlying26 rfl il ?_)
    refine calls_world (fun W => NrZ w W key M ∧ Var W w4.heap.size 0 ∧ w.heap.size + 1 + 1 < w4.heap.size) ⟨H4.keep ((Below.refl _ _).alloc (Nat.le_refl _) _), Blank.zeroZ (Blank.new rfl), H4.res.1.lt (by simp)⟩ ?_
    rintro W5 ⟨H5, hV, hlt⟩
    clear gk rg H4
    generalize w4.heap.size = b10 at *
    clear w4
    refine (CD.out 256 W5 (Nat.le_refl _)).mono ?_
    rintro e w6 ⟨lv, rfl, ho, hb⟩
    have H6 := H5.keep hb
    have hV6 := hV.keep hb
    clear hb H5 hV
    obtain ⟨a2, g2, c2, elv, ha, hN, hge⟩ := ho.lies
    rw [List.length_map, List.length_range] at elv
    subst elv
    clear ho hge
    clear W5
    go_wp2_with fail
    refine (rfit_any HC.out.2.1 HC.out.2.2.2.1 (Nat.le_refl _) ha w6 hN).mono ?_
    rintro e w7 ⟨rfl, hb⟩
    have H7 := H6.keep hb
    have hV7 := hV6.keep hb
    clear hb H6 hV6 ha hN
    clear w6
    have nr : b10 ≠ w.heap.size + 1 + 1 := by omega
    have nr' := nr.symm
    have gr : w.heap.size ≤ w.heap.size + 1 + 1 := by omega
    have gb : w.heap.size ≤ b10 := by omega
    have B9 := H7.below
    have gR1 := H7.res.1.all4
    have fR1 := H7.res.2.all4
    have gV := hV7.1.cells
    have fV := hV7.2.all4
    cases hq : pkZ C wh 256 with
    | some x =>
      obtain ⟨e1, e2⟩ := nz_some hq (Nat.le_refl _)
      rw [show (some x : Option Int).getD 0 = x from rfl, show (some x : Option Int).isSome = true from rfl]
      have EV : Hid (v = x ∧ f = 0) := ⟨by rw [← HC.out.2.2.2.2.1, e1], by rw [← HC.out.2.2.2.2.2, e2]⟩
      clear hq e1 e2 H7 hV7 il
      generalize w.heap.size + 1 + 1 = br at *
      go_wp2
      simp [bodyPost, results, Tryz.results32, go_sem, gR1, EV.out.1, EV.out.2]
      repeat (first | with_reducible exact B9 | with_reducible refine Below.setCell ?_ (by first | omega | (simp; omega)) _)
    | none =>
      obtain ⟨e1, e2⟩ := nz_none hq
      rw [show (none : Option Int).getD 0 = 0 from rfl, show (none : Option Int).isSome = false from rfl]
      have EV : Hid (v = 0 ∧ f = 65) := ⟨by rw [← HC.out.2.2.2.2.1, e1], by rw [← HC.out.2.2.2.2.2, e2]⟩
      clear hq e1 e2 H7 hV7 il
      generalize w.heap.size + 1 + 1 = br at *
      go_wp2
      simp [bodyPost, results, Tryz.results32, go_sem, gR1, EV.out.1, EV.out.2, z0]
      repeat (first | with_reducible exact B9 | with_reducible refine Below.setCell ?_ (by first | omega | (simp; omega)) _)
end Go.Proofs.YtncpjgpioajbeaaGreatDoor

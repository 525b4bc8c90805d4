import Derived.Test.YtahekhamhdfkdaaRsL
/- Layer 7: cut. -/
namespace Go.Proofs.Ytahekhamhdfkdaa
open Go.RowKit Go.Sort
theorem info_sl : (Try.prog.info? 22).map (fun i => (i.zero, i.size, i.bytes)) = some (some (.slice none 0 0), 1, 24) := by kernel_rfl
theorem info_sl_partsR : ∃ j, Try.prog.info? 22 = some j ∧ j.zero = some (.slice none 0 0) ∧ j.size = 1 ∧ j.bytes = 24 := by
  have h := info_sl
  cases hi : Try.prog.info? 22 with
  | none => rw [hi] at h; simp at h
  | some j => rw [hi] at h; simp at h; exact ⟨j, rfl, h.1, h.2.1, h.2.2⟩
theorem one_newR (W : World) (v : Value) (t : TypeId) : ∀ j u, [v][j]? = some u → (W.alloc (.cells #[v] t)).cell? ((⟨W.heap.size, 0, none⟩ : Addr).add j) = some u := fun j u hu => by
  have hj : j = 0 := by
    have := (List.getElem?_eq_some_iff.1 hu).1
    simpa using this
  subst hj
  have hn : (W.alloc (.cells #[v] t)).heap[W.heap.size]? = some (.cells #[v] t) := by
    show (W.heap.push _)[W.heap.size]? = _
    simp
  rw [Addr.add_mid, Nat.zero_add, cell_of_row _ _ 0 _ _ _ hn]
  simpa using hu
theorem Hb.grown {W W' : World} {b : Nat} {l : Bool} {s h : Int} {row : Option Nat} (x : Hb W b l s h) (hg : W.grownBy W' row) (hn : row ≠ some b) : Hb W' b l s h := by
  have e : W'.heap[b]? = W.heap[b]? := hg.block b x.lt (fun e => hn e.symm)
  obtain ⟨x0, x1, x2⟩ := x
  refine ⟨?_, ?_, ?_⟩
  · rw [← x0]; simp only [World.cell?, e]
  · rw [← x1]; simp only [World.cell?, e]
  · rw [← x2]; simp only [World.cell?, e]
set_option maxRecDepth 100000 in
set_option maxHeartbeats 8000000 in
theorem cut_any {A : List Int} {b o c : Nat} (hA : Byts A) (hl : A.length ≤ 16777216) (hc : A.length ≤ c) (w : World) (h : Bz w b o A) :
    Calls Try.prog 39 #[.slice (some ⟨b, o, none⟩) A.length c] w fun e w' => ∃ v VS, e = .returned (.tuple #[v, .int .i64 (cutP [] A).1]) ∧ TxE w.heap.size w' v (cutP [] A).2 VS ∧ Below w.heap.size w w' := by
  have ST : Hid (Byts A ∧ A.length ≤ 16777216 ∧ A.length ≤ c ∧ Bz w b o A) := ⟨hA, hl, hc, h⟩
  obtain ⟨m, em⟩ : ∃ m, m = A.length := ⟨_, rfl⟩
  have EM : Hid (A.length = m) := em.symm
  rw [← em]
  clear em hA hl hc h
  obtain ⟨iS, hiS, hz0, hz1, hz2⟩ := info_sl_partsR
  obtain ⟨Z, eZ⟩ : ∃ Z, Z = cutP [] A := ⟨_, rfl⟩
  rw [← eZ]
  have EZ : Hid (cutP [] A = Z) := eZ.symm
  clear eZ
  go_enter Try.func39, Try.ntmps39
  go_wp2_with fail
  go_loopg [0, 4] m (fun k bv pv wr => ∃ (R : List Int) (XS : List (List Int)) (VS : List Value) (o' c' : Nat), k = R.length ∧ R.length ≤ m ∧ bv = .slice (some ⟨b, o', none⟩) R.length c' ∧ Byts R ∧ R.length ≤ c' ∧ Bz w b o' R ∧ TxE w.heap.size wr pv XS VS ∧ XS.length + R.length ≤ m ∧ cutP XS R = Z ∧ Below w.heap.size w wr)
  case atStart => exact ⟨A, [], [], o, c, EM.out.symm, by have := EM.out; omega, by rw [EM.out], ST.out.1, ST.out.2.2.1, ST.out.2.2.2, TxE.nil _ _, by have := EM.out; simp; omega, EZ.out, Below.refl _ _⟩
  case round =>
    obtain ⟨R, XS, VS, o', c', hk, hR, rfl, hB, hc, hz, tx, hn, hq, B⟩ := hrel
    have HK : Hid (gk = R.length) := hk
    clear hk
    by_cases k0 : R.length = 0
    · have e := cutP_nil XS k0
      rw [hq] at e
      have HX : Hid (Z = (0, XS) ∧ TxE w.heap.size wr u4 XS VS ∧ Below w.heap.size w wr) := ⟨e, tx, B⟩
      clear e hq tx B
      rw [k0]
      clear hz hB hc hR hn
      go_wp2
      have E := HX.out
      clear HX
      simp [bodyPost, results, Try.results39, go_sem]
      rw [E.1]
      exact ⟨u4, ⟨rfl, rfl⟩, ⟨VS, E.2.1⟩, E.2.2⟩
    have rr := fun W (hW : Bz W b o' R) => rh_all (a := some ⟨b, o', none⟩) (b := b) (o := o') hB (by have := ST.out.2.1; have := EM.out; omega) hc (.inr rfl) W hW
    have hp : (0 : Int) < (R.length : Int) := by omega
    by_cases k1 : (hdP R).2.2.2 ≠ 0
    · have e := cutP_err XS k0 k1
      rw [hq] at e
      have RH : Hid (∀ W, Below wr.heap.size wr W → Calls Try.prog 32 #[.slice (some ⟨b, o', none⟩) R.length c'] W fun e w' => e = .returned (.tuple #[.agg #[.bool (hdP R).1, .int .i64 ((hdP R).2.1 : Int), .int .i64 ((hdP R).2.2.1 : Int)], .int .i64 (hdP R).2.2.2]) ∧ Below W.heap.size W w') := fun W BW => rr W (hz.keep (B.trans (BW.mono B.size)))
      have HE : Hid (Z = ((hdP R).2.2.2, [])) := e
      clear e hq rr
      generalize (hdP R).2.2.2 = e0 at *
      have b6 : (e0 == 0) = false := beq_false_of_ne k1
      have b7 : (e0 != 0) = true := bne_iff_ne.2 k1
      generalize (hdP R).1 = l1 at *
      generalize (hdP R).2.1 = s1 at *
      generalize (hdP R).2.2.1 = h1 at *
      have HX : Hid (Below w.heap.size w wr) := B
      clear tx B hz hB hc hR hn
      go_wp2_with (go_at_call 32; (refine (RH.out _ (Below.refl _ _)).mono ?_); rintro e x ⟨rfl, hbx⟩)
      simp [bodyPost, results, Try.results39, go_sem]
      have b3 := HX.out.trans (hbx.mono HX.out.size)
      rw [HE.out]
      exact ⟨.slice none 0 0, ⟨rfl, rfl⟩, ⟨[], TxE.nil _ _⟩, b3.alloc b3.size _⟩
    · have k2 : (hdP R).2.2.2 = 0 := Decidable.not_not.1 k1
      have RH : Hid (∀ W, Below wr.heap.size wr W → Calls Try.prog 32 #[.slice (some ⟨b, o', none⟩) R.length c'] W fun e w' => e = .returned (.tuple #[.agg #[.bool (hdP R).1, .int .i64 ((hdP R).2.1 : Int), .int .i64 ((hdP R).2.2.1 : Int)], .int .i64 0]) ∧ Below W.heap.size W w') := fun W BW => by
        have r := rr W (hz.keep (B.trans (BW.mono B.size)))
        rw [k2] at r; exact r
      have sp := cutP_step XS k0 k2
      rw [hq] at sp
      obtain ⟨f1, f2⟩ := totP_fits k2
      have tt : (hdP R).2.1 + (hdP R).2.2.1 = totP R := rfl
      obtain ⟨t, et⟩ : ∃ t, t = totP R := ⟨_, rfl⟩
      rw [← et] at sp f1 f2 tt
      have ST2 : Hid (Byts R ∧ Bz w b o' R ∧ XS.length + R.length ≤ m ∧ R.length ≤ m ∧ R.length ≤ c' ∧ Z = cutP (XS ++ [R.take t]) (R.drop t) ∧ t ≤ R.length ∧ 1 ≤ t ∧ m ≤ 16777216) := ⟨hB, hz, hn, hR, hc, sp, f1, f2, by have := ST.out.2.1; have := EM.out; omega⟩
      have TX : Hid (TxE w.heap.size wr u4 XS VS ∧ Below w.heap.size w wr) := ⟨tx, B⟩
      generalize (hdP R).1 = l1 at *
      generalize (hdP R).2.1 = s1 at *
      generalize (hdP R).2.2.1 = h1 at *
      have WH : Hid (∀ W, Calls Try.prog 38 #[.agg #[.bool l1, .int .i64 (s1 : Int), .int .i64 (h1 : Int)]] W fun e w' => e = .returned (.int .i64 (t : Int)) ∧ Below W.heap.size W w') := fun W => by
        have r := whole_any (l := l1) (s := s1) (h := h1) (by omega) (by have := ST2.out.2.2.2.2.2.2.2.2; omega) W
        rwa [show ((s1 : Int) + (h1 : Int)) = (t : Int) by omega] at r
      have la : (R.take t).length = t := by rw [List.length_take]; omega
      have CL : Hid (∀ W, Below w.heap.size w W → Calls Try.prog 33 #[.slice (some ⟨b, o', none⟩) t c'] W fun e w' => ∃ v, e = .returned v ∧ OwnB W.heap.size w' v (R.take t) ∧ v ≠ .slice none 0 0 ∧ Below W.heap.size W w') := fun W BW => by
        have r := bclone_any (c := c') (by rw [la]; have := ST2.out.2.2.2.2.2.2.2.2; omega) W (hz.keep BW).take
        rwa [la] at r
      have j1 : (t : Int) ≤ (c' : Int) := by omega
      have j2 : (t : Int) ≤ (R.length : Int) := by omega
      have j3 : t ≤ R.length := f1
      have ae : (if c' = t then some (⟨b, o', none⟩ : Addr) else some ⟨b, o' + t, none⟩) = some ⟨b, atO o' c' t, none⟩ := by unfold atO; split <;> rfl
      clear tx B hz hB hc hR hn hq rr k1 k2 sp f1 f2 tt et la
      go_wp2_with (go_at_call 32; (refine (RH.out _ (Below.refl _ _)).mono ?_); rintro e x ⟨rfl, hbx⟩)
      have b0 := TX.out.2.trans (hbx.mono TX.out.2.size)
      have tx0 := TX.out.1.keep hbx
      have pf : ∀ k, u4.ownBlock = some k → k < x.heap.size := fun k hk => (World.ownsRow.lt tx0.2.1 k hk).2
      refine calls_world (fun W => Below w.heap.size w W ∧ Hb W x.heap.size l1 s1 h1 ∧ TxE w.heap.size W u4 XS VS) ⟨b0.alloc b0.size _, Hb.new, tx0.keep ((Below.refl _ _).alloc (Nat.le_refl _) _)⟩ ?_
      rintro W1 ⟨B1, H1, T1⟩
      clear b0 tx0 hbx TX RH
      have NE : Hid (u4.ownBlock ≠ some x.heap.size) := fun e => Nat.lt_irrefl _ (pf _ e)
      clear pf
      generalize x.heap.size = bh at *
      clear x
      refine (WH.out _).mono ?_
      rintro e W2 ⟨rfl, q2⟩
      have P2 : Hid (Below w.heap.size w W2 ∧ Hb W2 bh l1 s1 h1 ∧ TxE w.heap.size W2 u4 XS VS) := ⟨B1.trans (q2.mono B1.size), H1.keep q2, T1.keep q2⟩
      clear B1 H1 T1 q2 W1
      go_wp2_with fail
      refine (CL.out W2 P2.out.1).mono ?_
      rintro e W3 ⟨u, rfl, OU, NU, q3⟩
      have P3 : Hid (Below w.heap.size w W3 ∧ Hb W3 bh l1 s1 h1 ∧ TxE w.heap.size W3 u4 XS VS ∧ OwnB w.heap.size W3 u (R.take t) ∧ u ≠ .slice none 0 0 ∧ (∀ k, u.ownBlock = some k → u4.ownBlock ≠ some k)) := ⟨P2.out.1.trans (q3.mono P2.out.1.size), P2.out.2.1.keep q3, P2.out.2.2.keep q3, OU.base P2.out.1.size, NU, fun k hk e => by have := (OU.lt k hk).1; have := (World.ownsRow.lt P2.out.2.2.2.1 k e).2; omega⟩
      clear P2 OU NU q3 CL
      clear W2
      obtain ⟨a9, _, c9, e9, _⟩ := P3.out.2.2.2.1.lies
      generalize (R.take t).length = n9 at e9
      subst e9
      go_wp2_with (first | (at_builtin; go_loud (refine wpList_append_own_at _ rfl _ _ 48 rfl w.heap.size 22 iS (.slice none 0 0) 1 24 Try.underlying48 hiS hz0 hz1 hz2 rfl (by decide) u4 _ _ rfl (P3.out.2.2.1.2.1.alloc _) ⟨W3.heap.size, 0, none⟩ 1 1 [.slice a9 n9 c9] rfl rfl (one_newR _ _ _) (fun y hy => by simp at hy; subst hy; rfl) (by unfold maxLen; have := ST2.out.2.2.1; have := ST2.out.2.2.2.2.2.2.2.2; omega) (by have := ST2.out.2.2.1; have := ST2.out.2.2.2.2.2.2.2.2; omega) (by have := P3.out.1.size; simp; omega) ?_); intro v' w3 hown' hgrow3 hnil3 hblk; (have hg3 : (W3.alloc (.cells #[.slice a9 n9 c9] 22)).grownBy w3 u4.ownBlock := hgrow3); (obtain ⟨g0, g1, g2⟩ := (P3.out.2.1.keep ((Below.refl _ _).alloc (Nat.le_refl _) _)).grown hg3 NE.out)) | (go_at_call 38; (refine (WH.out _).mono ?_); rintro e W4 ⟨rfl, q4⟩))
      have bA := (Below.refl W3.heap.size W3).alloc (Nat.le_refl _) (.cells #[.slice a9 n9 c9] 22)
      have T4 : TxE w.heap.size w3 v' (XS ++ [R.take t]) (VS ++ [.slice a9 n9 c9]) := (P3.out.2.2.1.keep bA).step (P3.out.2.2.2.1.keep bA) P3.out.2.2.2.2.1 P3.out.2.2.2.2.2 hown' hg3 hblk
      have B4 : Below w.heap.size w w3 := (P3.out.1.alloc P3.out.1.size _).grown hg3 (by have := P3.out.1.size; simp; omega) (fun k hk => (World.ownsRow.lt P3.out.2.2.1.2.1 k hk).1)
      have HO : Hid (TxE w.heap.size W4 v' (XS ++ [R.take t]) (VS ++ [.slice a9 n9 c9]) ∧ Below w.heap.size w W4) := ⟨T4.keep q4, B4.trans (q4.mono B4.size)⟩
      clear T4 B4 bA q4 g0 g1 g2 hg3 hgrow3 hnil3 hblk hown' P3
      have LD : Hid ((R.drop t).length = R.length - t) := List.length_drop ..
      go_roundg (R.drop t).length
      case measure => have := HK.out; have := LD.out; have := ST2.out.2.2.2.2.2.2.2.1; omega
      case rel =>
        obtain ⟨z1, z2, z3, z4, z5, z6, z7, z8, z9⟩ := ST2.out
        have ld := LD.out
        refine ⟨R.drop t, XS ++ [R.take t], _, atO o' c' t, c' - t, rfl, by omega, by rw [ld], byts_dropR z1 t, by omega, bz_rest z2 z7 z5, HO.out.1, ?_, z6.symm, HO.out.2⟩
        rw [List.length_append, ld]
        show XS.length + 1 + (R.length - t) ≤ m
        omega
end Go.Proofs.Ytahekhamhdfkdaa

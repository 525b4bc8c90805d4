import Derived.Test.YtdkfpakghpbofaaRtD
/- Layer 7: the document's Parts. -/
namespace Go.Proofs.Ytdkfpakghpbofaa
open Go.RowKit Go.Sort
set_option maxRecDepth 100000 in
set_option maxHeartbeats 4000000 in
theorem rparts_long {a : Option Addr} {m c : Nat} (hm : 16777216 < m) (w : World) :
    Calls Try.prog 10 #[.slice a m c] w fun e w' => e = .returned (.tuple #[.slice none 0 0, .int .i64 2]) ∧ Below w.heap.size w w' := by
  have b1 : decide (16777216 < (m : Int)) = true := decide_eq_true (by omega)
  go_enter Try.func10, Try.ntmps10
  go_wp2
  simp [bodyPost, results, Try.results10, go_sem]
  exact Below.refl _ _
set_option maxRecDepth 100000 in
set_option maxHeartbeats 4000000 in
/-- Refused: by the head, by its kind, or for the rest. -/
theorem rparts_err {a : Option Addr} {m c : Nat} {l : Bool} {s t e0 r : Int} (hm : m ≤ 16777216) (hr : r = if e0 ≠ 0 then e0 else if l = false then 75 else 73) (ht : e0 = 0 → l = true → t < m) (w : World)
    (FH : Hid (∀ w1, Below w.heap.size w w1 → Calls Try.prog 16 #[.slice a m c, .int .i64 0, .int .i64 (m : Int)] w1 fun e w' => e = .returned (.tuple #[.agg #[.bool l, .int .i64 s, .int .i64 t], .int .i64 e0]) ∧ Below w1.heap.size w1 w')) :
    Calls Try.prog 10 #[.slice a m c] w fun e w' => e = .returned (.tuple #[.slice none 0 0, .int .i64 r]) ∧ Below w.heap.size w w' := by
  have b1 : decide (16777216 < (m : Int)) = false := decide_eq_false (by omega)
  by_cases k : e0 ≠ 0
  · have b6 : (e0 == 0) = false := beq_false_of_ne k
    have b7 : (e0 != 0) = true := bne_iff_ne.2 k
    rw [if_pos k] at hr
    subst hr
    go_enter Try.func10, Try.ntmps10
    go_wp2_with fail
    with_reducible refine (FH.out w (Below.refl _ _)).mono ?_
    rintro e w1 ⟨rfl, B⟩
    clear FH
    go_wp2
    simp [bodyPost, results, Try.results10, go_sem]
    exact B.alloc B.size _
  rw [if_neg k] at hr
  obtain rfl : e0 = 0 := Decidable.not_not.1 k
  cases l
  · rw [if_pos rfl] at hr
    subst hr
    go_enter Try.func10, Try.ntmps10
    go_wp2_with fail
    with_reducible refine (FH.out w (Below.refl _ _)).mono ?_
    rintro e w1 ⟨rfl, B⟩
    clear FH
    go_wp2
    simp [bodyPost, results, Try.results10, go_sem]
    exact B.alloc B.size _
  · rw [if_neg (by decide)] at hr
    subst hr
    have b8 : decide (t < (m : Int)) = true := decide_eq_true (ht rfl rfl)
    go_enter Try.func10, Try.ntmps10
    go_wp2_with fail
    with_reducible refine (FH.out w (Below.refl _ _)).mono ?_
    rintro e w1 ⟨rfl, B⟩
    clear FH
    go_wp2
    simp [bodyPost, results, Try.results10, go_sem]
    exact B.alloc B.size _
theorem own_some {B : Nat} {w : World} {v : Value} {X : List Int} (h : OwnB B w v X) (hX : 1 ≤ X.length) : v ≠ .slice none 0 0 := fun e => by
  subst e
  rcases h.2 with ⟨_, h0⟩ | ⟨g, cap, cur, h0, _⟩
  · omega
  · cases h0
set_option maxRecDepth 100000 in
set_option maxHeartbeats 8000000 in
theorem rparts_on {A : List Int} {b o c s : Nat} {Z : Int × List (List Int)} (hA : Byts A) (hl : A.length ≤ 16777216) (hc : A.length ≤ c) (hs : s ≤ A.length) (eZ : cutP [] (A.drop s) = Z) (w : World) (h : Bz w b o A)
    (FH : Hid (∀ w1, Below w.heap.size w w1 → Calls Try.prog 16 #[.slice (some ⟨b, o, none⟩) A.length c, .int .i64 0, .int .i64 (A.length : Int)] w1 fun e w' => e = .returned (.tuple #[.agg #[.bool true, .int .i64 (s : Int), .int .i64 (A.length : Int)], .int .i64 0]) ∧ Below w1.heap.size w1 w')) :
    Calls Try.prog 10 #[.slice (some ⟨b, o, none⟩) A.length c] w fun e w' => ∃ v VS, e = .returned (.tuple #[v, .int .i64 Z.1]) ∧ TxE w.heap.size w' v Z.2 VS ∧ Below w.heap.size w w' := by
  have b1 : decide (16777216 < (A.length : Int)) = false := decide_eq_false (by omega)
  have ST : Hid (Byts A ∧ A.length ≤ 16777216 ∧ A.length ≤ c ∧ Bz w b o A ∧ s ≤ A.length) := ⟨hA, hl, hc, h, hs⟩
  obtain ⟨m, em⟩ : ∃ m, m = A.length := ⟨_, rfl⟩
  have EM : Hid (A.length = m) := em.symm
  rw [← em] at b1 FH ⊢
  clear em hA hl hc h hs
  obtain ⟨iS, hiS, hz0, hz1, hz2⟩ := info_sl_partsR
  have EZ : Hid (cutP [] (A.drop s) = Z) := eZ
  clear eZ
  have b8 : decide ((m : Int) < (m : Int)) = false := decide_eq_false (by omega)
  go_enter Try.func10, Try.ntmps10
  go_wp2_with fail
  with_reducible refine (FH.out w (Below.refl _ _)).mono ?_
  rintro e w1 ⟨rfl, B⟩
  clear FH
  go_wp2_with fail
  refine wp_world (fun W => Below w.heap.size w W ∧ Hb W w1.heap.size true s m) ⟨B.alloc B.size _, Hb.new⟩ ?_
  have o1 := B.size
  clear B
  rintro W ⟨B, hH⟩
  generalize w1.heap.size = bh at *
  clear w1
  go_loopg [6, 7] (m - s) (fun k ov pv wr => ∃ (p : Nat) (XS : List (List Int)) (VS : List Value), k = m - p ∧ p ≤ m ∧ pv = .int .i64 (p : Int) ∧ TxE w.heap.size wr ov XS VS ∧ XS.length ≤ p ∧ cutP XS (A.drop p) = Z ∧ Below w.heap.size w wr ∧ Hb wr bh true s m ∧ ov.ownBlock ≠ some bh)
  case atStart =>
    refine ⟨s, [], [], ?_, by have := ST.out.2.2.2.2; have := EM.out; omega, rfl, TxE.nil _ _, Nat.zero_le _, EZ.out, B, hH, fun e => by cases e⟩
    rfl
  case round =>
    clear B hH
    obtain ⟨p, XS, VS, hk, hp, rfl, tx, hx, hq, B, hH, nb⟩ := hrel
    have HK : Hid (gk = m - p) := hk
    clear hk
    obtain ⟨a0, a1, a2⟩ := id hH
    by_cases k0 : p = m
    · subst k0
      have e := cutP_nil XS (A := A.drop p) (by rw [List.length_drop, EM.out]; omega)
      rw [hq] at e
      have HX : Hid (Z = (0, XS) ∧ TxE w.heap.size wr u6 XS VS ∧ Below w.heap.size w wr) := ⟨e, tx, B⟩
      clear e hq tx B hx hH nb
      go_wp2
      have E := HX.out
      clear HX
      simp [bodyPost, results, Try.results10, go_sem]
      rw [E.1]
      exact ⟨u6, ⟨rfl, rfl⟩, ⟨VS, E.2.1⟩, E.2.2⟩
    have hlt : (p : Int) < (m : Int) := by omega
    have ld : (A.drop p).length = m - p := by rw [List.length_drop, EM.out]
    have rr := fun W (hW : Bz W b o A) => rd_all (a := some ⟨b, o, none⟩) (b := b) (o := o) (c := c) (p := p) ST.out.1 ST.out.2.1 ST.out.2.2.1 (.inr rfl) (by have := EM.out; omega) W hW
    simp only [EM.out] at rr
    by_cases k1 : (hdP (A.drop p)).2.2.2 ≠ 0
    · have e := cutP_err XS (A := A.drop p) (by omega) k1
      rw [hq] at e
      have hv : hdV p (hdP (A.drop p)) = .tuple #[.agg #[.bool false, .int .i64 0, .int .i64 0], .int .i64 (hdP (A.drop p)).2.2.2] := if_neg k1
      have RH : Hid (∀ W, Below w.heap.size w W → Calls Try.prog 16 #[.slice (some ⟨b, o, none⟩) m c, .int .i64 (p : Int), .int .i64 (m : Int)] W fun e w' => e = .returned (.tuple #[.agg #[.bool false, .int .i64 0, .int .i64 0], .int .i64 (hdP (A.drop p)).2.2.2]) ∧ Below W.heap.size W w') := fun W BW => by
        have r := rr W (ST.out.2.2.2.1.keep BW)
        rw [hv] at r; exact r
      have HE : Hid (Z = ((hdP (A.drop p)).2.2.2, [])) := e
      clear e hq rr hv
      generalize (hdP (A.drop p)).2.2.2 = e0 at *
      have b6 : (e0 == 0) = false := beq_false_of_ne k1
      have b7 : (e0 != 0) = true := bne_iff_ne.2 k1
      have HX : Hid (Below w.heap.size w wr) := B
      clear tx B hH hx nb k1 ld
      go_wp2_with (go_at_call 16; (refine (RH.out _ HX.out).mono ?_); rintro e x ⟨rfl, hbx⟩)
      simp [bodyPost, results, Try.results10, go_sem]
      have b3 := HX.out.trans (hbx.mono HX.out.size)
      rw [HE.out]
      exact ⟨.slice none 0 0, ⟨rfl, rfl⟩, ⟨[], TxE.nil _ _⟩, b3.alloc b3.size _⟩
    · have k2 : (hdP (A.drop p)).2.2.2 = 0 := Decidable.not_not.1 k1
      have sp := cutP_step XS (A := A.drop p) (by omega) k2
      rw [hq, List.drop_drop] at sp
      obtain ⟨f1, f2⟩ := totP_fits k2
      obtain ⟨t, et⟩ : ∃ t, t = totP (A.drop p) := ⟨_, rfl⟩
      obtain ⟨q, eq⟩ : ∃ q, q = p + t := ⟨_, rfl⟩
      rw [← et] at sp f1 f2
      rw [← eq] at sp
      rw [ld] at f1
      have hv : hdV p (hdP (A.drop p)) = .tuple #[.agg #[.bool (hdP (A.drop p)).1, .int .i64 ((p : Int) + ((hdP (A.drop p)).2.1 : Int)), .int .i64 (q : Int)], .int .i64 0] := by
        unfold hdV
        rw [if_pos k2]
        have : (p : Int) + ((hdP (A.drop p)).2.1 : Int) + ((hdP (A.drop p)).2.2.1 : Int) = (q : Int) := by
          rw [eq, et]; unfold totP; omega
        rw [this]
      have RH : Hid (∀ W, Below w.heap.size w W → Calls Try.prog 16 #[.slice (some ⟨b, o, none⟩) m c, .int .i64 (p : Int), .int .i64 (m : Int)] W fun e w' => e = .returned (.tuple #[.agg #[.bool (hdP (A.drop p)).1, .int .i64 ((p : Int) + ((hdP (A.drop p)).2.1 : Int)), .int .i64 (q : Int)], .int .i64 0]) ∧ Below W.heap.size W w') := fun W BW => by
        have r := rr W (ST.out.2.2.2.1.keep BW)
        rw [hv] at r; exact r
      have la : ((A.drop p).take t).length = t := by rw [List.length_take]; omega
      have hcm : m ≤ c := by have := ST.out.2.2.1; have := EM.out; omega
      have CL : Hid (∀ W, Below w.heap.size w W → Calls Try.prog 17 #[.slice (some ⟨b, atO o c p, none⟩) t (c - p)] W fun e w' => ∃ v, e = .returned v ∧ OwnB W.heap.size w' v ((A.drop p).take t) ∧ Below W.heap.size W w') := fun W BW => r7bytes_any la.symm (by rw [la]; have := ST.out.2.1; have := EM.out; omega) (.inr rfl) (fun e => by cases e) W (bz_part (ST.out.2.2.2.1.keep BW) (by have := EM.out; omega) ST.out.2.2.1)
      have ST2 : Hid (Z = cutP (XS ++ [(A.drop p).take t]) (A.drop q) ∧ XS.length ≤ p ∧ p ≤ m ∧ 1 ≤ t ∧ q = p + t ∧ q ≤ m ∧ m ≤ 16777216) := ⟨sp, hx, hp, f2, eq, by omega, by have := ST.out.2.1; have := EM.out; omega⟩
      have TX : Hid (TxE w.heap.size wr u6 XS VS ∧ Below w.heap.size w wr ∧ Hb wr bh true s m ∧ u6.ownBlock ≠ some bh) := ⟨tx, B, hH, nb⟩
      generalize (hdP (A.drop p)).1 = l1 at *
      generalize ((p : Int) + ((hdP (A.drop p)).2.1 : Int)) = s1 at *
      have j1 : (q : Int) ≤ (c : Int) := by omega
      have j2 : p ≤ q := by omega
      have j3 : q - p = t := by omega
      have ae : (if c = p then some (⟨b, o, none⟩ : Addr) else some ⟨b, o + p, none⟩) = some ⟨b, atO o c p, none⟩ := by unfold atO; split <;> rfl
      clear tx B hH hx hp nb hq rr k1 k2 sp f1 f2 et eq la hv ld hcm
      go_wp2_with (go_at_call 16; (refine (RH.out _ TX.out.2.1).mono ?_); rintro e x ⟨rfl, hbx⟩)
      have b0 := TX.out.2.1.trans (hbx.mono TX.out.2.1.size)
      have tx0 := TX.out.1.keep hbx
      have hh0 := TX.out.2.2.1.keep hbx
      have pf : ∀ k, u6.ownBlock = some k → k < x.heap.size := fun k hk => (World.ownsRow.lt tx0.2.1 k hk).2
      refine calls_world (fun W => Below w.heap.size w W ∧ Hb W x.heap.size l1 s1 q ∧ TxE w.heap.size W u6 XS VS ∧ Hb W bh true s m) ⟨b0.alloc b0.size _, Hb.new, tx0.keep ((Below.refl _ _).alloc (Nat.le_refl _) _), hh0.keep ((Below.refl _ _).alloc (Nat.le_refl _) _)⟩ ?_
      have NE : Hid (u6.ownBlock ≠ some x.heap.size ∧ u6.ownBlock ≠ some bh) := ⟨fun e => Nat.lt_irrefl _ (pf _ e), TX.out.2.2.2⟩
      rintro W1 ⟨B1, H1, T1, G1⟩
      clear b0 tx0 hh0 hbx TX RH pf a0 a1 a2
      generalize x.heap.size = bx at *
      clear x
      refine (CL.out W1 B1).mono ?_
      rintro e W3 ⟨u, rfl, OU, q3⟩
      have NU := own_some OU (by rw [List.length_take, List.length_drop, EM.out]; have := ST2.out; omega)
      have P3 : Hid (Below w.heap.size w W3 ∧ Hb W3 bx l1 s1 q ∧ TxE w.heap.size W3 u6 XS VS ∧ OwnB w.heap.size W3 u ((A.drop p).take t) ∧ u ≠ .slice none 0 0 ∧ (∀ k, u.ownBlock = some k → u6.ownBlock ≠ some k) ∧ Hb W3 bh true s m) := ⟨B1.trans (q3.mono B1.size), H1.keep q3, T1.keep q3, OU.base B1.size, NU, fun k hk e => by have := (OU.lt k hk).1; have := (World.ownsRow.lt T1.2.1 k e).2; omega, G1.keep q3⟩
      clear OU NU q3 CL B1 H1 T1 G1
      clear W1
      obtain ⟨a9, _, c9, e9, _⟩ := P3.out.2.2.2.1.lies
      generalize ((A.drop p).take t).length = n9 at e9
      subst e9
      go_wp2_with (at_builtin; go_loud (refine wpList_append_own_at _ rfl _ _ 31 rfl w.heap.size 22 iS (.slice none 0 0) 1 24 Try.underlying31 hiS hz0 hz1 hz2 rfl (by decide) u6 _ _ rfl (P3.out.2.2.1.2.1.alloc _) ⟨W3.heap.size, 0, none⟩ 1 1 [.slice a9 n9 c9] rfl rfl (one_newR _ _ _) (fun y hy => by simp at hy; subst hy; rfl) (by unfold maxLen; have := ST2.out; omega) (by have := ST2.out; omega) (by have := P3.out.1.size; simp; omega) ?_); intro v' w3 hown' hgrow3 hnil3 hblk; (have hg3 : (W3.alloc (.cells #[.slice a9 n9 c9] 22)).grownBy w3 u6.ownBlock := hgrow3); (obtain ⟨g0, g1, g2⟩ := (P3.out.2.1.keep ((Below.refl _ _).alloc (Nat.le_refl _) _)).grown hg3 NE.out.1))
      have bA := (Below.refl W3.heap.size W3).alloc (Nat.le_refl _) (.cells #[.slice a9 n9 c9] 22)
      have T4 : TxE w.heap.size w3 v' (XS ++ [(A.drop p).take t]) (VS ++ [.slice a9 n9 c9]) := (P3.out.2.2.1.keep bA).step (P3.out.2.2.2.1.keep bA) P3.out.2.2.2.2.1 P3.out.2.2.2.2.2.1 hown' hg3 hblk
      have B4 : Below w.heap.size w w3 := (P3.out.1.alloc P3.out.1.size _).grown hg3 (by have := P3.out.1.size; simp; omega) (fun k hk => (World.ownsRow.lt P3.out.2.2.1.2.1 k hk).1)
      have G4 := (P3.out.2.2.2.2.2.2.keep bA).grown hg3 NE.out.2
      have V4 : v'.ownBlock ≠ some bh := by
        have lb := P3.out.2.2.2.2.2.2.lt
        rcases hblk with y | y
        · rw [y]; exact NE.out.2
        · rw [y]; intro e; have := Option.some.inj e; simp at this; omega
      have HO : Hid (TxE w.heap.size w3 v' (XS ++ [(A.drop p).take t]) (VS ++ [.slice a9 n9 c9]) ∧ Below w.heap.size w w3 ∧ Hb w3 bh true s m ∧ v'.ownBlock ≠ some bh) := ⟨T4, B4, G4, V4⟩
      clear T4 B4 G4 V4 bA g0 g1 g2 hg3 hgrow3 hnil3 hblk hown' P3
      go_roundg (m - q)
      case measure => have := HK.out; have := ST2.out; omega
      case rel =>
        obtain ⟨z1, z2, z3, z4, z5, z6, z7⟩ := ST2.out
        refine ⟨q, XS ++ [(A.drop p).take t], _, rfl, z6, rfl, HO.out.1, ?_, z1.symm, HO.out.2.1, HO.out.2.2⟩
        rw [List.length_append]
        show XS.length + 1 ≤ q
        omega
/-- The document's Parts of any bytes. -/
theorem rparts_any {A : List Int} {a : Option Addr} {b o c : Nat} (hA : Byts A) (hl : A.length ≤ 16777216) (hc : A.length ≤ c) (ha : Az a b o A) (w : World) (h : Bz w b o A) :
    Calls Try.prog 10 #[.slice a A.length c] w fun e w' => ∃ v VS, e = .returned (.tuple #[v, .int .i64 (partsP A).1]) ∧ TxE w.heap.size w' v (partsP A).2 VS ∧ Below w.heap.size w w' := by
  have FH0 := fun w1 (B : Below w.heap.size w w1) => rd_all (p := 0) hA hl hc ha (Nat.zero_le _) w1 (h.keep B)
  rw [List.drop_zero] at FH0
  by_cases k0 : (hdP A).2.2.2 ≠ 0
  · have e : partsP A = ((hdP A).2.2.2, []) := by unfold partsP; rw [if_pos k0]
    have hv : hdV 0 (hdP A) = .tuple #[.agg #[.bool false, .int .i64 0, .int .i64 0], .int .i64 (hdP A).2.2.2] := if_neg k0
    rw [hv] at FH0
    rw [e]
    exact (rparts_err (r := (hdP A).2.2.2) hl (by rw [if_pos k0]) (fun x => absurd x k0) w FH0).mono fun e w' x => ⟨_, [], x.1, TxE.nil _ _, x.2⟩
  have k1 : (hdP A).2.2.2 = 0 := Decidable.not_not.1 k0
  obtain ⟨f1, f2⟩ := totP_fits k1
  have hv : hdV 0 (hdP A) = .tuple #[.agg #[.bool (hdP A).1, .int .i64 ((hdP A).2.1 : Int), .int .i64 (totP A : Int)], .int .i64 0] := by
    unfold hdV
    rw [if_pos k1]
    have i1 : ((0 : Nat) : Int) + ((hdP A).2.1 : Int) = ((hdP A).2.1 : Int) := by omega
    have i2 : ((hdP A).2.1 : Int) + ((hdP A).2.2.1 : Int) = (totP A : Int) := by unfold totP; omega
    rw [i1, i2]
  rw [hv] at FH0
  by_cases k2 : (hdP A).1 = false
  · have e : partsP A = (75, []) := by unfold partsP; rw [if_neg k0, if_pos k2]
    rw [e]
    rw [k2] at FH0
    exact (rparts_err (r := 75) hl (by simp) (fun _ x => by cases x) w FH0).mono fun e w' x => ⟨_, [], x.1, TxE.nil _ _, x.2⟩
  have k3 : (hdP A).1 = true := by simpa using k2
  rw [k3] at FH0
  by_cases k4 : totP A < A.length
  · have e : partsP A = (73, []) := by unfold partsP; rw [if_neg k0, if_neg k2, if_pos k4]
    rw [e]
    exact (rparts_err (r := 73) hl (by simp) (fun _ _ => by omega) w FH0).mono fun e w' x => ⟨_, [], x.1, TxE.nil _ _, x.2⟩
  have e : partsP A = cutP [] (A.drop (hdP A).2.1) := by unfold partsP; rw [if_neg k0, if_neg k2, if_neg k4]
  rw [e]
  obtain rfl := ha.cons (by omega)
  have t : totP A = A.length := by omega
  rw [t] at FH0
  exact rparts_on hA hl hc (by unfold totP at f1; omega) rfl w h FH0
end Go.Proofs.Ytdkfpakghpbofaa

import Derived.Test.YtaefmdofchjofaaRxH
/- Layer 7: the document's put, Encode. -/
namespace Go.Proofs.Ytaefmdofchjofaa
open Go.RowKit Go.Sort

set_option maxRecDepth 100000 in
set_option maxHeartbeats 8000000 in
theorem rput_bare {x : Int} {b o : Nat} {a' : Option Addr} {c c' : Nat} {w0 : World} {P : List Int} {v : Value} (hx : x < 128) (k4 : Bz w0 b o [x]) (w : World) (hB : Below w0.heap.size w0 w) (hv : OwnB w0.heap.size w v P) (hp : P.length + (4 + [x].length) < 1000000000) :
    Calls Try.prog 58 #[v, .agg #[.bool false, .slice (some ⟨b, o, none⟩) 1 c, .slice a' 0 c']] w fun e w' => ∃ v', e = .returned v' ∧ Pu w0.heap.size w w' v v' (P ++ [x]) := by
  have HV : Hid (OwnB w0.heap.size w v P ∧ Below w0.heap.size w0 w) := ⟨hv, hB⟩
  have HL : Hid (P.length + (4 + [x].length) < 1000000000) := hp
  have HZ : Hid (∀ W, Below w0.heap.size w0 W → Bz W b o [x]) := fun W B => k4.keep B
  obtain ⟨va, vg, vc, ev, -⟩ := hv.lies
  clear k4 hv hB hp
  subst ev
  generalize hpl : P.length = pl at *
  have PL : Hid (P.length = pl) := hpl
  clear hpl
  go_enter Try.func58, Try.ntmps58
  refine wp_seq_k fun K h => ?_
  have H : Hid _ := h
  clear h
  go_wp2_with fail
  refine H.out _ _ ?_
  clear H K
  refine wp_world (fun W => Below w.heap.size w W ∧ Bx W w.heap.size false (.slice (some ⟨b, o, none⟩) 1 c) (.slice a' 0 c') ∧ W.heap.size = w.heap.size + 1) ⟨(Below.refl _ _).alloc (Nat.le_refl _) _, ⟨by simp [go_sem], by simp [go_sem], by simp [go_sem]⟩, by simp⟩ ?_
  rintro W ⟨B, hX, hs⟩
  have b0 : Below w0.heap.size w0 W := HV.out.2.trans (B.mono HV.out.2.size)
  have hnb : (Value.slice va pl vc).ownBlock ≠ some w.heap.size := fun e => by have := (HV.out.1.lt _ e).2; omega
  have PW : Hid (Pu w0.heap.size w W (.slice va pl vc) (.slice va pl vc) P) := Pu.of_below HV.out.1 B
  have FW : Hid (∀ V vr Y, Pu w0.heap.size W V (.slice va pl vc) vr Y → Below w0.heap.size w0 V ∧ V.cell? ⟨w.heap.size, 1, none⟩ = some (.slice (some ⟨b, o, none⟩) 1 c) ∧ w0.heap.size ≤ V.heap.size) := fun V vr Y h => by
    have hl2 : ∀ k, (Value.slice va pl vc).ownBlock = some k → w0.heap.size ≤ k := fun k hk => (HV.out.1.lt k hk).1
    have b1 := h.chg.below (B := w0.heap.size) b0.size hl2
    exact ⟨b0.trans b1, h.chg.cell (fun e => hnb e) hX.2.1, Nat.le_trans b0.size h.chg.size⟩
  have B0 : Hid (Below w0.heap.size w0 W) := b0
  obtain ⟨x0, x1, x2⟩ := hX
  have y0 := HZ.out W b0 0 (by simp)
  simp only [Nat.add_zero, List.getD_cons_zero] at y0
  have hx' : decide (128 ≤ x) = false := decide_eq_false (by omega)
  clear B b0 hs hnb hx
  go_wp2_with (at_builtin; (refine wpList_append_ry (Q1 := [x]) (g := b) (p := o) rfl _ _ rfl rfl rfl rfl PW.out.own (.inr rfl) (fun e => by cases e) (HZ.out _ B0.out) (by have := HL.out; have := PL.out; simp at *; omega) B0.out.size ?_); intro v3 w3 o3 g3 r3)
  simp [bodyPost, results, Try.results58, go_sem]
  exact PW.out.trans (Pu.of_grown o3 g3 r3)
set_option maxRecDepth 100000 in
set_option maxHeartbeats 8000000 in
theorem rput_one {x : Int} {b o : Nat} {a' : Option Addr} {c c' : Nat} {w0 : World} {P : List Int} {v : Value} (hx : ¬ x < 128) (k4 : Bz w0 b o [x]) (w : World) (hB : Below w0.heap.size w0 w) (hv : OwnB w0.heap.size w v P) (hp : P.length + (4 + [x].length) < 1000000000) :
    Calls Try.prog 58 #[v, .agg #[.bool false, .slice (some ⟨b, o, none⟩) 1 c, .slice a' 0 c']] w fun e w' => ∃ v', e = .returned v' ∧ Pu w0.heap.size w w' v v' (P ++ (hdR 128 1 ++ [x])) := by
  have HV : Hid (OwnB w0.heap.size w v P ∧ Below w0.heap.size w0 w) := ⟨hv, hB⟩
  have HL : Hid (P.length + (4 + [x].length) < 1000000000) := hp
  have HZ : Hid (∀ W, Below w0.heap.size w0 W → Bz W b o [x]) := fun W B => k4.keep B
  have BF : Hid (∀ w, Calls Try.prog 77 #[.int .i64 1, .int .i64 128] w fun e w' => ∃ v', e = .returned v' ∧ OwnB w.heap.size w' v' (hdR 128 1) ∧ Below w.heap.size w w') := fun w => before_text (n := 1) (by omega) w
  have HB : Hid ((hdR 128 1).length ≤ 4) := hdR_len _ _
  have AZ : Hid (Az (some ⟨b, o, none⟩) b o [x] ∧ ((some (⟨b, o, none⟩ : Addr)) = none → c = 0)) := ⟨.inr rfl, fun e => by cases e⟩
  obtain ⟨va, vg, vc, ev, -⟩ := hv.lies
  clear k4 hv hB hp
  subst ev
  generalize hpl : P.length = pl at *
  have PL : Hid (P.length = pl) := hpl
  clear hpl
  go_enter Try.func58, Try.ntmps58
  refine wp_seq_k fun K h => ?_
  have H : Hid _ := h
  clear h
  go_wp2_with fail
  refine H.out _ _ ?_
  clear H K
  refine wp_world (fun W => Below w.heap.size w W ∧ Bx W w.heap.size false (.slice (some ⟨b, o, none⟩) 1 c) (.slice a' 0 c') ∧ W.heap.size = w.heap.size + 1) ⟨(Below.refl _ _).alloc (Nat.le_refl _) _, ⟨by simp [go_sem], by simp [go_sem], by simp [go_sem]⟩, by simp⟩ ?_
  rintro W ⟨B, hX, hs⟩
  have b0 : Below w0.heap.size w0 W := HV.out.2.trans (B.mono HV.out.2.size)
  have hnb : (Value.slice va pl vc).ownBlock ≠ some w.heap.size := fun e => by have := (HV.out.1.lt _ e).2; omega
  have PW : Hid (Pu w0.heap.size w W (.slice va pl vc) (.slice va pl vc) P) := Pu.of_below HV.out.1 B
  have FW : Hid (∀ V vr Y, Pu w0.heap.size W V (.slice va pl vc) vr Y → Below w0.heap.size w0 V ∧ V.cell? ⟨w.heap.size, 1, none⟩ = some (.slice (some ⟨b, o, none⟩) 1 c) ∧ w0.heap.size ≤ V.heap.size) := fun V vr Y h => by
    have hl2 : ∀ k, (Value.slice va pl vc).ownBlock = some k → w0.heap.size ≤ k := fun k hk => (HV.out.1.lt k hk).1
    have b1 := h.chg.below (B := w0.heap.size) b0.size hl2
    exact ⟨b0.trans b1, h.chg.cell (fun e => hnb e) hX.2.1, Nat.le_trans b0.size h.chg.size⟩
  have B0 : Hid (Below w0.heap.size w0 W) := b0
  obtain ⟨x0, x1, x2⟩ := hX
  have y0 := HZ.out W b0 0 (by simp)
  simp only [Nat.add_zero, List.getD_cons_zero] at y0
  have hx' : (128 : Int) ≤ x := by omega
  clear hx
  clear B b0 hs hnb
  go_wp2_with (first
    | ((with_reducible refine (BF.out _).mono ?_); rintro e1 w2 ⟨v2, rfl, o2, b2⟩; (have p2 := Pu.of_below PW.out.own b2); (obtain ⟨a2, g2, c2, rfl, q2, z2, y2, _, _, nc2⟩ := o2.lies))
    | (at_builtin; (refine wpList_append_ry rfl _ _ rfl rfl rfl rfl p2.own z2 nc2 y2 (by have := HL.out; have := HB.out; have := PL.out; simp at *; omega) (FW.out _ _ _ p2).2.2 ?_); intro v3 w3 o3 g3 r3; (have p3 := p2.trans (Pu.of_grown o3 g3 r3)); (obtain ⟨f1, f2, f3⟩ := FW.out _ _ _ p3); (obtain ⟨a3, g4, c3, e3, -⟩ := o3.lies); (generalize List.length (_ ++ _) = n3 at e3); (subst e3))
    | (at_builtin; (refine wpList_append_ry (Q1 := [x]) (g := b) (p := o) rfl _ _ rfl rfl rfl rfl p3.own AZ.out.1 AZ.out.2 (HZ.out _ f1) (by have := HL.out; have := HB.out; have := PL.out; simp at *; omega) f3 ?_); intro v5 w5 o5 g5 r5))
  simp [bodyPost, results, Try.results58, go_sem]
  have := PW.out.trans (p3.trans (Pu.of_grown o5 g5 r5))
  rw [List.append_assoc] at this
  exact this
set_option maxRecDepth 100000 in
set_option maxHeartbeats 8000000 in
theorem rput_text {X : List Int} {a : Option Addr} {b o : Nat} {a' : Option Addr} {c c' : Nat} {w0 : World} {P : List Int} {v : Value} (h1 : X.length ≠ 1) (hn : X.length < 4194304) (ha : Az a b o X) (hc : a = none → c = 0) (k4 : Bz w0 b o X) (w : World) (hB : Below w0.heap.size w0 w) (hv : OwnB w0.heap.size w v P) (hp : P.length + (4 + X.length) < 1000000000) :
    Calls Try.prog 58 #[v, .agg #[.bool false, .slice a X.length c, .slice a' 0 c']] w fun e w' => ∃ v', e = .returned v' ∧ Pu w0.heap.size w w' v v' (P ++ (hdR 128 X.length ++ X)) := by
  have HV : Hid (OwnB w0.heap.size w v P ∧ Below w0.heap.size w0 w) := ⟨hv, hB⟩
  have HL : Hid (P.length + (4 + X.length) < 1000000000) := hp
  have HZ : Hid (∀ W, Below w0.heap.size w0 W → Bz W b o X) := fun W B => k4.keep B
  have BF : Hid (∀ w, Calls Try.prog 77 #[.int .i64 (X.length : Int), .int .i64 128] w fun e w' => ∃ v', e = .returned v' ∧ OwnB w.heap.size w' v' (hdR 128 X.length) ∧ Below w.heap.size w w') := fun w => before_text (n := X.length) (by omega) w
  have HB : Hid ((hdR 128 X.length).length ≤ 4) := hdR_len _ _
  have AZ : Hid (Az a b o X ∧ (a = none → c = 0)) := ⟨ha, hc⟩
  have h1' : ((X.length : Int) == 1) = false := by
    have : ¬ ((X.length : Int) = 1) := by omega
    simpa using this
  have h1'' : ¬ ((X.length : Int) = 1) := by omega
  have h1n : ((X.length : Int) != 1) = true := by simpa using h1''
  clear ha hc h1 hn
  obtain ⟨va, vg, vc, ev, -⟩ := hv.lies
  clear k4 hv hB hp
  subst ev
  generalize hpl : P.length = pl at *
  have PL : Hid (P.length = pl) := hpl
  clear hpl
  go_enter Try.func58, Try.ntmps58
  refine wp_seq_k fun K h => ?_
  have H : Hid _ := h
  clear h
  go_wp2_with fail
  refine H.out _ _ ?_
  clear H K
  refine wp_world (fun W => Below w.heap.size w W ∧ Bx W w.heap.size false (.slice a X.length c) (.slice a' 0 c') ∧ W.heap.size = w.heap.size + 1) ⟨(Below.refl _ _).alloc (Nat.le_refl _) _, ⟨by simp [go_sem], by simp [go_sem], by simp [go_sem]⟩, by simp⟩ ?_
  rintro W ⟨B, hX, hs⟩
  have b0 : Below w0.heap.size w0 W := HV.out.2.trans (B.mono HV.out.2.size)
  have hnb : (Value.slice va pl vc).ownBlock ≠ some w.heap.size := fun e => by have := (HV.out.1.lt _ e).2; omega
  have PW : Hid (Pu w0.heap.size w W (.slice va pl vc) (.slice va pl vc) P) := Pu.of_below HV.out.1 B
  have FW : Hid (∀ V vr Y, Pu w0.heap.size W V (.slice va pl vc) vr Y → Below w0.heap.size w0 V ∧ V.cell? ⟨w.heap.size, 1, none⟩ = some (.slice a X.length c) ∧ w0.heap.size ≤ V.heap.size) := fun V vr Y h => by
    have hl2 : ∀ k, (Value.slice va pl vc).ownBlock = some k → w0.heap.size ≤ k := fun k hk => (HV.out.1.lt k hk).1
    have b1 := h.chg.below (B := w0.heap.size) b0.size hl2
    exact ⟨b0.trans b1, h.chg.cell (fun e => hnb e) hX.2.1, Nat.le_trans b0.size h.chg.size⟩
  have B0 : Hid (Below w0.heap.size w0 W) := b0
  obtain ⟨x0, x1, x2⟩ := hX
  clear B b0 hs hnb
  go_wp2_with (first
    | ((with_reducible refine (BF.out _).mono ?_); rintro e1 w2 ⟨v2, rfl, o2, b2⟩; (have p2 := Pu.of_below PW.out.own b2); (obtain ⟨a2, g2, c2, rfl, q2, z2, y2, _, _, nc2⟩ := o2.lies))
    | (at_builtin; (refine wpList_append_ry rfl _ _ rfl rfl rfl rfl p2.own z2 nc2 y2 (by have := HL.out; have := HB.out; have := PL.out; simp at *; omega) (FW.out _ _ _ p2).2.2 ?_); intro v3 w3 o3 g3 r3; (have p3 := p2.trans (Pu.of_grown o3 g3 r3)); (obtain ⟨f1, f2, f3⟩ := FW.out _ _ _ p3); (obtain ⟨a3, g4, c3, e3, -⟩ := o3.lies); (generalize List.length (_ ++ _) = n3 at e3); (subst e3))
    | (at_builtin; (refine wpList_append_ry (Q1 := X) (g := b) (p := o) rfl _ _ rfl rfl rfl rfl p3.own AZ.out.1 AZ.out.2 (HZ.out _ f1) (by have := HL.out; have := HB.out; have := PL.out; simp at *; omega) f3 ?_); intro v5 w5 o5 g5 r5))
  simp [bodyPost, results, Try.results58, go_sem]
  have := PW.out.trans (p3.trans (Pu.of_grown o5 g5 r5))
  rw [List.append_assoc] at this
  exact this
/-- The document's put, of any tree in which nothing is odd. -/
theorem rputT_any {w0 : World} : ∀ (t : Tr) {d q : Value} (_ : oddT t = false) (_ : wtT t < 4194304) (_ : It w0 t d q) (w : World) (_ : Below w0.heap.size w0 w) (v : Value) (P : List Int) (_ : OwnB w0.heap.size w v P) (_ : P.length + 4 * wtT t < 1000000000),
    Calls Try.prog 58 #[v, itV t d q] w fun e w' => ∃ v', e = .returned v' ∧ Pu w0.heap.size w w' v v' (P ++ encT t) := by
  refine Tr.ind fun l X ts ih d q ho hw h w hB v P hv hp => ?_
  rw [It] at h
  obtain ⟨⟨a, b, o, c, rfl, h2, h3, h4⟩, a', b', o', c', rfl, k2, k3, k4⟩ := h
  rw [wtT] at hw hp
  show Calls Try.prog 58 #[v, .agg #[.bool l, .slice a X.length c, .slice a' ts.length c']] w _
  rw [oddT, Bool.or_eq_false_iff] at ho
  rw [encT]
  cases l with
  | true =>
    have e : X.length = 0 := by have := ho.1; unfold odd1 at this; simpa using this
    rw [e, if_pos rfl]
    exact rput_list (a := a) (c := c) ho.2 (by omega) k2.1 k3 k4 w hB hv (by omega) ih
  | false =>
    have e : ts.length = 0 := by have := ho.1; unfold odd1 at this; simpa using this
    rw [e, if_neg Bool.false_ne_true]
    unfold encX bareB
    by_cases h1 : X.length = 1
    · obtain ⟨x, rfl⟩ := List.length_eq_one_iff.1 h1
      have ea : a = some ⟨b, o, none⟩ := h3.cons (by simp)
      subst ea
      by_cases hx : x < 128
      · have e1 : (if (decide ([x].length = 1) && decide ([x].getD 0 0 < 128)) = true then [x] else hdR 128 [x].length ++ [x]) = [x] := by simp [hx]
        rw [e1]
        exact rput_bare (a' := a') (c := c) (c' := c') hx h4 w hB hv (by simp at hp ⊢; omega)
      · have e1 : (if (decide ([x].length = 1) && decide ([x].getD 0 0 < 128)) = true then [x] else hdR 128 [x].length ++ [x]) = hdR 128 1 ++ [x] := by simp [hx]
        rw [e1]
        exact rput_one (a' := a') (c := c) (c' := c') hx h4 w hB hv (by simp at hp ⊢; omega)
    · have e1 : (if (decide (X.length = 1) && decide (X.getD 0 0 < 128)) = true then X else hdR 128 X.length ++ X) = hdR 128 X.length ++ X := by simp [h1]
      rw [e1]
      exact rput_text (a := a) (a' := a') (c := c) (c' := c') h1 (by omega) h3 h2.2 h4 w hB hv (by omega)
/-- What Encode answers. -/
def encZ (t : Tr) : List Int := if errT t = 0 then encT t else []
set_option maxRecDepth 100000 in
set_option maxHeartbeats 4000000 in
/-- The document's Encode, of any tree. -/
theorem rEncode_any {t : Tr} {d q : Value} (hw : wtT t < 4194304) (w : World) (h : It w t d q) :
    Calls Try.prog 41 #[itV t d q] w fun e w' => ∃ v', e = .returned (.tuple #[v', .int .i64 (errT t)]) ∧ OwnB w.heap.size w' v' (encZ t) ∧ Below w.heap.size w w' := by
  have M1 : Hid (∀ W, Below w.heap.size w W → Calls Try.prog 57 #[.agg #[.bool t.l, d, q]] W fun e w' => e = .returned (.int .i64 (errT t)) ∧ Below W.heap.size W w') := fun W B => rCheck_any hw W (It.keep B t h)
  have M3 : Hid (oddT t = false → ∀ W, Below w.heap.size w W → Calls Try.prog 58 #[.slice none 0 0, .agg #[.bool t.l, d, q]] W fun e w' => ∃ v', e = .returned v' ∧ OwnB w.heap.size w' v' (encT t) ∧ Below w.heap.size w w') := fun ho W B => (rputT_any t ho hw h W B (.slice none 0 0) [] (OwnB.nil _ _) (by simp; omega)).mono fun e w' h => by
    obtain ⟨v', e1, p⟩ := h
    refine ⟨v', e1, p.own, B.trans (p.chg.below B.size fun k hk => by cases hk)⟩
  obtain ⟨k1, k2, k3, k4, k5, k6, rfl, rfl⟩ := h.slices
  unfold itV
  clear hw h
  by_cases he : errT t = 0
  · have ho : oddT t = false := by
      cases e : oddT t with
      | false => rfl
      | true => unfold errT at he; rw [if_pos e] at he; cases he
    have M3' : Hid (∀ W, Below w.heap.size w W → Calls Try.prog 58 #[.slice none 0 0, .agg #[.bool t.l, .slice k1 k2 k3, .slice k4 k5 k6]] W fun e w' => ∃ v', e = .returned v' ∧ OwnB w.heap.size w' v' (encT t) ∧ Below w.heap.size w w') := M3.out ho
    have es : encZ t = encT t := by unfold encZ; rw [if_pos he]
    rw [es, he]
    rw [he] at M1
    clear M3 es he ho
    generalize t.l = l at *
    generalize encT t = E at *
    go_enter Try.func41, Try.ntmps41
    go_wp2_with (first
      | ((with_reducible refine (M1.out _ ((Below.refl _ _).alloc (Nat.le_refl _) _)).mono ?_); rintro e1 w1 ⟨rfl, hw⟩; (have B1 : Below w.heap.size w w1 := ((Below.refl w.heap.size w).alloc (Nat.le_refl _) _).trans (hw.mono (by simp))); (obtain ⟨x0, x1, x2⟩ : Bx w1 w.heap.size l (.slice k1 k2 k3) (.slice k4 k5 k6) := Bx.keep ⟨by simp [go_sem], by simp [go_sem], by simp [go_sem]⟩ hw))
      | ((with_reducible refine (M3'.out _ B1).mono ?_); rintro e1 w3 ⟨v3, rfl, o3, b3⟩))
    all_goals simp [bodyPost, results, Try.results41, go_sem]
    all_goals exact ⟨o3, b3⟩
  · have es : encZ t = [] := by unfold encZ; rw [if_neg he]
    rw [es]
    clear M3 es
    generalize t.l = l at *
    generalize errT t = y at *
    have he' : (y == 0) = false := by simpa using he
    go_enter Try.func41, Try.ntmps41
    go_wp2_with (first
      | ((with_reducible refine (M1.out _ ((Below.refl _ _).alloc (Nat.le_refl _) _)).mono ?_); rintro e1 w1 ⟨rfl, hw⟩; (have B1 : Below w.heap.size w w1 := ((Below.refl w.heap.size w).alloc (Nat.le_refl _) _).trans (hw.mono (by simp)))))
    all_goals simp [bodyPost, results, Try.results41, go_sem]
    all_goals exact ⟨OwnB.nil _ _, B1⟩
end Go.Proofs.Ytaefmdofchjofaa

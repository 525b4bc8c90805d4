import Derived.Test.YtkbmonlbgnnjlaaDoorRxH
import Derived.Test.YtkbmonlbgnnjlaaDoorRsA
import Derived.Test.YtkbmonlbgnnjlaaDoorQLate
import Derived.Test.YtkbmonlbgnnjlaaDoorRjA
import Derived.Laws.OwnMore
/- Layer 7: the document's put, Encode. -/
namespace Go.Proofs.YtkbmonlbgnnjlaaDoor
open Go.RowKit Go.Sort

set_option maxRecDepth 100000 in
set_option maxHeartbeats 8000000 in
theorem rput_bare {x : Int} {b o : Nat} {a' : Option Addr} {c c' : Nat} {w0 : World} {P : List Int} {v : Value} (hx : x < 128) (k4 : Bz w0 b o [x]) (w : World) (hB : Below w0.heap.size w0 w) (hv : OwnB w0.heap.size w v P) (hp : P.length + (4 + [x].length) < 1000000000) :
    Calls Tryd.prog 27 #[v, .agg #[.bool false, .slice (some ⟨b, o, none⟩) 1 c, .slice a' 0 c']] w fun e w' => ∃ v', e = .returned v' ∧ Pu w0.heap.size w w' v v' (P ++ [x]) := by
  have HV : Hid (OwnB w0.heap.size w v P ∧ Below w0.heap.size w0 w) := ⟨hv, hB⟩
  have HL : Hid (P.length + (4 + [x].length) < 1000000000) := hp
  have HZ : Hid (∀ W, Below w0.heap.size w0 W → Bz W b o [x]) := fun W B => k4.keep B
  obtain ⟨va, vg, vc, ev, -⟩ := hv.lies
  clear k4 hv hB hp
  subst ev
  generalize hpl : P.length = pl at *
  have PL : Hid (P.length = pl) := hpl
  clear hpl
  go_enter Tryd.func27, Tryd.ntmps27
  refine wp_seq_k fun K h => ?_
  have H : Hid _ := h
  clear h
  go_wp2_with fail
  refine H.out _ _ ?_
  clear H K
  refine wp_world (fun W => Below w.heap.size w W ∧ Bx W w.heap.size false (.slice (some ⟨b, o, none⟩) 1 c) (.slice a' 0 c') ∧ W.heap.size = w.heap.size + 1) ⟨(Below.refl _ _).alloc (Nat.le_refl _) _, ⟨by simp [go_sem], by simp [go_sem], by simp [go_sem]⟩, by simp⟩ ?_
  rintro W ⟨B, hX, hs⟩
  have b0 : Below w0.heap.size w0 W := HV.out.2.trans (B.mono HV.out.2.size)
  have hnb : (Value.slice va pl vc).ownBlock ≠ some w.heap.size := fun e => by have := (HV.out.1.lt _ e).2; omega
  have PW : Hid (Pu w0.heap.size w W (.slice va pl vc) (.slice va pl vc) P) := Pu.of_below HV.out.1 B
  have FW : Hid (∀ V vr Y, Pu w0.heap.size W V (.slice va pl vc) vr Y → Below w0.heap.size w0 V ∧ V.cell? ⟨w.heap.size, 1, none⟩ = some (.slice (some ⟨b, o, none⟩) 1 c) ∧ w0.heap.size ≤ V.heap.size) := fun V vr Y h => by
    have hl2 : ∀ k, (Value.slice va pl vc).ownBlock = some k → w0.heap.size ≤ k := fun k hk => (HV.out.1.lt k hk).1
    have b1 := h.chg.below (B := w0.heap.size) b0.size hl2
    exact ⟨b0.trans b1, h.chg.cell (fun e => hnb e) hX.2.1, Nat.le_trans b0.size h.chg.size⟩
  have B0 : Hid (Below w0.heap.size w0 W) := b0
  obtain ⟨x0, x1, x2⟩ := hX
  have y0 := HZ.out W b0 0 (by simp)
  simp only [Nat.add_zero, List.getD_cons_zero] at y0
  have hx' : decide (128 ≤ x) = false := decide_eq_false (by omega)
  clear B b0 hs hnb hx
  go_wp2_with (at_builtin; (refine wpList_append_ry (Q1 := [x]) (g := b) (p := o) rfl _ _ rfl rfl rfl rfl PW.out.own (.inr rfl) (fun e => by cases e) (HZ.out _ B0.out) (by have := HL.out; have := PL.out; simp at *; omega) B0.out.size ?_); intro v3 w3 o3 g3 r3)
  simp [bodyPost, results, Tryd.results27, go_sem]
  exact PW.out.trans (Pu.of_grown o3 g3 r3)
set_option maxRecDepth 100000 in
set_option maxHeartbeats 8000000 in
theorem rput_one {x : Int} {b o : Nat} {a' : Option Addr} {c c' : Nat} {w0 : World} {P : List Int} {v : Value} (hx : ¬ x < 128) (k4 : Bz w0 b o [x]) (w : World) (hB : Below w0.heap.size w0 w) (hv : OwnB w0.heap.size w v P) (hp : P.length + (4 + [x].length) < 1000000000) :
    Calls Tryd.prog 27 #[v, .agg #[.bool false, .slice (some ⟨b, o, none⟩) 1 c, .slice a' 0 c']] w fun e w' => ∃ v', e = .returned v' ∧ Pu w0.heap.size w w' v v' (P ++ (hdR 128 1 ++ [x])) := by
  have HV : Hid (OwnB w0.heap.size w v P ∧ Below w0.heap.size w0 w) := ⟨hv, hB⟩
  have HL : Hid (P.length + (4 + [x].length) < 1000000000) := hp
  have HZ : Hid (∀ W, Below w0.heap.size w0 W → Bz W b o [x]) := fun W B => k4.keep B
  have BF : Hid (∀ w, Calls Tryd.prog 43 #[.int .i64 1, .int .i64 128] w fun e w' => ∃ v', e = .returned v' ∧ OwnB w.heap.size w' v' (hdR 128 1) ∧ Below w.heap.size w w') := fun w => before_text (n := 1) (by omega) w
  have HB : Hid ((hdR 128 1).length ≤ 4) := hdR_len _ _
  have AZ : Hid (Az (some ⟨b, o, none⟩) b o [x] ∧ ((some (⟨b, o, none⟩ : Addr)) = none → c = 0)) := ⟨.inr rfl, fun e => by cases e⟩
  obtain ⟨va, vg, vc, ev, -⟩ := hv.lies
  clear k4 hv hB hp
  subst ev
  generalize hpl : P.length = pl at *
  have PL : Hid (P.length = pl) := hpl
  clear hpl
  go_enter Tryd.func27, Tryd.ntmps27
  refine wp_seq_k fun K h => ?_
  have H : Hid _ := h
  clear h
  go_wp2_with fail
  refine H.out _ _ ?_
  clear H K
  refine wp_world (fun W => Below w.heap.size w W ∧ Bx W w.heap.size false (.slice (some ⟨b, o, none⟩) 1 c) (.slice a' 0 c') ∧ W.heap.size = w.heap.size + 1) ⟨(Below.refl _ _).alloc (Nat.le_refl _) _, ⟨by simp [go_sem], by simp [go_sem], by simp [go_sem]⟩, by simp⟩ ?_
  rintro W ⟨B, hX, hs⟩
  have b0 : Below w0.heap.size w0 W := HV.out.2.trans (B.mono HV.out.2.size)
  have hnb : (Value.slice va pl vc).ownBlock ≠ some w.heap.size := fun e => by have := (HV.out.1.lt _ e).2; omega
  have PW : Hid (Pu w0.heap.size w W (.slice va pl vc) (.slice va pl vc) P) := Pu.of_below HV.out.1 B
  have FW : Hid (∀ V vr Y, Pu w0.heap.size W V (.slice va pl vc) vr Y → Below w0.heap.size w0 V ∧ V.cell? ⟨w.heap.size, 1, none⟩ = some (.slice (some ⟨b, o, none⟩) 1 c) ∧ w0.heap.size ≤ V.heap.size) := fun V vr Y h => by
    have hl2 : ∀ k, (Value.slice va pl vc).ownBlock = some k → w0.heap.size ≤ k := fun k hk => (HV.out.1.lt k hk).1
    have b1 := h.chg.below (B := w0.heap.size) b0.size hl2
    exact ⟨b0.trans b1, h.chg.cell (fun e => hnb e) hX.2.1, Nat.le_trans b0.size h.chg.size⟩
  have B0 : Hid (Below w0.heap.size w0 W) := b0
  obtain ⟨x0, x1, x2⟩ := hX
  have y0 := HZ.out W b0 0 (by simp)
  simp only [Nat.add_zero, List.getD_cons_zero] at y0
  have hx' : (128 : Int) ≤ x := by omega
  clear hx
  clear B b0 hs hnb
  go_wp2_with (first
    | ((with_reducible refine (BF.out _).mono ?_); rintro e1 w2 ⟨v2, rfl, o2, b2⟩; (have p2 := Pu.of_below PW.out.own b2); (obtain ⟨a2, g2, c2, rfl, q2, z2, y2, _, _, nc2⟩ := o2.lies))
    | (at_builtin; (refine wpList_append_ry rfl _ _ rfl rfl rfl rfl p2.own z2 nc2 y2 (by have := HL.out; have := HB.out; have := PL.out; simp at *; omega) (FW.out _ _ _ p2).2.2 ?_); intro v3 w3 o3 g3 r3; (have p3 := p2.trans (Pu.of_grown o3 g3 r3)); (obtain ⟨f1, f2, f3⟩ := FW.out _ _ _ p3); (obtain ⟨a3, g4, c3, e3, -⟩ := o3.lies); (generalize List.length (_ ++ _) = n3 at e3); (subst e3))
    | (at_builtin; (refine wpList_append_ry (Q1 := [x]) (g := b) (p := o) rfl _ _ rfl rfl rfl rfl p3.own AZ.out.1 AZ.out.2 (HZ.out _ f1) (by have := HL.out; have := HB.out; have := PL.out; simp at *; omega) f3 ?_); intro v5 w5 o5 g5 r5))
  simp [bodyPost, results, Tryd.results27, go_sem]
  have := PW.out.trans (p3.trans (Pu.of_grown o5 g5 r5))
  rw [List.append_assoc] at this
  exact this
set_option maxRecDepth 100000 in
set_option maxHeartbeats 8000000 in
theorem rput_text {X : List Int} {a : Option Addr} {b o : Nat} {a' : Option Addr} {c c' : Nat} {w0 : World} {P : List Int} {v : Value} (h1 : X.length ≠ 1) (hn : X.length < 4194304) (ha : Az a b o X) (hc : a = none → c = 0) (k4 : Bz w0 b o X) (w : World) (hB : Below w0.heap.size w0 w) (hv : OwnB w0.heap.size w v P) (hp : P.length + (4 + X.length) < 1000000000) :
    Calls Tryd.prog 27 #[v, .agg #[.bool false, .slice a X.length c, .slice a' 0 c']] w fun e w' => ∃ v', e = .returned v' ∧ Pu w0.heap.size w w' v v' (P ++ (hdR 128 X.length ++ X)) := by
  have HV : Hid (OwnB w0.heap.size w v P ∧ Below w0.heap.size w0 w) := ⟨hv, hB⟩
  have HL : Hid (P.length + (4 + X.length) < 1000000000) := hp
  have HZ : Hid (∀ W, Below w0.heap.size w0 W → Bz W b o X) := fun W B => k4.keep B
  have BF : Hid (∀ w, Calls Tryd.prog 43 #[.int .i64 (X.length : Int), .int .i64 128] w fun e w' => ∃ v', e = .returned v' ∧ OwnB w.heap.size w' v' (hdR 128 X.length) ∧ Below w.heap.size w w') := fun w => before_text (n := X.length) (by omega) w
  have HB : Hid ((hdR 128 X.length).length ≤ 4) := hdR_len _ _
  have AZ : Hid (Az a b o X ∧ (a = none → c = 0)) := ⟨ha, hc⟩
  have h1' : ((X.length : Int) == 1) = false := by
    have : ¬ ((X.length : Int) = 1) := by omega
    simpa using this
  have h1'' : ¬ ((X.length : Int) = 1) := by omega
  have h1n : ((X.length : Int) != 1) = true := by simpa using h1''
  clear ha hc h1 hn
  obtain ⟨va, vg, vc, ev, -⟩ := hv.lies
  clear k4 hv hB hp
  subst ev
  generalize hpl : P.length = pl at *
  have PL : Hid (P.length = pl) := hpl
  clear hpl
  go_enter Tryd.func27, Tryd.ntmps27
  refine wp_seq_k fun K h => ?_
  have H : Hid _ := h
  clear h
  go_wp2_with fail
  refine H.out _ _ ?_
  clear H K
  refine wp_world (fun W => Below w.heap.size w W ∧ Bx W w.heap.size false (.slice a X.length c) (.slice a' 0 c') ∧ W.heap.size = w.heap.size + 1) ⟨(Below.refl _ _).alloc (Nat.le_refl _) _, ⟨by simp [go_sem], by simp [go_sem], by simp [go_sem]⟩, by simp⟩ ?_
  rintro W ⟨B, hX, hs⟩
  have b0 : Below w0.heap.size w0 W := HV.out.2.trans (B.mono HV.out.2.size)
  have hnb : (Value.slice va pl vc).ownBlock ≠ some w.heap.size := fun e => by have := (HV.out.1.lt _ e).2; omega
  have PW : Hid (Pu w0.heap.size w W (.slice va pl vc) (.slice va pl vc) P) := Pu.of_below HV.out.1 B
  have FW : Hid (∀ V vr Y, Pu w0.heap.size W V (.slice va pl vc) vr Y → Below w0.heap.size w0 V ∧ V.cell? ⟨w.heap.size, 1, none⟩ = some (.slice a X.length c) ∧ w0.heap.size ≤ V.heap.size) := fun V vr Y h => by
    have hl2 : ∀ k, (Value.slice va pl vc).ownBlock = some k → w0.heap.size ≤ k := fun k hk => (HV.out.1.lt k hk).1
    have b1 := h.chg.below (B := w0.heap.size) b0.size hl2
    exact ⟨b0.trans b1, h.chg.cell (fun e => hnb e) hX.2.1, Nat.le_trans b0.size h.chg.size⟩
  have B0 : Hid (Below w0.heap.size w0 W) := b0
  obtain ⟨x0, x1, x2⟩ := hX
  clear B b0 hs hnb
  go_wp2_with (first
    | ((with_reducible refine (BF.out _).mono ?_); rintro e1 w2 ⟨v2, rfl, o2, b2⟩; (have p2 := Pu.of_below PW.out.own b2); (obtain ⟨a2, g2, c2, rfl, q2, z2, y2, _, _, nc2⟩ := o2.lies))
    | (at_builtin; (refine wpList_append_ry rfl _ _ rfl rfl rfl rfl p2.own z2 nc2 y2 (by have := HL.out; have := HB.out; have := PL.out; simp at *; omega) (FW.out _ _ _ p2).2.2 ?_); intro v3 w3 o3 g3 r3; (have p3 := p2.trans (Pu.of_grown o3 g3 r3)); (obtain ⟨f1, f2, f3⟩ := FW.out _ _ _ p3); (obtain ⟨a3, g4, c3, e3, -⟩ := o3.lies); (generalize List.length (_ ++ _) = n3 at e3); (subst e3))
    | (at_builtin; (refine wpList_append_ry (Q1 := X) (g := b) (p := o) rfl _ _ rfl rfl rfl rfl p3.own AZ.out.1 AZ.out.2 (HZ.out _ f1) (by have := HL.out; have := HB.out; have := PL.out; simp at *; omega) f3 ?_); intro v5 w5 o5 g5 r5))
  simp [bodyPost, results, Tryd.results27, go_sem]
  have := PW.out.trans (p3.trans (Pu.of_grown o5 g5 r5))
  rw [List.append_assoc] at this
  exact this
/-- The document's put, of any tree in which nothing is odd. -/
theorem rputT_any {w0 : World} : ∀ (t : Tr) {d q : Value} (_ : oddT t = false) (_ : wtT t < 4194304) (_ : It w0 t d q) (w : World) (_ : Below w0.heap.size w0 w) (v : Value) (P : List Int) (_ : OwnB w0.heap.size w v P) (_ : P.length + 4 * wtT t < 1000000000),
    Calls Tryd.prog 27 #[v, itV t d q] w fun e w' => ∃ v', e = .returned v' ∧ Pu w0.heap.size w w' v v' (P ++ encT t) := by
  refine Tr.ind fun l X ts ih d q ho hw h w hB v P hv hp => ?_
  rw [It] at h
  obtain ⟨⟨a, b, o, c, rfl, h2, h3, h4⟩, a', b', o', c', rfl, k2, k3, k4⟩ := h
  rw [wtT] at hw hp
  show Calls Tryd.prog 27 #[v, .agg #[.bool l, .slice a X.length c, .slice a' ts.length c']] w _
  rw [oddT, Bool.or_eq_false_iff] at ho
  rw [encT]
  cases l with
  | true =>
    have e : X.length = 0 := by have := ho.1; unfold odd1 at this; simpa using this
    rw [e, if_pos rfl]
    exact rput_list (a := a) (c := c) ho.2 (by omega) k2.1 k3 k4 w hB hv (by omega) ih
  | false =>
    have e : ts.length = 0 := by have := ho.1; unfold odd1 at this; simpa using this
    rw [e, if_neg Bool.false_ne_true]
    unfold encX bareB
    by_cases h1 : X.length = 1
    · obtain ⟨x, rfl⟩ := List.length_eq_one_iff.1 h1
      have ea : a = some ⟨b, o, none⟩ := h3.cons (by simp)
      subst ea
      by_cases hx : x < 128
      · have e1 : (if (decide ([x].length = 1) && decide ([x].getD 0 0 < 128)) = true then [x] else hdR 128 [x].length ++ [x]) = [x] := by simp [hx]
        rw [e1]
        exact rput_bare (a' := a') (c := c) (c' := c') hx h4 w hB hv (by simp at hp ⊢; omega)
      · have e1 : (if (decide ([x].length = 1) && decide ([x].getD 0 0 < 128)) = true then [x] else hdR 128 [x].length ++ [x]) = hdR 128 1 ++ [x] := by simp [hx]
        rw [e1]
        exact rput_one (a' := a') (c := c) (c' := c') hx h4 w hB hv (by simp at hp ⊢; omega)
    · have e1 : (if (decide (X.length = 1) && decide (X.getD 0 0 < 128)) = true then X else hdR 128 X.length ++ X) = hdR 128 X.length ++ X := by simp [h1]
      rw [e1]
      exact rput_text (a := a) (a' := a') (c := c) (c' := c') h1 (by omega) h3 h2.2 h4 w hB hv (by omega)
/-- What Encode answers. -/
def encZ (t : Tr) : List Int := if errT t = 0 then encT t else []
set_option maxRecDepth 100000 in
set_option maxHeartbeats 4000000 in
/-- The document's Encode, of any tree. -/
theorem rEncode_any {t : Tr} {d q : Value} (hw : wtT t < 4194304) (w : World) (h : It w t d q) :
    Calls Tryd.prog 15 #[itV t d q] w fun e w' => ∃ v', e = .returned (.tuple #[v', .int .i64 (errT t)]) ∧ OwnB w.heap.size w' v' (encZ t) ∧ Below w.heap.size w w' := by
  have M1 : Hid (∀ W, Below w.heap.size w W → Calls Tryd.prog 26 #[.agg #[.bool t.l, d, q]] W fun e w' => e = .returned (.int .i64 (errT t)) ∧ Below W.heap.size W w') := fun W B => rCheck_any hw W (It.keep B t h)
  have M3 : Hid (oddT t = false → ∀ W, Below w.heap.size w W → Calls Tryd.prog 27 #[.slice none 0 0, .agg #[.bool t.l, d, q]] W fun e w' => ∃ v', e = .returned v' ∧ OwnB w.heap.size w' v' (encT t) ∧ Below w.heap.size w w') := fun ho W B => (rputT_any t ho hw h W B (.slice none 0 0) [] (OwnB.nil _ _) (by simp; omega)).mono fun e w' h => by
    obtain ⟨v', e1, p⟩ := h
    refine ⟨v', e1, p.own, B.trans (p.chg.below B.size fun k hk => by cases hk)⟩
  obtain ⟨k1, k2, k3, k4, k5, k6, rfl, rfl⟩ := h.slices
  unfold itV
  clear hw h
  by_cases he : errT t = 0
  · have ho : oddT t = false := by
      cases e : oddT t with
      | false => rfl
      | true => unfold errT at he; rw [if_pos e] at he; cases he
    have M3' : Hid (∀ W, Below w.heap.size w W → Calls Tryd.prog 27 #[.slice none 0 0, .agg #[.bool t.l, .slice k1 k2 k3, .slice k4 k5 k6]] W fun e w' => ∃ v', e = .returned v' ∧ OwnB w.heap.size w' v' (encT t) ∧ Below w.heap.size w w') := M3.out ho
    have es : encZ t = encT t := by unfold encZ; rw [if_pos he]
    rw [es, he]
    rw [he] at M1
    clear M3 es he ho
    generalize t.l = l at *
    generalize encT t = E at *
    go_enter Tryd.func15, Tryd.ntmps15
    go_wp2_with (first
      | ((with_reducible refine (M1.out _ ((Below.refl _ _).alloc (Nat.le_refl _) _)).mono ?_); rintro e1 w1 ⟨rfl, hw⟩; (have B1 : Below w.heap.size w w1 := ((Below.refl w.heap.size w).alloc (Nat.le_refl _) _).trans (hw.mono (by simp))); (obtain ⟨x0, x1, x2⟩ : Bx w1 w.heap.size l (.slice k1 k2 k3) (.slice k4 k5 k6) := Bx.keep ⟨by simp [go_sem], by simp [go_sem], by simp [go_sem]⟩ hw))
      | ((with_reducible refine (M3'.out _ B1).mono ?_); rintro e1 w3 ⟨v3, rfl, o3, b3⟩))
    all_goals simp [bodyPost, results, Tryd.results15, go_sem]
    all_goals exact ⟨o3, b3⟩
  · have es : encZ t = [] := by unfold encZ; rw [if_neg he]
    rw [es]
    clear M3 es
    generalize t.l = l at *
    generalize errT t = y at *
    have he' : (y == 0) = false := by simpa using he
    go_enter Tryd.func15, Tryd.ntmps15
    go_wp2_with (first
      | ((with_reducible refine (M1.out _ ((Below.refl _ _).alloc (Nat.le_refl _) _)).mono ?_); rintro e1 w1 ⟨rfl, hw⟩; (have B1 : Below w.heap.size w w1 := ((Below.refl w.heap.size w).alloc (Nat.le_refl _) _).trans (hw.mono (by simp)))))
    all_goals simp [bodyPost, results, Tryd.results15, go_sem]
    all_goals exact ⟨OwnB.nil _ _, B1⟩
end Go.Proofs.YtkbmonlbgnnjlaaDoor

/- Layer 7: the document's head: the long ones. -/
namespace Go.Proofs.YtkbmonlbgnnjlaaDoor
open Go.RowKit Go.Sort
/-- A number's cells in a block. -/
def NmR (W : World) (b : Nat) (n : Int) : Prop := W.cell? ⟨b, 0, none⟩ = some (.int .u64 (l0 n)) ∧ W.cell? ⟨b, 1, none⟩ = some (.int .u64 (l1 n)) ∧ W.cell? ⟨b, 2, none⟩ = some (.int .u64 (l2 n)) ∧ W.cell? ⟨b, 3, none⟩ = some (.int .u64 (l3 n))
theorem NmR.other {W : World} {b b' i : Nat} {n : Int} (x : NmR W b n) (ne : b' ≠ b) (v : Value) : NmR (W.setCell ⟨b', i, none⟩ v) b n := by
  have hg := heap_setCell_other W ⟨b', i, none⟩ b v (fun e => ne e.symm)
  exact ⟨by rw [← x.1]; simp only [World.cell?, hg], by rw [← x.2.1]; simp only [World.cell?, hg], by rw [← x.2.2.1]; simp only [World.cell?, hg], by rw [← x.2.2.2]; simp only [World.cell?, hg]⟩
theorem NmR.keep {W w1 : World} {b : Nat} {n : Int} (h : NmR W b n) (hb : Below W.heap.size W w1) : NmR w1 b n := ⟨keepC hb h.1, keepC hb h.2.1, keepC hb h.2.2.1, keepC hb h.2.2.2⟩
end Go.Proofs.YtkbmonlbgnnjlaaDoor

/- Layer 7: the document's Same, of one tree in two places. -/
namespace Go.Proofs.YtkbmonlbgnnjlaaDoor
open Go.RowKit Go.Sort

theorem quiet_load_midT {P : Program} {C : World → Prop} {a : Act} {o : Oper} {K : Act → Prop} (ty : TypeId) (x : Operand) (ho : o.op = .load ty x)
    (b f : Nat) (hx : a.eval x = .pointer (some ⟨b, f, none⟩)) (cs : List Value) (d : TypeDesc) (hS : ∀ w, C w → w.rangeAt b f cs)
    (hu : P.underlying ty = some d) (hd : d.isRow = true) (hi : (P.info? ty).map (·.size) = some cs.length) (h : K (a.put o.dst (.agg cs.toArray))) : o.quiet P a C K :=
  ⟨.agg cs.toArray, fun w hw => by
    unfold Oper.quietAt execOp
    simp only [ho, hx, Instr.loadAt, Instr.sureAddr, Sem.run_bind, Sem.run_pure, Result.andThen_ok, run_loadVar_mid w b f ty cs d (hS w hw) hu hd hi]
    exact ⟨rfl, rfl⟩, h⟩
end Go.Proofs.YtkbmonlbgnnjlaaDoor

/- Layer 7: the document's head of any bytes. -/
namespace Go.Proofs.YtkbmonlbgnnjlaaDoor
open Go.RowKit Go.Sort
end Go.Proofs.YtkbmonlbgnnjlaaDoor

/- Layer 7: the document's bytes and Split. -/
namespace Go.Proofs.YtkbmonlbgnnjlaaDoor
open Go.RowKit Go.Sort
theorem own_nil0 (B : Nat) (w : World) : OwnB B w (.slice none 0 0) [] := ⟨rfl, .inl ⟨rfl, rfl⟩⟩
end Go.Proofs.YtkbmonlbgnnjlaaDoor

/- Layer 7: trees in memory of one's own. -/
namespace Go.Proofs.YtkbmonlbgnnjlaaDoor
open Go.RowKit Go.Sort

/-- Items' cells. -/
def itC : List Tr → List (Value × Value) → List Value
  | t :: ts, p :: ps => .bool t.l :: p.1 :: p.2 :: itC ts ps
  | _, _ => []
theorem itC_len : ∀ (ts : List Tr) (ps : List (Value × Value)), ps.length = ts.length → (itC ts ps).length = ts.length * 3
  | [], [], _ => rfl
  | [], _ :: _, h => by simp at h
  | _ :: _, [], h => by simp at h
  | t :: ts, p :: ps, h => by
    have := itC_len ts ps (by simpa using h)
    simp only [itC, List.length_cons, this]; omega
theorem itC_snoc : ∀ (ts : List Tr) (ps : List (Value × Value)) (t : Tr) (d q : Value), ps.length = ts.length → itC ts ps ++ [.bool t.l, d, q] = itC (ts ++ [t]) (ps ++ [(d, q)])
  | [], [], _, _, _, _ => rfl
  | [], _ :: _, _, _, _, h => by simp at h
  | _ :: _, [], _, _, _, h => by simp at h
  | u :: ts, p :: ps, t, d, q, h => by
    have := itC_snoc ts ps t d q (by simpa using h)
    simp only [itC, List.cons_append, this]
def zV : Value × Value := (.bool true, .bool true)
theorem itC_at : ∀ (ts : List Tr) (ps : List (Value × Value)), ps.length = ts.length → ∀ i, i < ts.length → (itC ts ps)[i * 3]? = some (.bool (ts.getD i zT).l) ∧ (itC ts ps)[i * 3 + 1]? = some (ps.getD i zV).1 ∧ (itC ts ps)[i * 3 + 2]? = some (ps.getD i zV).2
  | [], _, _, i, hi => absurd hi (Nat.not_lt_zero _)
  | _ :: _, [], h, _, _ => by simp at h
  | _ :: _, _ :: _, _, 0, _ => ⟨rfl, rfl, rfl⟩
  | t :: ts, p :: ps, h, i + 1, hi => by
    have ih := itC_at ts ps (by simpa using h) i (by simpa using hi)
    have e : ∀ d, (itC (t :: ts) (p :: ps))[(i + 1) * 3 + d]? = (itC ts ps)[i * 3 + d]? := fun d => by
      rw [show (i + 1) * 3 + d = i * 3 + d + 1 + 1 + 1 by omega]; rfl
    have e0 := e 0
    simp only [Nat.add_zero] at e0
    rw [e0, e 1, e 2]
    exact ih
/-- A row of cells that stays: its block is as it was. -/
theorem row_kept {W W' : World} {B : Nat} {e : TypeId} {size : Nat} {v : Value} {n : Nat} {xs : List Value} (h : W.ownsRow B e size v n xs) (hk : ∀ k, v.ownBlock = some k → k < W.heap.size → W'.heap[k]? = W.heap[k]?) : W'.ownsRow B e size v n xs := by
  refine ⟨h.1, ?_⟩
  rcases h.2 with h | ⟨g, cap, cur, rfl, hb, hg, r⟩
  · exact .inl h
  · exact .inr ⟨g, cap, cur, rfl, hb, (hk g rfl (Array.getElem?_eq_some_iff.1 hg).1).trans hg, r⟩
theorem row_base {W : World} {B B' : Nat} {e : TypeId} {size : Nat} {v : Value} {n : Nat} {xs : List Value} (h : W.ownsRow B e size v n xs) (hk : ∀ k, v.ownBlock = some k → B' ≤ k) : W.ownsRow B' e size v n xs := by
  refine ⟨h.1, ?_⟩
  rcases h.2 with h | ⟨g, cap, cur, rfl, hb, r⟩
  · exact .inl h
  · exact .inr ⟨g, cap, cur, rfl, hk g rfl, r⟩
mutual
/-- An item in memory of one's own: its blocks are among S, the row of its items apart from what is within. -/
def Ot (W : World) : Tr → (Nat → Prop) → Value → Value → Prop
  | .mk _ X ts, S, d, q => (OwnB 0 W d X ∧ ∀ k, d.ownBlock = some k → S k) ∧ ∃ ps : List (Value × Value), ps.length = ts.length ∧ W.ownsRow 0 39 3 q ts.length (itC ts ps) ∧ (∀ k, q.ownBlock = some k → S k) ∧ Ots W ts (fun k => S k ∧ q.ownBlock ≠ some k) ps
def Ots (W : World) : List Tr → (Nat → Prop) → List (Value × Value) → Prop
  | [], _, _ => True
  | t :: ts, S, ps => Ot W t S (ps.headD zV).1 (ps.headD zV).2 ∧ Ots W ts S ps.tail
end
/-- Items in a row of one's own. -/
def Orow (W : World) (ts : List Tr) (S : Nat → Prop) (q : Value) : Prop := ∃ ps : List (Value × Value), ps.length = ts.length ∧ W.ownsRow 0 39 3 q ts.length (itC ts ps) ∧ (∀ k, q.ownBlock = some k → S k) ∧ Ots W ts (fun k => S k ∧ q.ownBlock ≠ some k) ps
theorem Ot.mk {W : World} {l : Bool} {X : List Int} {ts : List Tr} {S : Nat → Prop} {d q : Value} (h1 : OwnB 0 W d X) (h2 : ∀ k, d.ownBlock = some k → S k) (h3 : Orow W ts S q) : Ot W (.mk l X ts) S d q := by
  rw [Ot]; exact ⟨⟨h1, h2⟩, h3⟩
theorem Ot.get {W : World} {t : Tr} {S : Nat → Prop} {d q : Value} (h : Ot W t S d q) : OwnB 0 W d t.X ∧ (∀ k, d.ownBlock = some k → S k) ∧ Orow W t.ts S q := by
  cases t with
  | mk l X ts => rw [Ot] at h; exact ⟨h.1.1, h.1.2, h.2⟩
theorem Ots.at {W : World} {S : Nat → Prop} : ∀ {ts : List Tr} {ps : List (Value × Value)}, Ots W ts S ps → ∀ i, i < ts.length → Ot W (ts.getD i zT) S (ps.getD i zV).1 (ps.getD i zV).2
  | [], _, _, i, hi => absurd hi (Nat.not_lt_zero _)
  | t :: ts, ps, h, 0, _ => by
    rw [Ots] at h
    have e : ps.getD 0 zV = ps.headD zV := by cases ps <;> rfl
    rw [e]; exact h.1
  | t :: ts, ps, h, i + 1, hi => by
    rw [Ots] at h
    have e : ps.getD (i + 1) zV = ps.tail.getD i zV := by cases ps <;> rfl
    rw [e]; exact Ots.at h.2 i (by simpa using hi)
theorem Ots.of {W : World} {S : Nat → Prop} : ∀ {ts : List Tr} {ps : List (Value × Value)}, (∀ i, i < ts.length → Ot W (ts.getD i zT) S (ps.getD i zV).1 (ps.getD i zV).2) → Ots W ts S ps
  | [], _, _ => by rw [Ots]; trivial
  | t :: ts, ps, h => by
    rw [Ots]
    refine ⟨?_, Ots.of fun i hi => ?_⟩
    · have e : ps.getD 0 zV = ps.headD zV := by cases ps <;> rfl
      have := h 0 (by simp)
      rw [e] at this; exact this
    · have e : ps.getD (i + 1) zV = ps.tail.getD i zV := by cases ps <;> rfl
      have := h (i + 1) (by simpa using hi)
      rw [e] at this; exact this
/-- What is kept, and where it lies: the blocks of S are as they were. -/
theorem Ot.conv {W W' : World} : ∀ (t : Tr) {S S' : Nat → Prop} {d q : Value}, (∀ k, k < W.heap.size → S k → S' k ∧ W'.heap[k]? = W.heap[k]?) → Ot W t S d q → Ot W' t S' d q :=
  Tr.ind fun l X ts ih S S' d q hs h => by
    rw [Ot] at h ⊢
    obtain ⟨⟨h1, h2⟩, ps, h3, h4, h5, h6⟩ := h
    have l1 : ∀ k, d.ownBlock = some k → k < W.heap.size := fun k e => (World.ownsRow.lt h1 k e).2
    have l2 : ∀ k, q.ownBlock = some k → k < W.heap.size := fun k e => (World.ownsRow.lt h4 k e).2
    refine ⟨⟨row_kept h1 fun k e hk => (hs k hk (h2 k e)).2, fun k e => (hs k (l1 k e) (h2 k e)).1⟩, ps, h3, row_kept h4 fun k e hk => (hs k hk (h5 k e)).2, fun k e => (hs k (l2 k e) (h5 k e)).1, Ots.of fun i hi => ?_⟩
    refine ih _ (getT_mem hi) (fun k hk hS => ?_) (h6.at i hi)
    exact ⟨⟨(hs k hk hS.1).1, hS.2⟩, (hs k hk hS.1).2⟩
theorem Orow.conv {W W' : World} {ts : List Tr} {S S' : Nat → Prop} {q : Value} (hs : ∀ k, k < W.heap.size → S k → S' k ∧ W'.heap[k]? = W.heap[k]?) (h : Orow W ts S q) : Orow W' ts S' q := by
  have : Ot W (.mk false [] ts) S (.slice none 0 0) q := Ot.mk (OwnB.nil _ _) (fun k e => by cases e) h
  exact (Ot.conv _ hs this).get.2.2
theorem Orow.lt {W : World} {ts : List Tr} {S : Nat → Prop} {q : Value} (h : Orow W ts S q) (k : Nat) (e : q.ownBlock = some k) : S k ∧ k < W.heap.size := by
  obtain ⟨ps, h3, h4, h5, h6⟩ := h
  exact ⟨h5 k e, (World.ownsRow.lt h4 k e).2⟩
theorem Orow.nil (W : World) (S : Nat → Prop) : Orow W [] S (.slice none 0 0) := ⟨[], rfl, ⟨rfl, .inl ⟨rfl, rfl⟩⟩, (fun k e => by cases e), (by rw [Ots]; trivial)⟩
/-- An item of one's own is an item. -/
theorem Ot.it {W : World} : ∀ (t : Tr) {S : Nat → Prop} {d q : Value}, Ot W t S d q → It W t d q :=
  Tr.ind fun l X ts ih S d q h => by
    rw [Ot] at h
    obtain ⟨⟨h1, h2⟩, ps, h3, h4, h5, h6⟩ := h
    rw [It]
    obtain ⟨a, g, c, e1, e2, e3, e4, _, _, e7⟩ := h1.lies
    refine ⟨⟨a, g, 0, c, e1, ⟨e2, e7⟩, e3, e4⟩, ?_⟩
    have hrow := h4
    rcases h4.2 with ⟨rfl, h0⟩ | ⟨g', cap, cur, rfl, hb, hg, hle, _⟩
    · have e : ts = [] := List.eq_nil_of_length_eq_zero h0
      subst e
      exact ⟨none, 0, 0, 0, rfl, ⟨Nat.le_refl _, fun _ => rfl⟩, .inl rfl, by rw [Its]; trivial⟩
    · refine ⟨_, g', 0, cap, rfl, ⟨hle, fun e => by cases e⟩, .inr rfl, Its.of fun i hi => ?_⟩
      obtain ⟨c0, c1, c2⟩ := itC_at ts ps h3 i hi
      refine ⟨(ps.getD i zV).1, (ps.getD i zV).2, fun j v hv => ?_, ih _ (getT_mem hi) (h6.at i hi)⟩
      have hc : ∀ k, k < ts.length * 3 → W.cell? ⟨g', k, none⟩ = (itC ts ps)[k]? := fun k hk => World.ownsRow.cellAt hrow k hk
      rw [Nat.zero_add]
      match j, hv with
      | 0, hv => rw [Nat.add_zero, hc _ (by omega), c0]; exact hv
      | 1, hv => rw [hc _ (by omega), c1]; exact hv
      | 2, hv => rw [hc _ (by omega), c2]; exact hv
      | j + 3, hv => simp at hv
theorem Orow.its {W : World} {ts : List Tr} {S : Nat → Prop} {q : Value} (h : Orow W ts S q) : ∃ a b c, q = .slice a ts.length c ∧ (ts.length ≤ c ∧ (a = none → c = 0)) ∧ (ts = [] ∨ a = some ⟨b, 0, none⟩) ∧ Its W b 0 ts := by
  have : Ot W (.mk false [] ts) S (.slice none 0 0) q := Ot.mk (OwnB.nil _ _) (fun k e => by cases e) h
  have hrow := h
  obtain ⟨ps, h3, h4, h5, h6⟩ := h
  have hI := Ot.it _ this
  rcases h4.2 with ⟨rfl, h0⟩ | ⟨g', cap, cur, rfl, hb, hg, hle, _⟩
  · have e : ts = [] := List.eq_nil_of_length_eq_zero h0
    subst e
    exact ⟨none, 0, 0, rfl, ⟨Nat.le_refl _, fun _ => rfl⟩, .inl rfl, by rw [Its]; trivial⟩
  · rw [It] at hI
    obtain ⟨_, a, b, o, c, k1, k2, k3, k4⟩ := hI
    injection k1 with k1 _ k1'
    subst k1 k1'
    rcases k3 with e | e
    · subst e
      exact ⟨_, 0, _, rfl, k2, .inl rfl, by rw [Its]; trivial⟩
    · have := Option.some.inj e
      injection this with e1 e2
      subst e1 e2
      exact ⟨_, _, _, rfl, k2, .inr rfl, k4⟩
/-- Items in a row of one's own, from a block on. -/
def Oe (B : Nat) (W : World) (v : Value) (ts : List Tr) (ps : List (Value × Value)) : Prop := ps.length = ts.length ∧ W.ownsRow B 39 3 v ts.length (itC ts ps) ∧ (∀ k, v.ownBlock = some k → B ≤ k) ∧ Ots W ts (fun k => B ≤ k ∧ v.ownBlock ≠ some k) ps
theorem Oe.nil (B : Nat) (W : World) : Oe B W (.slice none 0 0) [] [] := ⟨rfl, ⟨rfl, .inl ⟨rfl, rfl⟩⟩, (fun k e => by cases e), (by rw [Ots]; trivial)⟩
theorem Oe.row {B : Nat} {W : World} {v : Value} {ts : List Tr} {ps : List (Value × Value)} (h : Oe B W v ts ps) : Orow W ts (fun k => B ≤ k) v := ⟨ps, h.1, row_base h.2.1 fun _ _ => Nat.zero_le _, h.2.2.1, h.2.2.2⟩
theorem Orow.oe {B : Nat} {W : World} {v : Value} {ts : List Tr} {S : Nat → Prop} (h : Orow W ts S v) (hS : ∀ k, k < W.heap.size → S k → B ≤ k) : ∃ ps, Oe B W v ts ps := by
  obtain ⟨ps, h1, h2, h3, h4⟩ := h
  have hb : ∀ k, v.ownBlock = some k → B ≤ k := fun k e => hS k (World.ownsRow.lt h2 k e).2 (h3 k e)
  refine ⟨ps, h1, row_base h2 hb, hb, Ots.of fun i hi => Ot.conv _ (fun k hk hs => ⟨⟨hS k hk hs.1, hs.2⟩, rfl⟩) (h4.at i hi)⟩
theorem Oe.keep {B : Nat} {W W' : World} {v : Value} {ts : List Tr} {ps : List (Value × Value)} (h : Oe B W v ts ps) (hb : Below W.heap.size W W') : Oe B W' v ts ps :=
  ⟨h.1, row_kept h.2.1 fun k _ hk => hb.block k hk, h.2.2.1, Ots.of fun i hi => Ot.conv _ (fun k hk hs => ⟨hs, hb.block k hk⟩) (h.2.2.2.at i hi)⟩
theorem Ot.keep {W W' : World} {t : Tr} {S : Nat → Prop} {d q : Value} (h : Ot W t S d q) (hb : Below W.heap.size W W') : Ot W' t S d q := Ot.conv _ (fun k hk hs => ⟨hs, hb.block k hk⟩) h
theorem Orow.keep {W W' : World} {ts : List Tr} {S : Nat → Prop} {q : Value} (h : Orow W ts S q) (hb : Below W.heap.size W W') : Orow W' ts S q := Orow.conv (fun k hk hs => ⟨hs, hb.block k hk⟩) h
/-- One more item behind an own row. -/
theorem Oe.step {W W' : World} {B : Nat} {v v' d q : Value} {ts : List Tr} {t : Tr} {ps : List (Value × Value)} (hE : Oe B W v ts ps) (ht : Ot W t (fun k => B ≤ k ∧ v.ownBlock ≠ some k) d q) (hBh : B ≤ W.heap.size)
    (ho : W'.ownsRow B 39 3 v' (ts.length + 1) (itC ts ps ++ [.bool t.l, d, q])) (hg : W.grownBy W' v.ownBlock) (hv : v'.ownBlock = v.ownBlock ∨ v'.ownBlock = some W.heap.size) :
    Oe B W' v' (ts ++ [t]) (ps ++ [(d, q)]) := by
  obtain ⟨hp, _, hv0, hi⟩ := hE
  have cv : ∀ k, k < W.heap.size → (B ≤ k ∧ v.ownBlock ≠ some k) → (B ≤ k ∧ v'.ownBlock ≠ some k) ∧ W'.heap[k]? = W.heap[k]? := fun k hk h => by
    refine ⟨⟨h.1, ?_⟩, hg.block k hk fun e => h.2 e.symm⟩
    rcases hv with e | e
    · rw [e]; exact h.2
    · rw [e]; intro e2; have := Option.some.inj e2; omega
  refine ⟨by simp [hp], ?_, ?_, Ots.of fun i hi' => ?_⟩
  · rw [← itC_snoc ts ps t d q hp, List.length_append]; exact ho
  · intro k e
    rcases hv with h | h
    · rw [h] at e; exact hv0 k e
    · rw [h] at e; have := Option.some.inj e; omega
  · rw [List.length_append] at hi'
    have l1 : ([t] : List Tr).length = 1 := rfl
    by_cases e : i = ts.length
    · subst e
      have g1 : (ts ++ [t]).getD ts.length zT = t := by simp [List.getD]
      have g2 : (ps ++ [(d, q)]).getD ts.length zV = (d, q) := by rw [← hp]; simp [List.getD]
      rw [g1, g2]
      exact Ot.conv _ cv ht
    · have hlt : i < ts.length := by omega
      have g1 : (ts ++ [t]).getD i zT = ts.getD i zT := by simp [List.getD, List.getElem?_append_left hlt]
      have g2 : (ps ++ [(d, q)]).getD i zV = ps.getD i zV := by simp [List.getD, List.getElem?_append_left (show i < ps.length by omega)]
      rw [g1, g2]
      exact Ot.conv _ cv (hi.at i hlt)
end Go.Proofs.YtkbmonlbgnnjlaaDoor

/- Layer 7: the document's Copy. -/
namespace Go.Proofs.YtkbmonlbgnnjlaaDoor
open Go.RowKit Go.Sort
theorem info_it : (Tryd.prog.info? 39).map (fun i => (i.zero, i.size, i.bytes)) = some (some (.agg #[.bool false, .slice none 0 0, .slice none 0 0]), 3, 56) := by kernel_rfl
theorem It.open {W : World} {t : Tr} {d q : Value} (h : It W t d q) : ∃ a b o c a' b' o' c', d = .slice a t.X.length c ∧ (t.X.length ≤ c ∧ (a = none → c = 0)) ∧ Az a b o t.X ∧ Bz W b o t.X ∧ q = .slice a' t.ts.length c' ∧ (t.ts.length ≤ c' ∧ (a' = none → c' = 0)) ∧ (t.ts = [] ∨ a' = some ⟨b', o', none⟩) ∧ Its W b' o' t.ts := by
  cases t with
  | mk l X ts =>
    rw [It] at h
    obtain ⟨⟨a, b, o, c, h1, h2, h3, h4⟩, a', b', o', c', k1, k2, k3, k4⟩ := h
    exact ⟨a, b, o, c, a', b', o', c', h1, h2, h3, h4, k1, k2, k3, k4⟩
theorem Its.keep {W W' : World} {b o : Nat} {ts : List Tr} (h : Its W b o ts) (hb : Below W.heap.size W W') : Its W' b o ts := Its.of fun i hi => by
  obtain ⟨d, q, e1, e2⟩ := h.at i hi
  exact ⟨d, q, rangeT_keep e1 hb, It.keep hb _ e2⟩
theorem wt_parts (t : Tr) : wtT t = 1 + t.X.length + wtS t.ts := by cases t with | mk l X ts => rw [wtT]; rfl
end Go.Proofs.YtkbmonlbgnnjlaaDoor

import Derived.Test.YtahekhamhdfkdaaRsF
import Derived.Deep.RegionHeld
/- Layer 7: Split of a head that is taken. -/
namespace Go.Proofs.Ytahekhamhdfkdaa
open Go.RowKit Go.Sort
theorem wpAnyH_takeD {P : Program} {md : Region.Mode} {ops : Array Oper} {Q : Exit → Act → World → Prop} {S : World → Prop} {i : Nat} {oi : Oper} {v : Value} {fuel : Nat} {listed : Array Bool} {a : Act} {w : World} (d : Nat) (hi : ops[i]? = some oi) (hd : oi.dst = some d)
    (hs : Region.noSelect ops = true) (hf : Region.free md ops listed i = true) (hr : (Region.ready md ops listed).contains i = true)
    (hQ : ∀ c a w, Q (.panic c) (a.put oi.dst v) w → Q (.panic c) a w) (hy : YieldsIf P ops S oi v a) (hS : S w)
    (h : wpAnyH P md ops Q S fuel (listed.setIfInBounds i true) (a.put (some d) v) w) : wpAnyH P md ops Q S (fuel + 1) listed a w :=
  wpAnyH_take hi hs hf hr hQ hy hS (by rw [hd]; exact h)
theorem bz_part {w : World} {b o : Nat} {A : List Int} (h : Bz w b o A) {c p q : Nat} (hq : p + q ≤ A.length) (hc : A.length ≤ c) : Bz w b (atO o c p) ((A.drop p).take q) := by
  unfold atO
  by_cases k : c = p
  · intro i hi
    rw [List.length_take, List.length_drop] at hi
    omega
  · rw [if_neg k]
    intro i hi
    rw [List.length_take, List.length_drop] at hi
    have e : ((A.drop p).take q).getD i 0 = A.getD (p + i) 0 := by
      rw [List.getD, List.getElem?_take, if_pos (by omega), List.getElem?_drop]; rfl
    rw [e, Nat.add_assoc]
    exact h (p + i) (by omega)
theorem bz_rest {w : World} {b o : Nat} {A : List Int} (h : Bz w b o A) {c p : Nat} (hq : p ≤ A.length) (hc : A.length ≤ c) : Bz w b (atO o c p) (A.drop p) := by
  have r := bz_part h (p := p) (q := A.length - p) (by omega) hc
  have e : (A.drop p).take (A.length - p) = A.drop p := List.take_of_length_le (by rw [List.length_drop]; exact Nat.le_refl _)
  rwa [e] at r
set_option maxRecDepth 100000 in
set_option maxHeartbeats 8000000 in
theorem split_ok {A : List Int} {b o c s h : Nat} {l : Bool} (hn : s + h ≤ A.length) (hl : A.length ≤ 16777216) (hc : A.length ≤ c) (w : World) (hz : Bz w b o A)
    (FH : Hid (∀ w1, Below w.heap.size w w1 → Calls Try.prog 37 #[.slice (some ⟨b, o, none⟩) A.length c] w1 fun e w' => e = .returned (.tuple #[.agg #[.bool l, .int .i64 (s : Int), .int .i64 (h : Int)], .int .i64 0]) ∧ Below w1.heap.size w1 w')) :
    Calls Try.prog 20 #[.slice (some ⟨b, o, none⟩) A.length c] w fun e w' => ∃ v1 v2, e = .returned (.tuple #[.bool l, v1, v2, .int .i64 0]) ∧ OwnB w.heap.size w' v1 ((A.drop s).take h) ∧ OwnB w.heap.size w' v2 (A.drop (s + h)) ∧ v1 ≠ .slice none 0 0 ∧ v2 ≠ .slice none 0 0 ∧ Below w.heap.size w w' := by
  have HA : Hid (s + h ≤ A.length ∧ A.length ≤ 16777216 ∧ A.length ≤ c ∧ Bz w b o A) := ⟨hn, hl, hc, hz⟩
  have la : ((A.drop s).take h).length = h := by rw [List.length_take, List.length_drop]; omega
  have lb : (A.drop (s + h)).length = A.length - (s + h) := List.length_drop ..
  obtain ⟨t, et⟩ : ∃ t, t = s + h := ⟨_, rfl⟩
  rw [← et] at lb ⊢
  have C1 : Hid (∀ W, Below w.heap.size w W → Calls Try.prog 33 #[.slice (some ⟨b, atO o c s, none⟩) h (c - s)] W fun e w' => ∃ v, e = .returned v ∧ OwnB w.heap.size w' v ((A.drop s).take h) ∧ v ≠ .slice none 0 0 ∧ Below W.heap.size W w') := fun W B => by
    have r := bclone_any (c := c - s) (by rw [la]; omega) W (bz_part (HA.out.2.2.2.keep B) hn hc)
    rw [la] at r
    exact r.mono fun e w' ⟨v, a1, a2, a3, a4⟩ => ⟨v, a1, a2.base B.size, a3, a4⟩
  have C2 : Hid (∀ W, Below w.heap.size w W → Calls Try.prog 33 #[.slice (some ⟨b, atO o c t, none⟩) (A.length - t) (c - t)] W fun e w' => ∃ v, e = .returned v ∧ OwnB w.heap.size w' v (A.drop t) ∧ v ≠ .slice none 0 0 ∧ Below W.heap.size W w') := fun W B => by
    have r := bclone_any (c := c - t) (by rw [lb]; omega) W (bz_rest (HA.out.2.2.2.keep B) (by omega) hc)
    rw [lb] at r
    exact r.mono fun e w' ⟨v, a1, a2, a3, a4⟩ => ⟨v, a1, a2.base B.size, a3, a4⟩
  have WH : Hid (∀ W, Calls Try.prog 38 #[.agg #[.bool l, .int .i64 (s : Int), .int .i64 (h : Int)]] W fun e w' => e = .returned (.int .i64 (t : Int)) ∧ Below W.heap.size W w') := fun W => by
    have r := whole_any (l := l) (s := s) (h := h) (by omega) (by omega) W
    rwa [show ((s : Int) + (h : Int)) = (t : Int) by omega] at r
  have k1 : (t : Int) ≤ (c : Int) := by omega
  have k2 : s ≤ t := by omega
  have k3 : t - s = h := by omega
  have k4 : (t : Int) ≤ (A.length : Int) := by omega
  clear hn hl hc hz la lb et
  go_enter Try.func20, Try.ntmps20
  go_wp2_with fail
  with_reducible refine (FH.out w (Below.refl _ _)).mono ?_
  rintro e w1 ⟨rfl, B⟩
  clear FH
  go_wp2_with fail
  refine wp_world (fun W => Below w.heap.size w W ∧ Hb W w1.heap.size l s h) ⟨B.alloc B.size _, Hb.new⟩ ?_
  clear B
  rintro W ⟨B, hH⟩
  generalize w1.heap.size = bh at *
  clear w1
  have HH : Hid (Hb W bh l s h) := hH
  clear hH
  refine wp_region_held_drew (S := fun w' => Below W.heap.size W w') (by kernel_rfl) ((Below.refl _ _).drew) (fun hHeld => ?_)
  refine wpAnyH_takeD (i := 0) (oi := _) (v := .pointer (some ⟨bh, 0, none⟩)) 15 rfl (by kernel_rfl) (by kernel_rfl) (by kernel_rfl) (by kernel_rfl) (fun _ _ _ h => h) (Or.inl ⟨by kernel_rfl, ?_⟩) (by assumption) ?_
  · intro wq hSw
    obtain ⟨g0, g1, g2⟩ := HH.out.keep hSw
    go_simp
  simp only [Act.put, List.setIfInBounds_toArray, List.set_cons_succ, List.set_cons_zero]
  refine wpAnyH_takeD (i := 1) (oi := _) (v := .bool l) 16 rfl (by kernel_rfl) (by kernel_rfl) (by kernel_rfl) (by kernel_rfl) (fun _ _ _ h => h) (Or.inl ⟨by kernel_rfl, ?_⟩) (by assumption) ?_
  · intro wq hSw
    obtain ⟨g0, g1, g2⟩ := HH.out.keep hSw
    go_simp
  simp only [Act.put, List.setIfInBounds_toArray, List.set_cons_succ, List.set_cons_zero]
  refine wpAnyH_takeD (i := 2) (oi := _) (v := .slice (some ⟨b, o, none⟩) A.length c) 17 rfl (by kernel_rfl) (by kernel_rfl) (by kernel_rfl) (by kernel_rfl) (fun _ _ _ h => h) (Or.inl ⟨by kernel_rfl, ?_⟩) (by assumption) ?_
  · intro wq hSw
    obtain ⟨g0, g1, g2⟩ := HH.out.keep hSw
    go_simp
  simp only [Act.put, List.setIfInBounds_toArray, List.set_cons_succ, List.set_cons_zero]
  refine wpAnyH_takeD (i := 3) (oi := _) (v := .pointer (some ⟨bh, 1, none⟩)) 18 rfl (by kernel_rfl) (by kernel_rfl) (by kernel_rfl) (by kernel_rfl) (fun _ _ _ h => h) (Or.inl ⟨by kernel_rfl, ?_⟩) (by assumption) ?_
  · intro wq hSw
    obtain ⟨g0, g1, g2⟩ := HH.out.keep hSw
    go_simp
  simp only [Act.put, List.setIfInBounds_toArray, List.set_cons_succ, List.set_cons_zero]
  refine wpAnyH_takeD (i := 4) (oi := _) (v := .int .i64 (s : Int)) 19 rfl (by kernel_rfl) (by kernel_rfl) (by kernel_rfl) (by kernel_rfl) (fun _ _ _ h => h) (Or.inl ⟨by kernel_rfl, ?_⟩) (by assumption) ?_
  · intro wq hSw
    obtain ⟨g0, g1, g2⟩ := HH.out.keep hSw
    go_simp
  simp only [Act.put, List.setIfInBounds_toArray, List.set_cons_succ, List.set_cons_zero]
  refine wpAnyH_takeD (i := 5) (oi := _) (v := .agg #[.bool l, .int .i64 (s : Int), .int .i64 (h : Int)]) 20 rfl (by kernel_rfl) (by kernel_rfl) (by kernel_rfl) (by kernel_rfl) (fun _ _ _ h => h) (Or.inl ⟨by kernel_rfl, ?_⟩) (by assumption) ?_
  · intro wq hSw
    obtain ⟨g0, g1, g2⟩ := HH.out.keep hSw
    go_simp
  simp only [Act.put, List.setIfInBounds_toArray, List.set_cons_succ, List.set_cons_zero]
  refine wpAnyH_takeD (i := 9) (oi := _) (v := .slice (some ⟨b, o, none⟩) A.length c) 24 rfl (by kernel_rfl) (by kernel_rfl) (by kernel_rfl) (by kernel_rfl) (fun _ _ _ h => h) (Or.inl ⟨by kernel_rfl, ?_⟩) (by assumption) ?_
  · intro wq hSw
    obtain ⟨g0, g1, g2⟩ := HH.out.keep hSw
    go_simp
  simp only [Act.put, List.setIfInBounds_toArray, List.set_cons_succ, List.set_cons_zero]
  refine wpAnyH_takeD (i := 10) (oi := _) (v := .agg #[.bool l, .int .i64 (s : Int), .int .i64 (h : Int)]) 25 rfl (by kernel_rfl) (by kernel_rfl) (by kernel_rfl) (by kernel_rfl) (fun _ _ _ h => h) (Or.inl ⟨by kernel_rfl, ?_⟩) (by assumption) ?_
  · intro wq hSw
    obtain ⟨g0, g1, g2⟩ := HH.out.keep hSw
    go_simp
  simp only [Act.put, List.setIfInBounds_toArray, List.set_cons_succ, List.set_cons_zero]
  refine wpAnyH_ready (rs := [6]) (by kernel_rfl) (by simp) ?_
  refine AllReadyH.cons rfl (fun K hK => ?_) AllReadyH.nil
  go_simp
  go_wp2_with (go_at_call 38; refine (WH.out _).mono ?_; rintro e x1 ⟨rfl, hbx⟩)
  refine hK.out _ _ (hHeld.trans (hbx.mono hHeld.size)) (fun hHeld => ?_)
  clear hK K
  clear hbx
  refine wpAnyH_takeD (i := 7) (oi := _) (v := .slice (some ⟨b, atO o c s, none⟩) h (c - s)) 22 rfl (by kernel_rfl) (by kernel_rfl) (by kernel_rfl) (by kernel_rfl) (fun _ _ _ h => h) (Or.inl ⟨by kernel_rfl, ?_⟩) (by assumption) ?_
  · intro wq hSw
    obtain ⟨g0, g1, g2⟩ := HH.out.keep hSw
    go_simp; unfold atO; split <;> rfl
  simp only [Act.put, List.setIfInBounds_toArray, List.set_cons_succ, List.set_cons_zero]
  refine wpAnyH_ready (rs := [8]) (by kernel_rfl) (by simp) ?_
  refine AllReadyH.cons rfl (fun K hK => ?_) AllReadyH.nil
  go_simp
  go_wp2_with (go_at_call 33; refine (C1.out _ (B.trans (hHeld.mono B.size))).mono ?_; rintro e x2 ⟨v1, rfl, O1, N1, hbx⟩)
  refine hK.out _ _ (hHeld.trans (hbx.mono hHeld.size)) (fun hHeld => ?_)
  clear hK K
  refine wpAnyH_ready (rs := [11]) (by kernel_rfl) (by simp) ?_
  refine AllReadyH.cons rfl (fun K hK => ?_) AllReadyH.nil
  go_simp
  go_wp2_with (go_at_call 38; refine (WH.out _).mono ?_; rintro e x3 ⟨rfl, hbx⟩)
  refine hK.out _ _ (hHeld.trans (hbx.mono hHeld.size)) (fun hHeld => ?_)
  clear hK K
  have hb3 := hbx
  clear hbx
  refine wpAnyH_takeD (i := 12) (oi := _) (v := .slice (some ⟨b, atO o c t, none⟩) (A.length - t) (c - t)) 27 rfl (by kernel_rfl) (by kernel_rfl) (by kernel_rfl) (by kernel_rfl) (fun _ _ _ h => h) (Or.inl ⟨by kernel_rfl, ?_⟩) (by assumption) ?_
  · intro wq hSw
    obtain ⟨g0, g1, g2⟩ := HH.out.keep hSw
    go_simp; unfold atO; split <;> rfl
  simp only [Act.put, List.setIfInBounds_toArray, List.set_cons_succ, List.set_cons_zero]
  refine wpAnyH_ready (rs := [13]) (by kernel_rfl) (by simp) ?_
  refine AllReadyH.cons rfl (fun K hK => ?_) AllReadyH.nil
  go_simp
  go_wp2_with (go_at_call 33; refine (C2.out _ (B.trans (hHeld.mono B.size))).mono ?_; rintro e x4 ⟨v2, rfl, O2, N2, hbx⟩)
  refine hK.out _ _ (hHeld.trans (hbx.mono hHeld.size)) (fun hHeld => ?_)
  clear hK K
  refine wpAnyH_takeD (i := 14) (oi := _) (v := .bool l) 2 rfl (by kernel_rfl) (by kernel_rfl) (by kernel_rfl) (by kernel_rfl) (fun _ _ _ h => h) (Or.inl ⟨by kernel_rfl, ?_⟩) (by assumption) ?_
  · intro wq hSw
    obtain ⟨g0, g1, g2⟩ := HH.out.keep hSw
    go_simp
  simp only [Act.put, List.setIfInBounds_toArray, List.set_cons_succ, List.set_cons_zero]
  refine wpAnyH_takeD (i := 15) (oi := _) (v := v1) 3 rfl (by kernel_rfl) (by kernel_rfl) (by kernel_rfl) (by kernel_rfl) (fun _ _ _ h => h) (Or.inl ⟨by kernel_rfl, ?_⟩) (by assumption) ?_
  · intro wq hSw
    obtain ⟨g0, g1, g2⟩ := HH.out.keep hSw
    go_simp
  simp only [Act.put, List.setIfInBounds_toArray, List.set_cons_succ, List.set_cons_zero]
  refine wpAnyH_takeD (i := 16) (oi := _) (v := v2) 4 rfl (by kernel_rfl) (by kernel_rfl) (by kernel_rfl) (by kernel_rfl) (fun _ _ _ h => h) (Or.inl ⟨by kernel_rfl, ?_⟩) (by assumption) ?_
  · intro wq hSw
    obtain ⟨g0, g1, g2⟩ := HH.out.keep hSw
    go_simp
  simp only [Act.put, List.setIfInBounds_toArray, List.set_cons_succ, List.set_cons_zero]
  refine wpAnyH_takeD (i := 17) (oi := _) (v := .int .i64 0) 5 rfl (by kernel_rfl) (by kernel_rfl) (by kernel_rfl) (by kernel_rfl) (fun _ _ _ h => h) (Or.inl ⟨by kernel_rfl, ?_⟩) (by assumption) ?_
  · intro wq hSw
    obtain ⟨g0, g1, g2⟩ := HH.out.keep hSw
    go_simp
  simp only [Act.put, List.setIfInBounds_toArray, List.set_cons_succ, List.set_cons_zero]
  refine wpAnyH_done (by kernel_rfl) ?_ _
  have EX : Hid (OwnB w.heap.size x4 v1 ((A.drop s).take h) ∧ OwnB w.heap.size x4 v2 (A.drop t) ∧ v1 ≠ .slice none 0 0 ∧ v2 ≠ .slice none 0 0 ∧ Below w.heap.size w x4) := ⟨(O1.keep hb3).keep hbx, O2, N1, N2, B.trans (hHeld.mono B.size)⟩
  clear O1 O2 N1 N2 hHeld hbx hb3 B C1 C2 WH HH HA
  go_wp2
  have E2 := EX.out
  clear EX
  simp [bodyPost, results, Try.results20, go_sem]
  exact ⟨v1, v2, ⟨rfl, rfl⟩, E2⟩
end Go.Proofs.Ytahekhamhdfkdaa

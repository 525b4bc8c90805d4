import Derived.Test.YtdkfpakghpbofaaRtC
/- Layer 7: the document's bytes and Split. -/
namespace Go.Proofs.Ytdkfpakghpbofaa
open Go.RowKit Go.Sort
theorem own_nil0 (B : Nat) (w : World) : OwnB B w (.slice none 0 0) [] := ⟨rfl, .inl ⟨rfl, rfl⟩⟩
set_option maxHeartbeats 4000000 in
theorem r7bytes_any {X : List Int} {a : Option Addr} {g p c n : Nat} (hn : n = X.length) (hl : X.length < 140737488355000) (ha : Az a g p X) (hnc : a = none → c = 0) (w : World) (hz : Bz w g p X) :
    Calls Try.prog 17 #[.slice a n c] w fun e w' => ∃ v, e = .returned v ∧ OwnB w.heap.size w' v X ∧ Below w.heap.size w w' := by
  have HQ : Hid (n = X.length ∧ X.length < 140737488355000 ∧ Az a g p X ∧ (a = none → c = 0) ∧ Bz w g p X) := ⟨hn, hl, ha, hnc, hz⟩
  clear hn hl ha hnc hz
  go_enter Try.func17, Try.ntmps17
  go_wp2_with ((at_builtin; refine wpList_append_rd rfl _ _ rfl rfl rfl HQ.out.1 (own_nil0 w.heap.size w) HQ.out.2.2.1 HQ.out.2.2.2.1 HQ.out.2.2.2.2 (by have := HQ.out.2.1; simp; omega) (Nat.le_refl _) ?_); intro v3 w3 o3 g3)
  go_ret
  exact ⟨_, rfl, by simpa using o3, (Below.refl _ _).grown g3 (Nat.le_refl _) (fun k hk => by cases hk)⟩
set_option maxRecDepth 100000 in
set_option maxHeartbeats 4000000 in
theorem rsplit_long {a : Option Addr} {m c : Nat} (hm : 16777216 < m) (w : World) :
    Calls Try.prog 6 #[.slice a m c] w fun e w' => e = .returned (.tuple #[.bool false, .slice none 0 0, .slice none 0 0, .int .i64 2]) ∧ Below w.heap.size w w' := by
  have b1 : decide (16777216 < (m : Int)) = true := decide_eq_true (by omega)
  go_enter Try.func6, Try.ntmps6
  go_wp2
  simp [bodyPost, results, Try.results6, go_sem]
  exact Below.refl _ _
set_option maxRecDepth 100000 in
set_option maxHeartbeats 4000000 in
theorem rsplit_err {a : Option Addr} {m c : Nat} {l : Bool} {s t e0 : Int} (hm : m ≤ 16777216) (he : e0 ≠ 0) (w : World)
    (FH : Hid (∀ w1, Below w.heap.size w w1 → Calls Try.prog 16 #[.slice a m c, .int .i64 0, .int .i64 (m : Int)] w1 fun e w' => e = .returned (.tuple #[.agg #[.bool l, .int .i64 s, .int .i64 t], .int .i64 e0]) ∧ Below w1.heap.size w1 w')) :
    Calls Try.prog 6 #[.slice a m c] w fun e w' => e = .returned (.tuple #[.bool false, .slice none 0 0, .slice none 0 0, .int .i64 e0]) ∧ Below w.heap.size w w' := by
  have b1 : decide (16777216 < (m : Int)) = false := decide_eq_false (by omega)
  have b6 : (e0 == 0) = false := beq_false_of_ne he
  have b7 : (e0 != 0) = true := bne_iff_ne.2 he
  go_enter Try.func6, Try.ntmps6
  go_wp2_with fail
  with_reducible refine (FH.out w (Below.refl _ _)).mono ?_
  rintro e w1 ⟨rfl, B⟩
  clear FH
  go_wp2
  simp [bodyPost, results, Try.results6, go_sem]
  exact B.alloc B.size _
set_option maxRecDepth 100000 in
set_option maxHeartbeats 8000000 in
theorem rsplit_ok {A : List Int} {b o c s t h : Nat} {l : Bool} (et : t = s + h) (hn : s + h ≤ A.length) (hl : A.length ≤ 16777216) (hc : A.length ≤ c) (w : World) (hz : Bz w b o A)
    (FH : Hid (∀ w1, Below w.heap.size w w1 → Calls Try.prog 16 #[.slice (some ⟨b, o, none⟩) A.length c, .int .i64 0, .int .i64 (A.length : Int)] w1 fun e w' => e = .returned (.tuple #[.agg #[.bool l, .int .i64 (s : Int), .int .i64 (t : Int)], .int .i64 0]) ∧ Below w1.heap.size w1 w')) :
    Calls Try.prog 6 #[.slice (some ⟨b, o, none⟩) A.length c] w fun e w' => ∃ v1 v2, e = .returned (.tuple #[.bool l, v1, v2, .int .i64 0]) ∧ OwnB w.heap.size w' v1 ((A.drop s).take h) ∧ OwnB w.heap.size w' v2 (A.drop t) ∧ Below w.heap.size w w' := by
  have HA : Hid (s + h ≤ A.length ∧ A.length ≤ 16777216 ∧ A.length ≤ c ∧ Bz w b o A) := ⟨hn, hl, hc, hz⟩
  have la : ((A.drop s).take h).length = h := by rw [List.length_take, List.length_drop]; omega
  have lb : (A.drop t).length = A.length - t := List.length_drop ..
  have C1 : Hid (∀ W, Below w.heap.size w W → Calls Try.prog 17 #[.slice (some ⟨b, atO o c s, none⟩) h (c - s)] W fun e w' => ∃ v, e = .returned v ∧ OwnB w.heap.size w' v ((A.drop s).take h) ∧ Below W.heap.size W w') := fun W B => by
    have r := r7bytes_any (c := c - s) la.symm (by rw [la]; omega) (.inr rfl) (fun x => by cases x) W (bz_part (HA.out.2.2.2.keep B) hn hc)
    exact r.mono fun e w' ⟨v, a1, a2, a4⟩ => ⟨v, a1, a2.base B.size, a4⟩
  have C2 : Hid (∀ W, Below w.heap.size w W → Calls Try.prog 17 #[.slice (some ⟨b, atO o c t, none⟩) (A.length - t) (c - t)] W fun e w' => ∃ v, e = .returned v ∧ OwnB w.heap.size w' v (A.drop t) ∧ Below W.heap.size W w') := fun W B => by
    have r := r7bytes_any (c := c - t) lb.symm (by rw [lb]; omega) (.inr rfl) (fun x => by cases x) W (bz_rest (HA.out.2.2.2.keep B) (by omega) hc)
    exact r.mono fun e w' ⟨v, a1, a2, a4⟩ => ⟨v, a1, a2.base B.size, a4⟩
  have k1 : (t : Int) ≤ (c : Int) := by omega
  have k2 : s ≤ t := by omega
  have k3 : t - s = h := by omega
  have k4 : (t : Int) ≤ (A.length : Int) := by omega
  have b1 : decide (16777216 < (A.length : Int)) = false := decide_eq_false (by omega)
  clear hn hl hc hz la lb et
  go_enter Try.func6, Try.ntmps6
  go_wp2_with fail
  with_reducible refine (FH.out w (Below.refl _ _)).mono ?_
  rintro e w1 ⟨rfl, B⟩
  clear FH
  go_wp2_with fail
  refine wp_world (fun W => Below w.heap.size w W ∧ Hb W w1.heap.size l s t) ⟨B.alloc B.size _, Hb.new⟩ ?_
  clear B
  rintro W ⟨B, hH⟩
  generalize w1.heap.size = bh at *
  clear w1
  have HH : Hid (Hb W bh l s t) := hH
  clear hH
  refine wp_region_held_drew (S := fun w' => Below W.heap.size W w') (by kernel_rfl) ((Below.refl _ _).drew) (fun hHeld => ?_)
  refine wpAnyH_takeD (i := 0) (oi := _) (v := .pointer (some ⟨bh, 0, none⟩)) 21 rfl (by kernel_rfl) (by kernel_rfl) (by kernel_rfl) (by kernel_rfl) (fun _ _ _ h => h) (Or.inl ⟨by kernel_rfl, ?_⟩) (by assumption) ?_
  · intro wq hSw
    obtain ⟨g0, g1, g2⟩ := HH.out.keep hSw
    go_simp
  simp only [Act.put, List.setIfInBounds_toArray, List.set_cons_succ, List.set_cons_zero]
  refine wpAnyH_takeD (i := 1) (oi := _) (v := .bool l) 22 rfl (by kernel_rfl) (by kernel_rfl) (by kernel_rfl) (by kernel_rfl) (fun _ _ _ h => h) (Or.inl ⟨by kernel_rfl, ?_⟩) (by assumption) ?_
  · intro wq hSw
    obtain ⟨g0, g1, g2⟩ := HH.out.keep hSw
    go_simp
  simp only [Act.put, List.setIfInBounds_toArray, List.set_cons_succ, List.set_cons_zero]
  refine wpAnyH_takeD (i := 2) (oi := _) (v := .slice (some ⟨b, o, none⟩) A.length c) 23 rfl (by kernel_rfl) (by kernel_rfl) (by kernel_rfl) (by kernel_rfl) (fun _ _ _ h => h) (Or.inl ⟨by kernel_rfl, ?_⟩) (by assumption) ?_
  · intro wq hSw
    obtain ⟨g0, g1, g2⟩ := HH.out.keep hSw
    go_simp
  simp only [Act.put, List.setIfInBounds_toArray, List.set_cons_succ, List.set_cons_zero]
  refine wpAnyH_takeD (i := 3) (oi := _) (v := .pointer (some ⟨bh, 1, none⟩)) 24 rfl (by kernel_rfl) (by kernel_rfl) (by kernel_rfl) (by kernel_rfl) (fun _ _ _ h => h) (Or.inl ⟨by kernel_rfl, ?_⟩) (by assumption) ?_
  · intro wq hSw
    obtain ⟨g0, g1, g2⟩ := HH.out.keep hSw
    go_simp
  simp only [Act.put, List.setIfInBounds_toArray, List.set_cons_succ, List.set_cons_zero]
  refine wpAnyH_takeD (i := 4) (oi := _) (v := .int .i64 (s : Int)) 25 rfl (by kernel_rfl) (by kernel_rfl) (by kernel_rfl) (by kernel_rfl) (fun _ _ _ h => h) (Or.inl ⟨by kernel_rfl, ?_⟩) (by assumption) ?_
  · intro wq hSw
    obtain ⟨g0, g1, g2⟩ := HH.out.keep hSw
    go_simp
  simp only [Act.put, List.setIfInBounds_toArray, List.set_cons_succ, List.set_cons_zero]
  refine wpAnyH_takeD (i := 5) (oi := _) (v := .pointer (some ⟨bh, 2, none⟩)) 26 rfl (by kernel_rfl) (by kernel_rfl) (by kernel_rfl) (by kernel_rfl) (fun _ _ _ h => h) (Or.inl ⟨by kernel_rfl, ?_⟩) (by assumption) ?_
  · intro wq hSw
    obtain ⟨g0, g1, g2⟩ := HH.out.keep hSw
    go_simp
  simp only [Act.put, List.setIfInBounds_toArray, List.set_cons_succ, List.set_cons_zero]
  refine wpAnyH_takeD (i := 6) (oi := _) (v := .int .i64 (t : Int)) 27 rfl (by kernel_rfl) (by kernel_rfl) (by kernel_rfl) (by kernel_rfl) (fun _ _ _ h => h) (Or.inl ⟨by kernel_rfl, ?_⟩) (by assumption) ?_
  · intro wq hSw
    obtain ⟨g0, g1, g2⟩ := HH.out.keep hSw
    go_simp
  simp only [Act.put, List.setIfInBounds_toArray, List.set_cons_succ, List.set_cons_zero]
  refine wpAnyH_takeD (i := 7) (oi := _) (v := .slice (some ⟨b, atO o c s, none⟩) h (c - s)) 28 rfl (by kernel_rfl) (by kernel_rfl) (by kernel_rfl) (by kernel_rfl) (fun _ _ _ h => h) (Or.inl ⟨by kernel_rfl, ?_⟩) (by assumption) ?_
  · intro wq hSw
    obtain ⟨g0, g1, g2⟩ := HH.out.keep hSw
    go_simp; unfold atO; split <;> rfl
  simp only [Act.put, List.setIfInBounds_toArray, List.set_cons_succ, List.set_cons_zero]
  refine wpAnyH_takeD (i := 9) (oi := _) (v := .slice (some ⟨b, o, none⟩) A.length c) 30 rfl (by kernel_rfl) (by kernel_rfl) (by kernel_rfl) (by kernel_rfl) (fun _ _ _ h => h) (Or.inl ⟨by kernel_rfl, ?_⟩) (by assumption) ?_
  · intro wq hSw
    obtain ⟨g0, g1, g2⟩ := HH.out.keep hSw
    go_simp
  simp only [Act.put, List.setIfInBounds_toArray, List.set_cons_succ, List.set_cons_zero]
  refine wpAnyH_takeD (i := 10) (oi := _) (v := .pointer (some ⟨bh, 2, none⟩)) 31 rfl (by kernel_rfl) (by kernel_rfl) (by kernel_rfl) (by kernel_rfl) (fun _ _ _ h => h) (Or.inl ⟨by kernel_rfl, ?_⟩) (by assumption) ?_
  · intro wq hSw
    obtain ⟨g0, g1, g2⟩ := HH.out.keep hSw
    go_simp
  simp only [Act.put, List.setIfInBounds_toArray, List.set_cons_succ, List.set_cons_zero]
  refine wpAnyH_takeD (i := 11) (oi := _) (v := .int .i64 (t : Int)) 32 rfl (by kernel_rfl) (by kernel_rfl) (by kernel_rfl) (by kernel_rfl) (fun _ _ _ h => h) (Or.inl ⟨by kernel_rfl, ?_⟩) (by assumption) ?_
  · intro wq hSw
    obtain ⟨g0, g1, g2⟩ := HH.out.keep hSw
    go_simp
  simp only [Act.put, List.setIfInBounds_toArray, List.set_cons_succ, List.set_cons_zero]
  refine wpAnyH_takeD (i := 12) (oi := _) (v := .slice (some ⟨b, atO o c t, none⟩) (A.length - t) (c - t)) 33 rfl (by kernel_rfl) (by kernel_rfl) (by kernel_rfl) (by kernel_rfl) (fun _ _ _ h => h) (Or.inl ⟨by kernel_rfl, ?_⟩) (by assumption) ?_
  · intro wq hSw
    obtain ⟨g0, g1, g2⟩ := HH.out.keep hSw
    go_simp; unfold atO; split <;> rfl
  simp only [Act.put, List.setIfInBounds_toArray, List.set_cons_succ, List.set_cons_zero]
  refine wpAnyH_ready (rs := [8]) (by kernel_rfl) (by simp) ?_
  refine AllReadyH.cons rfl (fun K hK => ?_) AllReadyH.nil
  go_simp
  go_wp2_with (go_at_call 17; refine (C1.out _ (B.trans (hHeld.mono B.size))).mono ?_; rintro e x2 ⟨v1, rfl, O1, hbx⟩)
  refine hK.out _ _ (hHeld.trans (hbx.mono hHeld.size)) (fun hHeld => ?_)
  clear hK K
  clear hbx
  refine wpAnyH_ready (rs := [13]) (by kernel_rfl) (by simp) ?_
  refine AllReadyH.cons rfl (fun K hK => ?_) AllReadyH.nil
  go_simp
  go_wp2_with (go_at_call 17; refine (C2.out _ (B.trans (hHeld.mono B.size))).mono ?_; rintro e x4 ⟨v2, rfl, O2, hbx⟩)
  refine hK.out _ _ (hHeld.trans (hbx.mono hHeld.size)) (fun hHeld => ?_)
  clear hK K
  refine wpAnyH_takeD (i := 14) (oi := _) (v := .bool l) 2 rfl (by kernel_rfl) (by kernel_rfl) (by kernel_rfl) (by kernel_rfl) (fun _ _ _ h => h) (Or.inl ⟨by kernel_rfl, ?_⟩) (by assumption) ?_
  · intro wq hSw
    obtain ⟨g0, g1, g2⟩ := HH.out.keep hSw
    go_simp
  simp only [Act.put, List.setIfInBounds_toArray, List.set_cons_succ, List.set_cons_zero]
  refine wpAnyH_takeD (i := 15) (oi := _) (v := v1) 3 rfl (by kernel_rfl) (by kernel_rfl) (by kernel_rfl) (by kernel_rfl) (fun _ _ _ h => h) (Or.inl ⟨by kernel_rfl, ?_⟩) (by assumption) ?_
  · intro wq hSw
    obtain ⟨g0, g1, g2⟩ := HH.out.keep hSw
    go_simp
  simp only [Act.put, List.setIfInBounds_toArray, List.set_cons_succ, List.set_cons_zero]
  refine wpAnyH_takeD (i := 16) (oi := _) (v := v2) 4 rfl (by kernel_rfl) (by kernel_rfl) (by kernel_rfl) (by kernel_rfl) (fun _ _ _ h => h) (Or.inl ⟨by kernel_rfl, ?_⟩) (by assumption) ?_
  · intro wq hSw
    obtain ⟨g0, g1, g2⟩ := HH.out.keep hSw
    go_simp
  simp only [Act.put, List.setIfInBounds_toArray, List.set_cons_succ, List.set_cons_zero]
  refine wpAnyH_takeD (i := 17) (oi := _) (v := .int .i64 0) 5 rfl (by kernel_rfl) (by kernel_rfl) (by kernel_rfl) (by kernel_rfl) (fun _ _ _ h => h) (Or.inl ⟨by kernel_rfl, ?_⟩) (by assumption) ?_
  · intro wq hSw
    obtain ⟨g0, g1, g2⟩ := HH.out.keep hSw
    go_simp
  simp only [Act.put, List.setIfInBounds_toArray, List.set_cons_succ, List.set_cons_zero]
  refine wpAnyH_done (by kernel_rfl) ?_ _
  have EX : Hid (OwnB w.heap.size x4 v1 ((A.drop s).take h) ∧ OwnB w.heap.size x4 v2 (A.drop t) ∧ Below w.heap.size w x4) := ⟨O1.keep hbx, O2, B.trans (hHeld.mono B.size)⟩
  clear O1 O2 hHeld hbx B C1 C2 HH HA
  go_wp2
  have E2 := EX.out
  clear EX
  simp [bodyPost, results, Try.results6, go_sem]
  exact ⟨v1, v2, ⟨rfl, rfl⟩, E2⟩
end Go.Proofs.Ytdkfpakghpbofaa

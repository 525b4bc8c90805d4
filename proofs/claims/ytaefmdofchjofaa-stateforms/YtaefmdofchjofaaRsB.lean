import Derived.Test.YtaefmdofchjofaaUbC
import Derived.Lib.QuietBelow
import Derived.BigQuiet
/- Layer 7: readHead (RlRd on u256's base). -/
namespace Go.Proofs.Ytaefmdofchjofaa
open Go.RowKit Go.Sort

theorem keepC {W w1 : World} {p : Addr} {v : Value} (hb : Below W.heap.size W w1) (h : W.cell? p = some v) : w1.cell? p = some v := by
  rw [hb.cell (p := p) (World.block_lt_of_cell? W _ h)]; exact h
theorem wpW {P : Program} {c : Code} {Q : Exit → Act → World → Prop} {a : Act} {w : World} (S : World → Prop) (h : S w) (k : ∀ W, S W → c.wp P Q a W) : c.wp P Q a w := k w h
theorem Bz.alloc {W : World} {b o : Nat} {A : List Int} (h : Bz W b o A) (ob : Obj) : Bz (W.alloc ob) b o A := h.keep ((Below.refl _ _).alloc (Nat.le_refl _) ob)
/-- Small enough for an int. -/
def Lim (m : Nat) : Prop := m < 4294967296
/-- A head in a block. -/
def Hb (W : World) (b : Nat) (l : Bool) (s h : Int) : Prop := W.cell? ⟨b, 0, none⟩ = some (.bool l) ∧ W.cell? ⟨b, 1, none⟩ = some (.int .i64 s) ∧ W.cell? ⟨b, 2, none⟩ = some (.int .i64 h)
theorem Hb.keep {W w1 : World} {b : Nat} {l : Bool} {s h : Int} (x : Hb W b l s h) (hb : Below W.heap.size W w1) : Hb w1 b l s h := ⟨keepC hb x.1, keepC hb x.2.1, keepC hb x.2.2⟩
def Fr3 (W : World) (b : Nat) : Prop := W.frozen? ⟨b, 0, none⟩ = false ∧ W.frozen? ⟨b, 1, none⟩ = false ∧ W.frozen? ⟨b, 2, none⟩ = false
theorem Fr3.keep {W w1 : World} {b : Nat} (x : Fr3 W b) (hlt : b < W.heap.size) (hb : Below W.heap.size W w1) : Fr3 w1 b := ⟨by rw [hb.frozen (p := ⟨b, 0, none⟩) hlt]; exact x.1, by rw [hb.frozen (p := ⟨b, 1, none⟩) hlt]; exact x.2.1, by rw [hb.frozen (p := ⟨b, 2, none⟩) hlt]; exact x.2.2⟩
set_option maxRecDepth 100000 in
theorem whole_any {l : Bool} {s h : Int} (h0 : 0 ≤ s + h) (h1 : s + h < 9223372036854775808) (w : World) :
    Calls Try.prog 61 #[.agg #[.bool l, .int .i64 s, .int .i64 h]] w fun e w' => e = .returned (.int .i64 (s + h)) ∧ Below w.heap.size w w' := by
  have e : wrap64 (s + h) = s + h := by unfold wrap64; omega
  go_enter Try.func61, Try.ntmps61
  go_wp2
  simp [bodyPost, results, Try.results61, go_sem]
  exact (Below.refl _ _).alloc (Nat.le_refl _) _
set_option maxRecDepth 100000 in
theorem rh_empty {ao : Option Addr} {c : Nat} (w : World) :
    Calls Try.prog 43 #[.slice ao 0 c] w fun e w' => e = .returned (.tuple #[.agg #[.bool false, .int .i64 0, .int .i64 0], .int .i64 70]) ∧ Below w.heap.size w w' := by
  go_enter Try.func43, Try.ntmps43
  go_wp2
  simp [bodyPost, results, Try.results43, go_sem]
  exact (Below.refl _ _).alloc (Nat.le_refl _) _
set_option maxRecDepth 100000 in
theorem rh_low {A : List Int} {b o c : Nat} (hl : 0 < A.length) (hf : A.getD 0 0 < 128) (w : World) (h : Bz w b o A) :
    Calls Try.prog 43 #[.slice (some ⟨b, o, none⟩) A.length c] w fun e w' => e = .returned (.tuple #[.agg #[.bool false, .int .i64 0, .int .i64 1], .int .i64 0]) ∧ Below w.heap.size w w' := by
  have g := fun ob => (h.alloc ob) 0 hl
  simp only [Nat.add_zero] at g
  generalize A.getD 0 0 = f at *
  have h1 : ¬ ((A.length : Int) = 0) := by omega
  have h2 : (0 : Int) < (A.length : Int) := by omega
  generalize A.length = m at *
  clear h hl
  go_enter Try.func43, Try.ntmps43
  go_wp2
  simp [bodyPost, results, Try.results43, go_sem]
  repeat (first | with_reducible exact Below.refl _ _ | with_reducible refine Below.setCell ?_ (Nat.le_refl _) _ | with_reducible refine Below.alloc ?_ (Nat.le_refl _) _)
set_option maxRecDepth 100000 in
theorem bare_not {ao : Option Addr} {n c : Nat} (hn : n ≠ 1) (w : World) : Calls Try.prog 60 #[.slice ao n c] w fun e w' => e = .returned (.bool false) ∧ Below w.heap.size w w' := by
  have h2 : ¬ ((n : Int) = 1) := by omega
  go_enter Try.func60, Try.ntmps60
  go_wp2
  go_ret
  exact ⟨by simp, Below.refl _ _⟩

set_option maxRecDepth 100000 in
set_option maxHeartbeats 4000000 in
theorem rh_over {A : List Int} {b o c q : Nat} {f : Int} (ef : f = A.getD 0 0) (f0 : 128 ≤ f) (f1 : f < 256) (t1 : f.tmod 64 = q) (hq : q ≤ 55) (hl : 0 < A.length) (hn : A.length ≤ q) (w : World) (h : Bz w b o A) :
    Calls Try.prog 43 #[.slice (some ⟨b, o, none⟩) A.length c] w fun e w' => e = .returned (.tuple #[.agg #[.bool false, .int .i64 0, .int .i64 0], .int .i64 70]) ∧ Below w.heap.size w w' := by
  have g := fun ob => (h.alloc ob) 0 hl
  simp only [Nat.add_zero, ← ef] at g
  have o3 : w.heap.size ≤ w.heap.size := Nat.le_refl _
  obtain ⟨m, em⟩ : ∃ m, m = A.length := ⟨_, rfl⟩
  rw [← em] at hn hl ⊢
  have h1 : ¬ ((m : Int) = 0) := by omega
  have h2 : (0 : Int) < (m : Int) := by omega
  have b1 : ((m : Int) == 0) = false := by simpa using h1
  have b2 : decide (f < 128) = false := decide_eq_false (by omega)
  have b3 : decide (55 < (q : Int)) = false := decide_eq_false (by omega)
  have b4 : decide ((m : Int) - 1 < (q : Int)) = true := decide_eq_true (by omega)
  have w1 : wrap64 ((m : Int) - 1) = (m : Int) - 1 := by unfold wrap64; omega
  have w2 : IntKind.u64.wrap ((m : Int) - 1) = (m : Int) - 1 := by rw [IntKind.wrap_u64]; omega
  have q0 : (0 : Int) ≤ (q : Int) := by omega
  have q1 : (q : Int) ≤ 55 := by omega
  clear h ef em hn hq
  go_enter Try.func43, Try.ntmps43
  go_wp2
  all_goals simp [bodyPost, results, Try.results43, go_sem]
  all_goals repeat (first | with_reducible exact Below.refl _ _ | with_reducible refine Below.setCell ?_ o3 _ | with_reducible refine Below.alloc ?_ (by first | omega | (simp; done) | (simp; omega)) _)

set_option maxRecDepth 100000 in
set_option maxHeartbeats 4000000 in
theorem rh_list {A : List Int} {b o c q : Nat} {f : Int} (ef : f = A.getD 0 0) (f0 : 128 ≤ f) (f1 : f < 256) (hf : 192 ≤ f) (t1 : f.tmod 64 = q) (hq : q ≤ 55) (hn : 1 + q ≤ A.length) (hm : Lim A.length) (w : World) (h : Bz w b o A) :
    Calls Try.prog 43 #[.slice (some ⟨b, o, none⟩) A.length c] w fun e w' => e = .returned (.tuple #[.agg #[.bool true, .int .i64 1, .int .i64 q], .int .i64 0]) ∧ Below w.heap.size w w' := by
  have g := fun ob => (h.alloc ob) 0 (by omega)
  simp only [Nat.add_zero, ← ef] at g
  have o3 : w.heap.size ≤ w.heap.size := Nat.le_refl _
  have HB : Hid (Bz w b o A) := h
  obtain ⟨m, em⟩ : ∃ m, m = A.length := ⟨_, rfl⟩
  rw [← em] at hn hm ⊢
  have h1 : ¬ ((m : Int) = 0) := by omega
  have h2 : (0 : Int) < (m : Int) := by omega
  have b1 : ((m : Int) == 0) = false := by simpa using h1
  have b2 : decide (f < 128) = false := decide_eq_false (by omega)
  have b3 : decide (55 < (q : Int)) = false := decide_eq_false (by omega)
  have b4 : decide ((m : Int) - 1 < (q : Int)) = false := decide_eq_false (by omega)
  have b5 : decide (192 ≤ f) = true := decide_eq_true hf
  have w1 : wrap64 ((m : Int) - 1) = (m : Int) - 1 := by unfold Lim at hm; unfold wrap64; omega
  have w2 : IntKind.u64.wrap ((m : Int) - 1) = (m : Int) - 1 := by rw [IntKind.wrap_u64]; unfold Lim at hm; omega
  have q0 : (0 : Int) ≤ (q : Int) := by omega
  have q1 : (q : Int) ≤ 55 := by omega
  have q2 : (q : Int) ≤ (m : Int) - 1 := by omega
  clear h ef em hn hq hf
  go_enter Try.func43, Try.ntmps43
  go_wp2_with fail
  refine wpW (fun W => Below w.heap.size w W ∧ Hb W (w.heap.size + 1) true 1 q ∧ Hb W w.heap.size false 0 0 ∧ Fr3 W w.heap.size ∧ Bz W b o A ∧ w.heap.size < W.heap.size) ⟨((Below.refl _ _).alloc (Nat.le_refl _) _).alloc (by simp) _, ?_, ?_, ?_, (HB.out.alloc _).alloc _, by simp; omega⟩ ?_
  · exact ⟨by simp [go_sem], by simp [go_sem], by simp [go_sem]⟩
  · exact ⟨by simp [go_sem], by simp [go_sem], by simp [go_sem]⟩
  · exact ⟨by simp [go_sem], by simp [go_sem], by simp [go_sem]⟩
  clear g b1 b2 b3 b4 b5 w1 w2 t1
  rintro W ⟨B, hH, hR, hF, hZ, lt⟩
  have gH0 := fun d os => (hH.keep (below_regrown W d os)).1
  have gH1 := fun d os => (hH.keep (below_regrown W d os)).2.1
  have gH2 := fun d os => (hH.keep (below_regrown W d os)).2.2
  refine wp_region_quiet_below (by kernel_rfl) (by kernel_rfl) ?_
  repeat
    first
      | go_big_quiet_skip
      | (go_big_quiet_want; go_big_quiet_op; go_big_quiet_on)
  refine wpQuiet_nil ?_
  rintro w9 ⟨p, rfl⟩
  have hb := below_regrown W p.d p.os
  generalize grow (redrawn W p.d) p.os = w9 at *
  replace B := B.trans (hb.mono B.size)
  replace hF := hF.keep lt hb
  replace hH := hH.keep hb; replace hR := hR.keep hb
  clear hb gH0 gH1 gH2 hZ
  obtain ⟨k0, k1, k2⟩ := hH
  obtain ⟨r0, r1, r2⟩ := hR
  obtain ⟨z0, z1, z2⟩ := hF
  go_wp2
  all_goals simp [bodyPost, results, Try.results43, go_sem, *]
  all_goals repeat (first | with_reducible exact B | with_reducible refine Below.setCell ?_ o3 _)

set_option maxRecDepth 100000 in
set_option maxHeartbeats 4000000 in
theorem rh_bare {A : List Int} {b o c q : Nat} {f : Int} (ef : f = A.getD 0 0) (f0 : 128 ≤ f) (f1 : f < 256) (hf : f < 192) (t1 : f.tmod 64 = q) (hq : q ≤ 55) (hn : 1 + q ≤ A.length) (hc : A.length ≤ c) (hm : Lim A.length) (hb : bareB ((A.drop 1).take q) = true) (w : World) (h : Bz w b o A) :
    Calls Try.prog 43 #[.slice (some ⟨b, o, none⟩) A.length c] w fun e w' => e = .returned (.tuple #[.agg #[.bool false, .int .i64 0, .int .i64 0], .int .i64 71]) ∧ Below w.heap.size w w' := by
  have g := fun ob => (h.alloc ob) 0 (by omega)
  simp only [Nat.add_zero, ← ef] at g
  have o3 : w.heap.size ≤ w.heap.size := Nat.le_refl _
  have s1 : 1 + q ≤ c := by omega
  have s2 : (1 : Int) + (q : Int) ≤ (c : Int) := by omega
  have s3 : (1 : Int) ≤ 1 + (q : Int) := by omega
  have s4 : ((1 : Int) + (q : Int)).toNat = 1 + q := by omega
  have la : ((A.drop 1).take q).length = q := by rw [List.length_take, List.length_drop]; omega
  have WH : Hid (∀ w, Calls Try.prog 61 #[.agg #[.bool false, .int .i64 1, .int .i64 q]] w fun e w' => e = .returned (.int .i64 (1 + q)) ∧ Below w.heap.size w w') := fun w => whole_any (by omega) (by unfold Lim at hm; omega) w
  have AZ : Hid (Az (if c = 1 then some ⟨b, o, none⟩ else some ⟨b, o + 1, none⟩) b (o + 1) ((A.drop 1).take q)) := by
    by_cases h1 : c = 1
    · exact .inl (List.eq_nil_of_length_eq_zero (by rw [la]; omega))
    · exact .inr (if_neg h1)
  have BR : Hid (∀ ao c' w, Az ao b (o + 1) ((A.drop 1).take q) → Bz w b (o + 1) ((A.drop 1).take q) → Calls Try.prog 60 #[.slice ao q c'] w fun e w' => e = .returned (.bool true) ∧ Below w.heap.size w w') := fun ao c' w ha hz => by
    have := bare_any (c := c') ha w hz
    rw [la, hb] at this
    exact this.mono fun e w' h => ⟨h.1, by rw [h.2]; exact Below.refl _ _⟩
  have HA : Hid (∀ W, Bz W b o A → Bz W b (o + 1) ((A.drop 1).take q)) := fun W h => h.drop.take
  clear hb la
  have HB : Hid (Bz w b o A) := h
  obtain ⟨m, em⟩ : ∃ m, m = A.length := ⟨_, rfl⟩
  rw [← em] at hn hc hm ⊢
  have h1 : ¬ ((m : Int) = 0) := by omega
  have h2 : (0 : Int) < (m : Int) := by omega
  have b1 : ((m : Int) == 0) = false := by simpa using h1
  have b2 : decide (f < 128) = false := decide_eq_false (by omega)
  have b3 : decide (55 < (q : Int)) = false := decide_eq_false (by omega)
  have b4 : decide ((m : Int) - 1 < (q : Int)) = false := decide_eq_false (by omega)
  have b5 : decide (192 ≤ f) = false := decide_eq_false (by omega)
  have w1 : wrap64 ((m : Int) - 1) = (m : Int) - 1 := by unfold Lim at hm; unfold wrap64; omega
  have w2 : IntKind.u64.wrap ((m : Int) - 1) = (m : Int) - 1 := by rw [IntKind.wrap_u64]; unfold Lim at hm; omega
  have q0 : (0 : Int) ≤ (q : Int) := by omega
  have q1 : (q : Int) ≤ 55 := by omega
  have q2 : (q : Int) ≤ (m : Int) - 1 := by omega
  clear h ef em hn hc hq hf
  go_enter Try.func43, Try.ntmps43
  go_wp2_with fail
  refine wpW (fun W => Below w.heap.size w W ∧ Hb W (w.heap.size + 1) false 1 q ∧ Hb W w.heap.size false 0 0 ∧ Fr3 W w.heap.size ∧ Bz W b o A ∧ w.heap.size < W.heap.size) ⟨((Below.refl _ _).alloc (Nat.le_refl _) _).alloc (by simp) _, ?_, ?_, ?_, (HB.out.alloc _).alloc _, by simp; omega⟩ ?_
  · exact ⟨by simp [go_sem], by simp [go_sem], by simp [go_sem]⟩
  · exact ⟨by simp [go_sem], by simp [go_sem], by simp [go_sem]⟩
  · exact ⟨by simp [go_sem], by simp [go_sem], by simp [go_sem]⟩
  clear g b1 b2 b3 b4 b5 w1 w2 t1
  rintro W ⟨B, hH, hR, hF, hZ, lt⟩
  have gH0 := fun d os => (hH.keep (below_regrown W d os)).1
  have gH1 := fun d os => (hH.keep (below_regrown W d os)).2.1
  have gH2 := fun d os => (hH.keep (below_regrown W d os)).2.2
  have kZ := fun d os => HA.out _ (hZ.keep (below_regrown W d os))
  refine wp_region_quiet_below (by kernel_rfl) (by kernel_rfl) ?_
  repeat
    first
      | go_big_quiet_skip
      | (go_big_quiet_want; go_big_quiet_op; go_big_quiet_on)
      | (go_big_quiet_want
         go_big_quiet_op
         apply Exists.intro
         refine ⟨fun p => ?_, ?_⟩
         · (first | (go_at_call 61; with_reducible exact Calls.regrown_of (WH.out _)) | (go_at_call 60; exact Calls.regrown_of (BR.out _ _ _ AZ.out (kZ p.d p.os))))
         go_big_quiet_on)
  refine wpQuiet_nil ?_
  rintro w9 ⟨p, rfl⟩
  have hb := below_regrown W p.d p.os
  generalize grow (redrawn W p.d) p.os = w9 at *
  replace B := B.trans (hb.mono B.size)
  replace hF := hF.keep lt hb
  replace hH := hH.keep hb; replace hR := hR.keep hb
  clear hb gH0 gH1 gH2 hZ kZ
  obtain ⟨k0, k1, k2⟩ := hH
  obtain ⟨r0, r1, r2⟩ := hR
  obtain ⟨z0, z1, z2⟩ := hF
  go_wp2
  all_goals simp [bodyPost, results, Try.results43, go_sem, *]
  all_goals repeat (first | with_reducible exact B | with_reducible refine Below.setCell ?_ o3 _)

set_option maxRecDepth 100000 in
set_option maxHeartbeats 4000000 in
theorem rh_text {A : List Int} {b o c q : Nat} {f : Int} (ef : f = A.getD 0 0) (f0 : 128 ≤ f) (f1 : f < 256) (hf : f < 192) (t1 : f.tmod 64 = q) (hq : q ≤ 55) (hn : 1 + q ≤ A.length) (hc : A.length ≤ c) (hm : Lim A.length) (hb : bareB ((A.drop 1).take q) = false) (w : World) (h : Bz w b o A) :
    Calls Try.prog 43 #[.slice (some ⟨b, o, none⟩) A.length c] w fun e w' => e = .returned (.tuple #[.agg #[.bool false, .int .i64 1, .int .i64 q], .int .i64 0]) ∧ Below w.heap.size w w' := by
  have g := fun ob => (h.alloc ob) 0 (by omega)
  simp only [Nat.add_zero, ← ef] at g
  have o3 : w.heap.size ≤ w.heap.size := Nat.le_refl _
  have s1 : 1 + q ≤ c := by omega
  have s2 : (1 : Int) + (q : Int) ≤ (c : Int) := by omega
  have s3 : (1 : Int) ≤ 1 + (q : Int) := by omega
  have s4 : ((1 : Int) + (q : Int)).toNat = 1 + q := by omega
  have la : ((A.drop 1).take q).length = q := by rw [List.length_take, List.length_drop]; omega
  have WH : Hid (∀ w, Calls Try.prog 61 #[.agg #[.bool false, .int .i64 1, .int .i64 q]] w fun e w' => e = .returned (.int .i64 (1 + q)) ∧ Below w.heap.size w w') := fun w => whole_any (by omega) (by unfold Lim at hm; omega) w
  have AZ : Hid (Az (if c = 1 then some ⟨b, o, none⟩ else some ⟨b, o + 1, none⟩) b (o + 1) ((A.drop 1).take q)) := by
    by_cases h1 : c = 1
    · exact .inl (List.eq_nil_of_length_eq_zero (by rw [la]; omega))
    · exact .inr (if_neg h1)
  have BR : Hid (∀ ao c' w, Az ao b (o + 1) ((A.drop 1).take q) → Bz w b (o + 1) ((A.drop 1).take q) → Calls Try.prog 60 #[.slice ao q c'] w fun e w' => e = .returned (.bool false) ∧ Below w.heap.size w w') := fun ao c' w ha hz => by
    have := bare_any (c := c') ha w hz
    rw [la, hb] at this
    exact this.mono fun e w' h => ⟨h.1, by rw [h.2]; exact Below.refl _ _⟩
  have HA : Hid (∀ W, Bz W b o A → Bz W b (o + 1) ((A.drop 1).take q)) := fun W h => h.drop.take
  clear hb la
  have HB : Hid (Bz w b o A) := h
  obtain ⟨m, em⟩ : ∃ m, m = A.length := ⟨_, rfl⟩
  rw [← em] at hn hc hm ⊢
  have h1 : ¬ ((m : Int) = 0) := by omega
  have h2 : (0 : Int) < (m : Int) := by omega
  have b1 : ((m : Int) == 0) = false := by simpa using h1
  have b2 : decide (f < 128) = false := decide_eq_false (by omega)
  have b3 : decide (55 < (q : Int)) = false := decide_eq_false (by omega)
  have b4 : decide ((m : Int) - 1 < (q : Int)) = false := decide_eq_false (by omega)
  have b5 : decide (192 ≤ f) = false := decide_eq_false (by omega)
  have w1 : wrap64 ((m : Int) - 1) = (m : Int) - 1 := by unfold Lim at hm; unfold wrap64; omega
  have w2 : IntKind.u64.wrap ((m : Int) - 1) = (m : Int) - 1 := by rw [IntKind.wrap_u64]; unfold Lim at hm; omega
  have q0 : (0 : Int) ≤ (q : Int) := by omega
  have q1 : (q : Int) ≤ 55 := by omega
  have q2 : (q : Int) ≤ (m : Int) - 1 := by omega
  clear h ef em hn hc hq hf
  go_enter Try.func43, Try.ntmps43
  go_wp2_with fail
  refine wpW (fun W => Below w.heap.size w W ∧ Hb W (w.heap.size + 1) false 1 q ∧ Hb W w.heap.size false 0 0 ∧ Fr3 W w.heap.size ∧ Bz W b o A ∧ w.heap.size < W.heap.size) ⟨((Below.refl _ _).alloc (Nat.le_refl _) _).alloc (by simp) _, ?_, ?_, ?_, (HB.out.alloc _).alloc _, by simp; omega⟩ ?_
  · exact ⟨by simp [go_sem], by simp [go_sem], by simp [go_sem]⟩
  · exact ⟨by simp [go_sem], by simp [go_sem], by simp [go_sem]⟩
  · exact ⟨by simp [go_sem], by simp [go_sem], by simp [go_sem]⟩
  clear g b1 b2 b3 b4 b5 w1 w2 t1
  rintro W ⟨B, hH, hR, hF, hZ, lt⟩
  have gH0 := fun d os => (hH.keep (below_regrown W d os)).1
  have gH1 := fun d os => (hH.keep (below_regrown W d os)).2.1
  have gH2 := fun d os => (hH.keep (below_regrown W d os)).2.2
  have kZ := fun d os => HA.out _ (hZ.keep (below_regrown W d os))
  refine wp_region_quiet_below (by kernel_rfl) (by kernel_rfl) ?_
  repeat
    first
      | go_big_quiet_skip
      | (go_big_quiet_want; go_big_quiet_op; go_big_quiet_on)
      | (go_big_quiet_want
         go_big_quiet_op
         apply Exists.intro
         refine ⟨fun p => ?_, ?_⟩
         · (first | (go_at_call 61; with_reducible exact Calls.regrown_of (WH.out _)) | (go_at_call 60; exact Calls.regrown_of (BR.out _ _ _ AZ.out (kZ p.d p.os))))
         go_big_quiet_on)
  refine wpQuiet_nil ?_
  rintro w9 ⟨p, rfl⟩
  have hb := below_regrown W p.d p.os
  generalize grow (redrawn W p.d) p.os = w9 at *
  replace B := B.trans (hb.mono B.size)
  replace hF := hF.keep lt hb
  replace hH := hH.keep hb; replace hR := hR.keep hb
  clear hb gH0 gH1 gH2 hZ kZ
  obtain ⟨k0, k1, k2⟩ := hH
  obtain ⟨r0, r1, r2⟩ := hR
  obtain ⟨z0, z1, z2⟩ := hF
  go_wp2
  all_goals simp [bodyPost, results, Try.results43, go_sem, *]
  all_goals repeat (first | with_reducible exact B | with_reducible refine Below.setCell ?_ o3 _)
end Go.Proofs.Ytaefmdofchjofaa

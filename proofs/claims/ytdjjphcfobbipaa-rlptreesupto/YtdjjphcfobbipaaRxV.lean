import Derived.Test.YtdjjphcfobbipaaRxT
/- Layer 7: what is read of an item: texts of a length, numbers. -/
namespace Go.Proofs.Ytdjjphcfobbipaa
open Go.RowKit Go.Sort
theorem fix_neg {l : Bool} {X : List Int} {ts : List Tr} {n : Int} (h : n < 0) : fixE l X ts n = 1 ∧ fixL l X ts n = [] := by
  have e : fixE l X ts n = 1 := by unfold fixE; rw [if_pos h]
  exact ⟨e, by unfold fixL; rw [e]; rfl⟩
theorem fix_bad {l : Bool} {X : List Int} {ts : List Tr} {n : Int} (h : ¬ n < 0) (hE : wantE l X ts false ≠ 0) : fixE l X ts n = wantE l X ts false ∧ fixL l X ts n = [] := by
  have e : fixE l X ts n = wantE l X ts false := by unfold fixE; rw [if_neg h, if_pos hE]
  exact ⟨e, by unfold fixL; rw [e, if_neg hE]⟩
theorem fix_len {l : Bool} {X : List Int} {ts : List Tr} {n : Int} (h : ¬ n < 0) (hE : wantE l X ts false = 0) (h1 : ¬ (X.length : Int) = n) : fixE l X ts n = 77 ∧ fixL l X ts n = [] := by
  have e : fixE l X ts n = 77 := by unfold fixE; rw [if_neg h, if_neg (not_not_intro hE), if_neg h1]
  exact ⟨e, by unfold fixL; rw [e]; rfl⟩
theorem fix_ok {l : Bool} {X : List Int} {ts : List Tr} {n : Int} (h : ¬ n < 0) (hE : wantE l X ts false = 0) (h1 : (X.length : Int) = n) : fixE l X ts n = 0 ∧ fixL l X ts n = X := by
  have e : fixE l X ts n = 0 := by unfold fixE; rw [if_neg h, if_neg (not_not_intro hE), if_pos h1]
  exact ⟨e, by unfold fixL; rw [if_pos e]⟩
theorem num_bad {l : Bool} {X : List Int} {ts : List Tr} {k : Nat} (hE : wantE l X ts false ≠ 0) : numE l X ts k = wantE l X ts false ∧ numV l X ts k = 0 := by
  have e : numE l X ts k = wantE l X ts false := by unfold numE; rw [if_pos hE]
  exact ⟨e, by unfold numV; rw [e, if_neg hE]⟩
theorem num_long {l : Bool} {X : List Int} {ts : List Tr} {k : Nat} (hE : wantE l X ts false = 0) (h : k < X.length) : numE l X ts k = 77 ∧ numV l X ts k = 0 := by
  have e : numE l X ts k = 77 := by unfold numE; rw [if_neg (not_not_intro hE), if_pos h]
  exact ⟨e, by unfold numV; rw [e]; rfl⟩
theorem num_lead {l : Bool} {X : List Int} {ts : List Tr} {k : Nat} (hE : wantE l X ts false = 0) (h : ¬ k < X.length) (h2 : X ≠ [] ∧ X.getD 0 0 = 0) : numE l X ts k = 76 ∧ numV l X ts k = 0 := by
  have e : numE l X ts k = 76 := by unfold numE; rw [if_neg (not_not_intro hE), if_neg h, if_pos h2]
  exact ⟨e, by unfold numV; rw [e]; rfl⟩
theorem num_ok {l : Bool} {X : List Int} {ts : List Tr} {k : Nat} (hE : wantE l X ts false = 0) (h : ¬ k < X.length) (h2 : ¬ (X ≠ [] ∧ X.getD 0 0 = 0)) : numE l X ts k = 0 ∧ numV l X ts k = sufN X X.length := by
  have e : numE l X ts k = 0 := by unfold numE; rw [if_neg (not_not_intro hE), if_neg h, if_neg h2]
  exact ⟨e, by unfold numV; rw [if_pos e]⟩
set_option maxRecDepth 100000 in
set_option maxHeartbeats 4000000 in
theorem getFixed_any {l : Bool} {X : List Int} {ts : List Tr} {a1 a2 : Option Addr} {b o c1 c2 : Nat} (k : Int) (hl : X.length < 16777216) (ha : Az a1 b o X) (w : World) (hz : Bz w b o X) :
    Calls Try.prog 29 #[.agg #[.bool l, .slice a1 X.length c1, .slice a2 ts.length c2], .int .i64 k] w fun e w' => ∃ v, e = .returned (.tuple #[v, .int .i64 (fixE l X ts k)]) ∧ OwnB w.heap.size w' v (fixL l X ts k) ∧ Below w.heap.size w w' := by
  have D : Hid (∀ W, Below w.heap.size w W → Calls Try.prog 22 #[.agg #[.bool l, .slice a1 X.length c1, .slice a2 ts.length c2]] W fun e w' => ∃ v, e = .returned (.tuple #[v, .int .i64 (wantE l X ts false)]) ∧ OwnB W.heap.size w' v (wantL l X ts) ∧ Below W.heap.size W w') := fun W B => getText_any hl ha W (hz.keep B)
  unfold wantL at D
  clear ha hz hl
  by_cases h0 : k < 0
  · rw [(fix_neg h0).1, (fix_neg h0).2]
    clear D
    go_enter Try.func29, Try.ntmps29
    go_wp2
    simp [bodyPost, results, Try.results29, go_sem]
    exact ⟨OwnB.nil _ _, (Below.refl _ _).alloc (Nat.le_refl _) _⟩
  · have h0' : decide (k < 0) = false := decide_eq_false h0
    by_cases hE : wantE l X ts false = 0
    · rw [hE, if_pos rfl] at D
      by_cases h1 : (X.length : Int) = k
      · rw [(fix_ok h0 hE h1).1, (fix_ok h0 hE h1).2]
        subst h1
        clear hE h0
        have hkk : ((X.length : Int) == (X.length : Int)) = true := by simp
        go_enter Try.func29, Try.ntmps29
        go_wp2_with ((with_reducible refine (D.out _ ((Below.refl _ _).alloc (Nat.le_refl _) _)).mono ?_); rintro e1 w1 ⟨v, rfl, o1, hw⟩; (obtain ⟨av, gv1, cv, rfl, _⟩ := o1.lies))
        simp [bodyPost, results, Try.results29, go_sem]
        exact ⟨o1.base (by simp), ((Below.refl w.heap.size w).alloc (Nat.le_refl _) _).trans (hw.mono (by simp))⟩
      · rw [(fix_len h0 hE h1).1, (fix_len h0 hE h1).2]
        have h1' : ((X.length : Int) == k) = false := by simpa using h1
        clear hE h0 h1
        go_enter Try.func29, Try.ntmps29
        go_wp2_with ((with_reducible refine (D.out _ ((Below.refl _ _).alloc (Nat.le_refl _) _)).mono ?_); rintro e1 w1 ⟨v, rfl, o1, hw⟩; (obtain ⟨av, gv1, cv, rfl, _⟩ := o1.lies))
        simp [bodyPost, results, Try.results29, go_sem]
        exact ⟨OwnB.nil _ _, ((Below.refl w.heap.size w).alloc (Nat.le_refl _) _).trans (hw.mono (by simp))⟩
    · rw [if_neg hE] at D
      rw [(fix_bad h0 hE).1, (fix_bad h0 hE).2]
      generalize wantE l X ts false = E at *
      have he : (E == 0) = false := by simpa using hE
      clear hE h0
      go_enter Try.func29, Try.ntmps29
      go_wp2_with ((with_reducible refine (D.out _ ((Below.refl _ _).alloc (Nat.le_refl _) _)).mono ?_); rintro e1 w1 ⟨v, rfl, o1, hw⟩; (obtain ⟨av, gv1, cv, rfl, _⟩ := o1.lies))
      simp [bodyPost, results, Try.results29, go_sem]
      exact ⟨OwnB.nil _ _, ((Below.refl w.heap.size w).alloc (Nat.le_refl _) _).trans (hw.mono (by simp))⟩
set_option maxRecDepth 100000 in
set_option maxHeartbeats 4000000 in
theorem rGetFixed_any {l : Bool} {X : List Int} {ts : List Tr} {a1 a2 : Option Addr} {b o c1 c2 : Nat} (k : Int) (hl : X.length < 16777216) (ha : Az a1 b o X) (hnc : a1 = none → c1 = 0) (w : World) (hz : Bz w b o X) :
    Calls Try.prog 30 #[.agg #[.bool l, .slice a1 X.length c1, .slice a2 ts.length c2], .int .i64 k] w fun e w' => ∃ v, e = .returned (.tuple #[v, .int .i64 (fixE l X ts k)]) ∧ OwnB w.heap.size w' v (fixL l X ts k) ∧ Below w.heap.size w w' := by
  have C : Hid (∀ w, Calls Try.prog 49 #[.agg #[.bool l, .slice a1 X.length c1, .slice a2 ts.length c2], .bool false] w fun e w' => e = .returned (.int .i64 (wantE l X ts false)) ∧ Below w.heap.size w w') := fun w => rwanted_any w
  have D : Hid (∀ W, Below w.heap.size w W → Calls Try.prog 40 #[.slice a1 X.length c1] W fun e w' => ∃ v, e = .returned v ∧ OwnB W.heap.size w' v X ∧ Below W.heap.size W w') := fun W B => r7bytes_any rfl (by omega) ha hnc W (hz.keep B)
  clear ha hz hnc hl
  by_cases h0 : k < 0
  · rw [(fix_neg h0).1, (fix_neg h0).2]
    clear D C
    go_enter Try.func30, Try.ntmps30
    go_wp2
    simp [bodyPost, results, Try.results30, go_sem]
    exact ⟨OwnB.nil _ _, (Below.refl _ _).alloc (Nat.le_refl _) _⟩
  · have h0' : decide (k < 0) = false := decide_eq_false h0
    by_cases hE : wantE l X ts false = 0
    · rw [hE] at C
      by_cases h1 : (X.length : Int) = k
      · rw [(fix_ok h0 hE h1).1, (fix_ok h0 hE h1).2]
        subst h1
        clear hE h0
        generalize hX : X.length = n at *
        generalize ts.length = m at *
        have hkk : ((n : Int) == (n : Int)) = true := by simp
        go_enter Try.func30, Try.ntmps30
        go_wp2_with (first
          | ((with_reducible refine (C.out _).mono ?_); rintro e1 w1 ⟨rfl, hw⟩; (have B1 : Below w.heap.size w w1 := ((Below.refl w.heap.size w).alloc (Nat.le_refl _) _).trans (hw.mono (by simp))); (obtain ⟨x0, x1, x2⟩ : Bx w1 w.heap.size l (.slice a1 n c1) (.slice a2 m c2) := Bx.keep ⟨by simp [go_sem], by simp [go_sem], by simp [go_sem]⟩ hw))
          | ((with_reducible refine (D.out _ B1).mono ?_); rintro e2 w2 ⟨v, rfl, o2, hw2⟩))
        simp [bodyPost, results, Try.results30, go_sem]
        exact ⟨o2.base B1.size, B1.trans (hw2.mono B1.size)⟩
      · rw [(fix_len h0 hE h1).1, (fix_len h0 hE h1).2]
        have h1' : ((X.length : Int) == k) = false := by simpa using h1
        clear hE h0 h1 D
        generalize X.length = n at *
        generalize ts.length = m at *
        go_enter Try.func30, Try.ntmps30
        go_wp2_with ((with_reducible refine (C.out _).mono ?_); rintro e1 w1 ⟨rfl, hw⟩; (have B1 : Below w.heap.size w w1 := ((Below.refl w.heap.size w).alloc (Nat.le_refl _) _).trans (hw.mono (by simp))); (obtain ⟨x0, x1, x2⟩ : Bx w1 w.heap.size l (.slice a1 n c1) (.slice a2 m c2) := Bx.keep ⟨by simp [go_sem], by simp [go_sem], by simp [go_sem]⟩ hw))
        simp [bodyPost, results, Try.results30, go_sem]
        exact ⟨OwnB.nil _ _, B1⟩
    · rw [(fix_bad h0 hE).1, (fix_bad h0 hE).2]
      generalize wantE l X ts false = E at *
      have he : (E == 0) = false := by simpa using hE
      clear hE h0 D
      generalize X.length = n at *
      generalize ts.length = m at *
      go_enter Try.func30, Try.ntmps30
      go_wp2_with ((with_reducible refine (C.out _).mono ?_); rintro e1 w1 ⟨rfl, hw⟩; (have B1 : Below w.heap.size w w1 := ((Below.refl w.heap.size w).alloc (Nat.le_refl _) _).trans (hw.mono (by simp))); (obtain ⟨x0, x1, x2⟩ : Bx w1 w.heap.size l (.slice a1 n c1) (.slice a2 m c2) := Bx.keep ⟨by simp [go_sem], by simp [go_sem], by simp [go_sem]⟩ hw))
      simp [bodyPost, results, Try.results30, go_sem]
      exact ⟨OwnB.nil _ _, B1⟩
/-- A number 0 in a block that may be written. -/
def Rz (W : World) (b : Nat) : Prop := W.cell? ⟨b, 0, none⟩ = some (.int .u64 0) ∧ W.cell? ⟨b, 1, none⟩ = some (.int .u64 0) ∧ W.cell? ⟨b, 2, none⟩ = some (.int .u64 0) ∧ W.cell? ⟨b, 3, none⟩ = some (.int .u64 0) ∧ W.frozen? ⟨b, 0, none⟩ = false ∧ W.frozen? ⟨b, 1, none⟩ = false ∧ W.frozen? ⟨b, 2, none⟩ = false ∧ W.frozen? ⟨b, 3, none⟩ = false
theorem Rz.keep {W w1 : World} {b : Nat} (x : Rz W b) (hlt : b < W.heap.size) (hb : Below W.heap.size W w1) : Rz w1 b := ⟨keepC hb x.1, keepC hb x.2.1, keepC hb x.2.2.1, keepC hb x.2.2.2.1, by rw [hb.frozen (p := ⟨b, 0, none⟩) hlt]; exact x.2.2.2.2.1, by rw [hb.frozen (p := ⟨b, 1, none⟩) hlt]; exact x.2.2.2.2.2.1, by rw [hb.frozen (p := ⟨b, 2, none⟩) hlt]; exact x.2.2.2.2.2.2.1, by rw [hb.frozen (p := ⟨b, 3, none⟩) hlt]; exact x.2.2.2.2.2.2.2⟩
theorem below_four {w w1 : World} (B : Below w.heap.size w w1) (u0 u1 u2 u3 : Value) : Below w.heap.size w ((((w1.setCell ⟨w.heap.size + 1, 0, none⟩ u0).setCell ⟨w.heap.size + 1, 1, none⟩ u1).setCell ⟨w.heap.size + 1, 2, none⟩ u2).setCell ⟨w.heap.size + 1, 3, none⟩ u3) :=
  (((B.setCell (by show w.heap.size ≤ w.heap.size + 1; omega) _).setCell (by show w.heap.size ≤ w.heap.size + 1; omega) _).setCell (by show w.heap.size ≤ w.heap.size + 1; omega) _).setCell (by show w.heap.size ≤ w.heap.size + 1; omega) _
set_option maxRecDepth 100000 in
set_option maxHeartbeats 4000000 in
theorem getNumber_all {l : Bool} {X : List Int} {ts : List Tr} {a2 : Option Addr} {g c1 c2 : Nat} (k : Nat) (hk : k ≤ 32) (hX : Byts X) (w : World) (hz : Bz w g 0 X) :
    Calls Try.prog 50 #[.agg #[.bool l, .slice (some ⟨g, 0, none⟩) X.length c1, .slice a2 ts.length c2], .int .i64 (k : Int)] w fun e w' => e = .returned (.tuple #[.agg #[.int .u64 (l0 (numV l X ts k)), .int .u64 (l1 (numV l X ts k)), .int .u64 (l2 (numV l X ts k)), .int .u64 (l3 (numV l X ts k))], .int .i64 (numE l X ts k)]) ∧ Below w.heap.size w w' := by
  have C : Hid (∀ w, Calls Try.prog 48 #[.agg #[.bool l, .slice (some ⟨g, 0, none⟩) X.length c1, .slice a2 ts.length c2], .bool false] w fun e w' => e = .returned (.int .i64 (wantE l X ts false)) ∧ Below w.heap.size w w') := fun w => checkKind_any w
  have D : Hid (∀ W, Below w.heap.size w W → Calls Try.prog 64 #[.slice (some ⟨g, 0, none⟩) X.length c1] W fun e w' => e = .returned (.tuple #[.agg #[.int .u64 (l0 (sv X)), .int .u64 (l1 (sv X)), .int .u64 (l2 (sv X)), .int .u64 (l3 (sv X))], .int .i64 (se X)]) ∧ Below W.heap.size W w') := fun W B => strict_all hX W (hz.keep B)
  clear hz hX
  by_cases hE : wantE l X ts false = 0
  · rw [hE] at C
    by_cases h1 : k < X.length
    · rw [(num_long hE h1).1, (num_long hE h1).2]
      have h1' : (k : Int) < (X.length : Int) := by omega
      clear D hE h1 hk
      obtain ⟨z0, z1, z2, z3⟩ := zero_limbs
      rw [z0, z1, z2, z3]
      clear z0 z1 z2 z3
      generalize X.length = n at *
      generalize ts.length = m at *
      go_enter Try.func50, Try.ntmps50
      go_wp2_with ((with_reducible refine (C.out _).mono ?_); rintro e1 w1 ⟨rfl, hw⟩; (have B1 : Below w.heap.size w w1 := (((Below.refl w.heap.size w).alloc (Nat.le_refl _) _).alloc (by simp) _).trans (hw.mono (by simp; omega))); (obtain ⟨x0, x1, x2⟩ : Bx w1 w.heap.size l (.slice (some ⟨g, 0, none⟩) n c1) (.slice a2 m c2) := Bx.keep ⟨by simp [go_sem], by simp [go_sem], by simp [go_sem]⟩ hw); (obtain ⟨r0, r1, r2, r3, f0, f1, f2, f3⟩ : Rz w1 (w.heap.size + 1) := Rz.keep ⟨by simp [go_sem], by simp [go_sem], by simp [go_sem], by simp [go_sem], by simp [go_sem], by simp [go_sem], by simp [go_sem], by simp [go_sem]⟩ (by simp) hw))
      simp [bodyPost, results, Try.results50, go_sem, r0, r1, r2, r3]
      exact below_four B1 _ _ _ _
    · have h1' : ¬ ((k : Int) < (X.length : Int)) := by omega
      have h1'' : decide ((k : Int) < (X.length : Int)) = false := decide_eq_false h1'
      have h32 : X.length ≤ 32 := by omega
      by_cases h2 : X ≠ [] ∧ X.getD 0 0 = 0
      · rw [(num_lead hE h1 h2).1, (num_lead hE h1 h2).2]
        have es : se X = 13 := by unfold se; rw [if_pos h32, if_pos h2]
        have ev : sv X = 0 := by unfold sv; rw [if_pos h32, if_pos h2]
        rw [es, ev] at D
        obtain ⟨z0, z1, z2, z3⟩ := zero_limbs
        rw [z0, z1, z2, z3] at D ⊢
        clear z0 z1 z2 z3 es ev h2 h32 h1' h1'' hE hk
        generalize X.length = n at *
        generalize ts.length = m at *
        go_enter Try.func50, Try.ntmps50
        refine wp_seq_k fun K h => ?_
        have H : Hid _ := h
        clear h
        go_wp2_with fail
        refine H.out _ _ ?_
        clear H K
        refine wp_seq_k fun K h => ?_
        have H : Hid _ := h
        clear h
        go_wp2_with ((with_reducible refine (C.out _).mono ?_); rintro e1 w1 ⟨rfl, hw⟩; (have B1 : Below w.heap.size w w1 := (((Below.refl w.heap.size w).alloc (Nat.le_refl _) _).alloc (by simp) _).trans (hw.mono (by simp; omega))); (obtain ⟨x0, x1, x2⟩ : Bx w1 w.heap.size l (.slice (some ⟨g, 0, none⟩) n c1) (.slice a2 m c2) := Bx.keep ⟨by simp [go_sem], by simp [go_sem], by simp [go_sem]⟩ hw); (obtain ⟨r0, r1, r2, r3, f0, f1, f2, f3⟩ : Rz w1 (w.heap.size + 1) := Rz.keep ⟨by simp [go_sem], by simp [go_sem], by simp [go_sem], by simp [go_sem], by simp [go_sem], by simp [go_sem], by simp [go_sem], by simp [go_sem]⟩ (by simp) hw))
        refine H.out _ _ ?_
        clear H K
        refine wp_seq_k fun K h => ?_
        have H : Hid _ := h
        clear h
        go_wp2_with fail
        refine H.out _ _ ?_
        clear H K
        refine wp_seq_k fun K h => ?_
        have H : Hid _ := h
        clear h
        go_wp2_with ((with_reducible refine (D.out _ B1).mono ?_); rintro e2 w2 ⟨rfl, hw2⟩)
        refine H.out _ _ ?_
        clear H K
        have Q2 : Rz w2 (w.heap.size + 1) := Rz.keep ⟨r0, r1, r2, r3, f0, f1, f2, f3⟩ (World.block_lt_of_cell? _ _ r0) hw2
        have B2 := B1.trans (hw2.mono B1.size)
        refine wp_world (fun U => Below w.heap.size w U ∧ Rz U (w.heap.size + 1) ∧ U.cell? ⟨w2.heap.size, 0, none⟩ = some (.int .u64 (0)) ∧ U.cell? ⟨w2.heap.size, 1, none⟩ = some (.int .u64 (0)) ∧ U.cell? ⟨w2.heap.size, 2, none⟩ = some (.int .u64 (0)) ∧ U.cell? ⟨w2.heap.size, 3, none⟩ = some (.int .u64 (0))) ⟨B2.alloc B2.size _, Q2.keep (World.block_lt_of_cell? _ _ Q2.1) ((Below.refl _ _).alloc (Nat.le_refl _) _), by simp [go_sem], by simp [go_sem], by simp [go_sem], by simp [go_sem]⟩ ?_
        clear B2 Q2 hw2 r0 r1 r2 r3 f0 f1 f2 f3 x0 x1 x2 hw B1 C D
        generalize w2.heap.size = bv
        clear w2
        rintro U ⟨B2, ⟨r0, r1, r2, r3, f0, f1, f2, f3⟩, v0, v1, v2, v3⟩
        go_wp2
        simp [bodyPost, results, Try.results50, go_sem, r0, r1, r2, r3]
        exact below_four B2 _ _ _ _
      · rw [(num_ok hE h1 h2).1, (num_ok hE h1 h2).2]
        have es : se X = 0 := by unfold se; rw [if_pos h32, if_neg h2]
        have ev : sv X = sufN X X.length := by unfold sv; rw [if_pos h32, if_neg h2]
        rw [es, ev] at D
        clear es ev h2 h32 h1' h1'' hE hk
        generalize sufN X X.length = V at *
        generalize X.length = n at *
        generalize ts.length = m at *
        go_enter Try.func50, Try.ntmps50
        refine wp_seq_k fun K h => ?_
        have H : Hid _ := h
        clear h
        go_wp2_with fail
        refine H.out _ _ ?_
        clear H K
        refine wp_seq_k fun K h => ?_
        have H : Hid _ := h
        clear h
        go_wp2_with ((with_reducible refine (C.out _).mono ?_); rintro e1 w1 ⟨rfl, hw⟩; (have B1 : Below w.heap.size w w1 := (((Below.refl w.heap.size w).alloc (Nat.le_refl _) _).alloc (by simp) _).trans (hw.mono (by simp; omega))); (obtain ⟨x0, x1, x2⟩ : Bx w1 w.heap.size l (.slice (some ⟨g, 0, none⟩) n c1) (.slice a2 m c2) := Bx.keep ⟨by simp [go_sem], by simp [go_sem], by simp [go_sem]⟩ hw); (obtain ⟨r0, r1, r2, r3, f0, f1, f2, f3⟩ : Rz w1 (w.heap.size + 1) := Rz.keep ⟨by simp [go_sem], by simp [go_sem], by simp [go_sem], by simp [go_sem], by simp [go_sem], by simp [go_sem], by simp [go_sem], by simp [go_sem]⟩ (by simp) hw))
        refine H.out _ _ ?_
        clear H K
        refine wp_seq_k fun K h => ?_
        have H : Hid _ := h
        clear h
        go_wp2_with fail
        refine H.out _ _ ?_
        clear H K
        refine wp_seq_k fun K h => ?_
        have H : Hid _ := h
        clear h
        go_wp2_with ((with_reducible refine (D.out _ B1).mono ?_); rintro e2 w2 ⟨rfl, hw2⟩)
        refine H.out _ _ ?_
        clear H K
        have Q2 : Rz w2 (w.heap.size + 1) := Rz.keep ⟨r0, r1, r2, r3, f0, f1, f2, f3⟩ (World.block_lt_of_cell? _ _ r0) hw2
        have B2 := B1.trans (hw2.mono B1.size)
        refine wp_world (fun U => Below w.heap.size w U ∧ Rz U (w.heap.size + 1) ∧ U.cell? ⟨w2.heap.size, 0, none⟩ = some (.int .u64 (l0 V)) ∧ U.cell? ⟨w2.heap.size, 1, none⟩ = some (.int .u64 (l1 V)) ∧ U.cell? ⟨w2.heap.size, 2, none⟩ = some (.int .u64 (l2 V)) ∧ U.cell? ⟨w2.heap.size, 3, none⟩ = some (.int .u64 (l3 V))) ⟨B2.alloc B2.size _, Q2.keep (World.block_lt_of_cell? _ _ Q2.1) ((Below.refl _ _).alloc (Nat.le_refl _) _), by simp [go_sem], by simp [go_sem], by simp [go_sem], by simp [go_sem]⟩ ?_
        clear B2 Q2 hw2 r0 r1 r2 r3 f0 f1 f2 f3 x0 x1 x2 hw B1 C D
        generalize w2.heap.size = bv
        clear w2
        rintro U ⟨B2, ⟨r0, r1, r2, r3, f0, f1, f2, f3⟩, v0, v1, v2, v3⟩
        go_wp2
        simp [bodyPost, results, Try.results50, go_sem, r0, r1, r2, r3]
        exact below_four B2 _ _ _ _
  · rw [(num_bad hE).1, (num_bad hE).2]
    generalize wantE l X ts false = E at *
    have he : (E == 0) = false := by simpa using hE
    clear D hE
    obtain ⟨z0, z1, z2, z3⟩ := zero_limbs
    rw [z0, z1, z2, z3]
    clear z0 z1 z2 z3
    generalize X.length = n at *
    generalize ts.length = m at *
    go_enter Try.func50, Try.ntmps50
    go_wp2_with ((with_reducible refine (C.out _).mono ?_); rintro e1 w1 ⟨rfl, hw⟩; (have B1 : Below w.heap.size w w1 := (((Below.refl w.heap.size w).alloc (Nat.le_refl _) _).alloc (by simp) _).trans (hw.mono (by simp; omega))); (obtain ⟨x0, x1, x2⟩ : Bx w1 w.heap.size l (.slice (some ⟨g, 0, none⟩) n c1) (.slice a2 m c2) := Bx.keep ⟨by simp [go_sem], by simp [go_sem], by simp [go_sem]⟩ hw); (obtain ⟨r0, r1, r2, r3, f0, f1, f2, f3⟩ : Rz w1 (w.heap.size + 1) := Rz.keep ⟨by simp [go_sem], by simp [go_sem], by simp [go_sem], by simp [go_sem], by simp [go_sem], by simp [go_sem], by simp [go_sem], by simp [go_sem]⟩ (by simp) hw))
    simp [bodyPost, results, Try.results50, go_sem, r0, r1, r2, r3]
    exact below_four B1 _ _ _ _
end Go.Proofs.Ytdjjphcfobbipaa

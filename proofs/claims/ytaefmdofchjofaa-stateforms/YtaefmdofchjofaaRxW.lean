import Derived.Test.YtaefmdofchjofaaRxR
/- Layer 7: what is read of an item: numbers, the document's side. -/
namespace Go.Proofs.Ytaefmdofchjofaa
open Go.RowKit Go.Sort
set_option maxRecDepth 100000 in
set_option maxHeartbeats 4000000 in
theorem rnarrow_all {l : Bool} {X : List Int} {ts : List Tr} {a1 a2 : Option Addr} {b o c1 c2 : Nat} (k : Nat) (hk : k ≤ 32) (hX : Byts X) (ha : Az a1 b o X) (w : World) (hz : Bz w b o X) :
    Calls Try.prog 47 #[.agg #[.bool l, .slice a1 X.length c1, .slice a2 ts.length c2], .int .i64 (k : Int)] w fun e w' => e = .returned (.tuple #[.agg #[.int .u64 (l0 (numV l X ts k)), .int .u64 (l1 (numV l X ts k)), .int .u64 (l2 (numV l X ts k)), .int .u64 (l3 (numV l X ts k))], .int .i64 (numE l X ts k)]) ∧ Below w.heap.size w w' := by
  have C : Hid (∀ w, Calls Try.prog 65 #[.agg #[.bool l, .slice a1 X.length c1, .slice a2 ts.length c2], .bool false] w fun e w' => e = .returned (.int .i64 (wantE l X ts false)) ∧ Below w.heap.size w w') := fun w => rwanted_any w
  have D : Hid (∀ W, Below w.heap.size w W → Calls Try.prog 66 #[.slice a1 X.length c1] W fun e w' => e = .returned (.tuple #[.agg #[.int .u64 (l0 (gv X)), .int .u64 (l1 (gv X)), .int .u64 (l2 (gv X)), .int .u64 (l3 (gv X))], .int .i64 (ge X)]) ∧ Below W.heap.size W w') := fun W B => rget_all hX ha W (hz.keep B)
  have HZ : Hid (∀ W, Below w.heap.size w W → Bz W b o X) := fun W B => hz.keep B
  have HA : Hid (Az a1 b o X) := ha
  clear hz hX ha
  by_cases hE : wantE l X ts false = 0
  · rw [hE] at C
    by_cases h1 : k < X.length
    · rw [(num_long hE h1).1, (num_long hE h1).2]
      have h1' : (k : Int) < (X.length : Int) := by omega
      clear D hE h1 hk HZ HA
      obtain ⟨z0, z1, z2, z3⟩ := zero_limbs
      rw [z0, z1, z2, z3]
      clear z0 z1 z2 z3
      generalize X.length = n at *
      generalize ts.length = m at *
      go_enter Try.func47, Try.ntmps47
      go_wp2_with ((with_reducible refine (C.out _).mono ?_); rintro e1 w1 ⟨rfl, hw⟩; (have B1 : Below w.heap.size w w1 := (((Below.refl w.heap.size w).alloc (Nat.le_refl _) _).alloc (by simp) _).trans (hw.mono (by simp; omega))); (obtain ⟨x0, x1, x2⟩ : Bx w1 w.heap.size l (.slice a1 n c1) (.slice a2 m c2) := Bx.keep ⟨by simp [go_sem], by simp [go_sem], by simp [go_sem]⟩ hw); (obtain ⟨r0, r1, r2, r3, f0, f1, f2, f3⟩ : Rz w1 (w.heap.size + 1) := Rz.keep ⟨by simp [go_sem], by simp [go_sem], by simp [go_sem], by simp [go_sem], by simp [go_sem], by simp [go_sem], by simp [go_sem], by simp [go_sem]⟩ (by simp) hw))
      simp [bodyPost, results, Try.results47, go_sem, r0, r1, r2, r3]
      exact below_four B1 _ _ _ _
    · have h32 : X.length ≤ 32 := by omega
      by_cases h2 : X ≠ [] ∧ X.getD 0 0 = 0
      · rw [(num_lead hE h1 h2).1, (num_lead hE h1 h2).2]
        have hp : 0 < X.length := List.length_pos_iff.2 h2.1
        have hp' : (0 : Int) < (X.length : Int) := by omega
        obtain rfl := HA.out.cons hp
        have HC : Hid (∀ W, Below w.heap.size w W → W.cell? ⟨b, o, none⟩ = some (.int .u8 0)) := fun W B => by
          have := HZ.out W B 0 hp
          rw [h2.2] at this
          exact this
        obtain ⟨z0, z1, z2, z3⟩ := zero_limbs
        rw [z0, z1, z2, z3]
        clear z0 z1 z2 z3 h2 h32 hE hk D HZ HA
        generalize X.length = n at *
        generalize ts.length = m at *
        go_enter Try.func47, Try.ntmps47
        refine wp_seq_k fun K h => ?_
        have H : Hid _ := h
        clear h
        go_wp2_with fail
        refine H.out _ _ ?_
        clear H K
        refine wp_seq_k fun K h => ?_
        have H : Hid _ := h
        clear h
        go_wp2_with ((with_reducible refine (C.out _).mono ?_); rintro e1 w1 ⟨rfl, hw⟩; (have B1 : Below w.heap.size w w1 := (((Below.refl w.heap.size w).alloc (Nat.le_refl _) _).alloc (by simp) _).trans (hw.mono (by simp; omega))); (obtain ⟨x0, x1, x2⟩ : Bx w1 w.heap.size l (.slice (some ⟨b, o, none⟩) n c1) (.slice a2 m c2) := Bx.keep ⟨by simp [go_sem], by simp [go_sem], by simp [go_sem]⟩ hw); (obtain ⟨r0, r1, r2, r3, f0, f1, f2, f3⟩ : Rz w1 (w.heap.size + 1) := Rz.keep ⟨by simp [go_sem], by simp [go_sem], by simp [go_sem], by simp [go_sem], by simp [go_sem], by simp [go_sem], by simp [go_sem], by simp [go_sem]⟩ (by simp) hw))
        refine H.out _ _ ?_
        clear H K
        have cb := HC.out w1 B1
        go_wp2
        simp [bodyPost, results, Try.results47, go_sem, r0, r1, r2, r3]
        exact below_four B1 _ _ _ _
      · rw [(num_ok hE h1 h2).1, (num_ok hE h1 h2).2]
        have ev : gv X = sufN X X.length := by unfold gv; rw [if_pos h32]
        rw [ev] at D
        have HC : Hid (X.length = 0 ∨ (a1 = some ⟨b, o, none⟩ ∧ 0 < X.length ∧ ∃ u, (u == 0) = false ∧ ∀ W, Below w.heap.size w W → W.cell? ⟨b, o, none⟩ = some (.int .u8 u))) := by
          by_cases h0 : X = []
          · exact Or.inl (by rw [h0]; rfl)
          · have hp : 0 < X.length := List.length_pos_iff.2 h0
            refine Or.inr ⟨HA.out.cons hp, hp, X.getD 0 0, ?_, fun W B => HZ.out W B 0 hp⟩
            simpa using fun e => h2 ⟨h0, e⟩
        clear ev h2 h32 hE hk HZ HA
        generalize ge X = G at *
        generalize sufN X X.length = V at *
        generalize X.length = n at *
        generalize ts.length = m at *
        go_enter Try.func47, Try.ntmps47
        refine wp_seq_k fun K h => ?_
        have H : Hid _ := h
        clear h
        go_wp2_with fail
        refine H.out _ _ ?_
        clear H K
        refine wp_seq_k fun K h => ?_
        have H : Hid _ := h
        clear h
        go_wp2_with ((with_reducible refine (C.out _).mono ?_); rintro e1 w1 ⟨rfl, hw⟩; (have B1 : Below w.heap.size w w1 := (((Below.refl w.heap.size w).alloc (Nat.le_refl _) _).alloc (by simp) _).trans (hw.mono (by simp; omega))); (obtain ⟨x0, x1, x2⟩ : Bx w1 w.heap.size l (.slice a1 n c1) (.slice a2 m c2) := Bx.keep ⟨by simp [go_sem], by simp [go_sem], by simp [go_sem]⟩ hw); (obtain ⟨r0, r1, r2, r3, f0, f1, f2, f3⟩ : Rz w1 (w.heap.size + 1) := Rz.keep ⟨by simp [go_sem], by simp [go_sem], by simp [go_sem], by simp [go_sem], by simp [go_sem], by simp [go_sem], by simp [go_sem], by simp [go_sem]⟩ (by simp) hw))
        refine H.out _ _ ?_
        clear H K
        refine wp_seq_k fun K h => ?_
        have H : Hid _ := h
        clear h
        go_wp2_with fail
        refine H.out _ _ ?_
        clear H K
        refine wp_seq_k fun K h => ?_
        have H : Hid _ := h
        clear h
        go_wp2_with fail
        refine H.out _ _ ?_
        clear H K
        refine wp_seq_k fun K h => ?_
        have H : Hid _ := h
        clear h
        rcases HC.out with e | ⟨e, hp, u, hu, hcl⟩
        · subst e
          go_wp2_with fail
          refine H.out _ _ ?_
          clear H K
          refine wp_seq_k fun K h => ?_
          have H : Hid _ := h
          clear h
          go_wp2_with ((with_reducible refine (D.out _ B1).mono ?_); rintro e2 w2 ⟨rfl, hw2⟩)
          refine H.out _ _ ?_
          clear H K
          have Q2 : Rz w2 (w.heap.size + 1) := Rz.keep ⟨r0, r1, r2, r3, f0, f1, f2, f3⟩ (World.block_lt_of_cell? _ _ r0) hw2
          have B2 := B1.trans (hw2.mono B1.size)
          refine wp_world (fun U => Below w.heap.size w U ∧ Rz U (w.heap.size + 1) ∧ U.cell? ⟨w2.heap.size, 0, none⟩ = some (.int .u64 (l0 V)) ∧ U.cell? ⟨w2.heap.size, 1, none⟩ = some (.int .u64 (l1 V)) ∧ U.cell? ⟨w2.heap.size, 2, none⟩ = some (.int .u64 (l2 V)) ∧ U.cell? ⟨w2.heap.size, 3, none⟩ = some (.int .u64 (l3 V))) ⟨B2.alloc B2.size _, Q2.keep (World.block_lt_of_cell? _ _ Q2.1) ((Below.refl _ _).alloc (Nat.le_refl _) _), by simp [go_sem], by simp [go_sem], by simp [go_sem], by simp [go_sem]⟩ ?_
          clear B2 Q2 hw2 r0 r1 r2 r3 f0 f1 f2 f3 x0 x1 x2 hw B1 C D
          generalize w2.heap.size = bv
          clear w2
          rintro U ⟨B2, ⟨r0, r1, r2, r3, f0, f1, f2, f3⟩, v0, v1, v2, v3⟩
          go_wp2
          simp [bodyPost, results, Try.results47, go_sem, r0, r1, r2, r3]
          exact below_four B2 _ _ _ _
        · subst e
          have hp' : (0 : Int) < (n : Int) := by omega
          have cb := hcl w1 B1
          go_wp2_with fail
          refine H.out _ _ ?_
          clear H K
          refine wp_seq_k fun K h => ?_
          have H : Hid _ := h
          clear h
          go_wp2_with ((with_reducible refine (D.out _ B1).mono ?_); rintro e2 w2 ⟨rfl, hw2⟩)
          refine H.out _ _ ?_
          clear H K
          have Q2 : Rz w2 (w.heap.size + 1) := Rz.keep ⟨r0, r1, r2, r3, f0, f1, f2, f3⟩ (World.block_lt_of_cell? _ _ r0) hw2
          have B2 := B1.trans (hw2.mono B1.size)
          refine wp_world (fun U => Below w.heap.size w U ∧ Rz U (w.heap.size + 1) ∧ U.cell? ⟨w2.heap.size, 0, none⟩ = some (.int .u64 (l0 V)) ∧ U.cell? ⟨w2.heap.size, 1, none⟩ = some (.int .u64 (l1 V)) ∧ U.cell? ⟨w2.heap.size, 2, none⟩ = some (.int .u64 (l2 V)) ∧ U.cell? ⟨w2.heap.size, 3, none⟩ = some (.int .u64 (l3 V))) ⟨B2.alloc B2.size _, Q2.keep (World.block_lt_of_cell? _ _ Q2.1) ((Below.refl _ _).alloc (Nat.le_refl _) _), by simp [go_sem], by simp [go_sem], by simp [go_sem], by simp [go_sem]⟩ ?_
          clear B2 Q2 hw2 r0 r1 r2 r3 f0 f1 f2 f3 x0 x1 x2 hw B1 C D
          generalize w2.heap.size = bv
          clear w2
          rintro U ⟨B2, ⟨r0, r1, r2, r3, f0, f1, f2, f3⟩, v0, v1, v2, v3⟩
          go_wp2
          simp [bodyPost, results, Try.results47, go_sem, r0, r1, r2, r3]
          exact below_four B2 _ _ _ _
  · rw [(num_bad hE).1, (num_bad hE).2]
    generalize wantE l X ts false = E at *
    have he : (E == 0) = false := by simpa using hE
    clear D hE HZ HA
    obtain ⟨z0, z1, z2, z3⟩ := zero_limbs
    rw [z0, z1, z2, z3]
    clear z0 z1 z2 z3
    generalize X.length = n at *
    generalize ts.length = m at *
    go_enter Try.func47, Try.ntmps47
    go_wp2_with ((with_reducible refine (C.out _).mono ?_); rintro e1 w1 ⟨rfl, hw⟩; (have B1 : Below w.heap.size w w1 := (((Below.refl w.heap.size w).alloc (Nat.le_refl _) _).alloc (by simp) _).trans (hw.mono (by simp; omega))); (obtain ⟨x0, x1, x2⟩ : Bx w1 w.heap.size l (.slice a1 n c1) (.slice a2 m c2) := Bx.keep ⟨by simp [go_sem], by simp [go_sem], by simp [go_sem]⟩ hw); (obtain ⟨r0, r1, r2, r3, f0, f1, f2, f3⟩ : Rz w1 (w.heap.size + 1) := Rz.keep ⟨by simp [go_sem], by simp [go_sem], by simp [go_sem], by simp [go_sem], by simp [go_sem], by simp [go_sem], by simp [go_sem], by simp [go_sem]⟩ (by simp) hw))
    simp [bodyPost, results, Try.results47, go_sem, r0, r1, r2, r3]
    exact below_four B1 _ _ _ _
set_option maxRecDepth 100000 in
set_option maxHeartbeats 4000000 in
theorem getNumber_any {l : Bool} {X : List Int} {ts : List Tr} {a2 : Option Addr} {g c1 c2 : Nat} (hX : Byts X) (w : World) (hz : Bz w g 0 X) :
    Calls Try.prog 26 #[.agg #[.bool l, .slice (some ⟨g, 0, none⟩) X.length c1, .slice a2 ts.length c2]] w fun e w' => e = .returned (.tuple #[.agg #[.int .u64 (l0 (numV l X ts 32)), .int .u64 (l1 (numV l X ts 32)), .int .u64 (l2 (numV l X ts 32)), .int .u64 (l3 (numV l X ts 32))], .int .i64 (numE l X ts 32)]) ∧ Below w.heap.size w w' := by
  have C : Hid (∀ W, Below w.heap.size w W → Calls Try.prog 44 #[.agg #[.bool l, .slice (some ⟨g, 0, none⟩) X.length c1, .slice a2 ts.length c2], .int .i64 32] W fun e w' => e = .returned (.tuple #[.agg #[.int .u64 (l0 (numV l X ts 32)), .int .u64 (l1 (numV l X ts 32)), .int .u64 (l2 (numV l X ts 32)), .int .u64 (l3 (numV l X ts 32))], .int .i64 (numE l X ts 32)]) ∧ Below W.heap.size W w') := fun W B => getNumber_all 32 (by decide) hX W (hz.keep B)
  generalize numV l X ts 32 = V at *
  generalize numE l X ts 32 = E at *
  clear hX hz
  generalize X.length = n at *
  generalize ts.length = m at *
  go_enter Try.func26, Try.ntmps26
  go_wp2_with ((with_reducible refine (C.out _ (((Below.refl _ _).alloc (Nat.le_refl _) _).alloc (by simp) _)).mono ?_); rintro e1 w1 ⟨rfl, hw⟩; (have B1 : Below w.heap.size w w1 := (((Below.refl w.heap.size w).alloc (Nat.le_refl _) _).alloc (by simp) _).trans (hw.mono (by simp; omega))); (obtain ⟨r0, r1, r2, r3, f0, f1, f2, f3⟩ : Rz w1 (w.heap.size + 1) := Rz.keep ⟨by simp [go_sem], by simp [go_sem], by simp [go_sem], by simp [go_sem], by simp [go_sem], by simp [go_sem], by simp [go_sem], by simp [go_sem]⟩ (by simp) hw))
  simp [bodyPost, results, Try.results26, go_sem, r0, r1, r2, r3]
  exact below_four B1 _ _ _ _
set_option maxRecDepth 100000 in
set_option maxHeartbeats 4000000 in
theorem rGetNumber_any {l : Bool} {X : List Int} {ts : List Tr} {a1 a2 : Option Addr} {b o c1 c2 : Nat} (hX : Byts X) (ha : Az a1 b o X) (w : World) (hz : Bz w b o X) :
    Calls Try.prog 30 #[.agg #[.bool l, .slice a1 X.length c1, .slice a2 ts.length c2]] w fun e w' => e = .returned (.tuple #[.agg #[.int .u64 (l0 (numV l X ts 32)), .int .u64 (l1 (numV l X ts 32)), .int .u64 (l2 (numV l X ts 32)), .int .u64 (l3 (numV l X ts 32))], .int .i64 (numE l X ts 32)]) ∧ Below w.heap.size w w' := by
  have C : Hid (∀ W, Below w.heap.size w W → Calls Try.prog 47 #[.agg #[.bool l, .slice a1 X.length c1, .slice a2 ts.length c2], .int .i64 32] W fun e w' => e = .returned (.tuple #[.agg #[.int .u64 (l0 (numV l X ts 32)), .int .u64 (l1 (numV l X ts 32)), .int .u64 (l2 (numV l X ts 32)), .int .u64 (l3 (numV l X ts 32))], .int .i64 (numE l X ts 32)]) ∧ Below W.heap.size W w') := fun W B => rnarrow_all 32 (by decide) hX ha W (hz.keep B)
  generalize numV l X ts 32 = V at *
  generalize numE l X ts 32 = E at *
  clear hX hz ha
  generalize X.length = n at *
  generalize ts.length = m at *
  go_enter Try.func30, Try.ntmps30
  go_wp2_with ((with_reducible refine (C.out _ (((Below.refl _ _).alloc (Nat.le_refl _) _).alloc (by simp) _)).mono ?_); rintro e1 w1 ⟨rfl, hw⟩; (have B1 : Below w.heap.size w w1 := (((Below.refl w.heap.size w).alloc (Nat.le_refl _) _).alloc (by simp) _).trans (hw.mono (by simp; omega))); (obtain ⟨r0, r1, r2, r3, f0, f1, f2, f3⟩ : Rz w1 (w.heap.size + 1) := Rz.keep ⟨by simp [go_sem], by simp [go_sem], by simp [go_sem], by simp [go_sem], by simp [go_sem], by simp [go_sem], by simp [go_sem], by simp [go_sem]⟩ (by simp) hw))
  simp [bodyPost, results, Try.results30, go_sem, r0, r1, r2, r3]
  exact below_four B1 _ _ _ _
set_option maxRecDepth 100000 in
set_option maxHeartbeats 4000000 in
theorem rGetSmall_any {l : Bool} {X : List Int} {ts : List Tr} {a1 a2 : Option Addr} {b o c1 c2 : Nat} (hX : Byts X) (ha : Az a1 b o X) (w : World) (hz : Bz w b o X) :
    Calls Try.prog 29 #[.agg #[.bool l, .slice a1 X.length c1, .slice a2 ts.length c2]] w fun e w' => e = .returned (.tuple #[.int .u64 (l0 (numV l X ts 8)), .int .i64 (numE l X ts 8)]) ∧ Below w.heap.size w w' := by
  have C : Hid (∀ W, Below w.heap.size w W → Calls Try.prog 47 #[.agg #[.bool l, .slice a1 X.length c1, .slice a2 ts.length c2], .int .i64 8] W fun e w' => e = .returned (.tuple #[.agg #[.int .u64 (l0 (numV l X ts 8)), .int .u64 (l1 (numV l X ts 8)), .int .u64 (l2 (numV l X ts 8)), .int .u64 (l3 (numV l X ts 8))], .int .i64 (numE l X ts 8)]) ∧ Below W.heap.size W w') := fun W B => rnarrow_all 8 (by decide) hX ha W (hz.keep B)
  generalize numV l X ts 8 = V at *
  generalize numE l X ts 8 = E at *
  clear hX hz ha
  generalize X.length = n at *
  generalize ts.length = m at *
  go_enter Try.func29, Try.ntmps29
  go_wp2_with ((with_reducible refine (C.out _ ((Below.refl _ _).alloc (Nat.le_refl _) _)).mono ?_); rintro e1 w1 ⟨rfl, hw⟩; (have B1 : Below w.heap.size w w1 := ((Below.refl w.heap.size w).alloc (Nat.le_refl _) _).trans (hw.mono (by simp))))
  simp [bodyPost, results, Try.results29, go_sem]
  exact B1.alloc B1.size _
end Go.Proofs.Ytaefmdofchjofaa

import Derived.Test.YtndefnomefdhoaaDoorBmV
/- BloomAdds: the law. -/
namespace Go.Proofs.YtndefnomefdhoaaDoor
open Go.RowKit Go.Sort

set_option maxRecDepth 100000 in
set_option maxHeartbeats 8000000 in
theorem stays_any {a : Option Addr} {b o c g : Nat} {X : List (BitVec 8)} (hl : X.length < 140737488355328) (ha : At a b o X) (w : World) (hX : Byo w b o X) (hG : Row8 w g (X ++ List.replicate 9 165)) :
    Calls Tryd.prog 18 #[.slice (some ⟨g, 0, none⟩) X.length (X.length + 9), .slice a X.length c] w fun e w' => e = .returned (.bool true) ∧ Below w.heap.size w w' := by
  have n1 : (X.length : Int) < 140737488355328 := by omega
  have HG : Hid (Row8 w g (X ++ List.replicate 9 165)) := hG
  have sm := same_yes (a := some ⟨g, 0, none⟩) (b := g) (o := 0) (c := X.length + 9) (c' := c) hl (.inr rfl) ha w hG.front hX
  clear ha hX hG hl
  go_enter Tryd.func18, Tryd.ntmps18
  go_wp2_with fail
  refine sm.mono ?_
  clear sm
  rintro e w1 ⟨rfl, hb⟩
  have S1 : Hid (Below w.heap.size w w1) := hb
  clear hb
  have c9 : (X.length : Int) + 9 ≤ ((X.length + 9 : Nat) : Int) := by omega
  have e9 : ((X.length : Int) + 9).toNat = X.length + 9 := by omega
  go_wp2_with fail
  go_loopg [6] 9 (fun k iv wr => ∃ i : Nat, k = 9 - i ∧ i ≤ 9 ∧ iv = .int .i64 ((X.length : Int) + i) ∧ Below w.heap.size w wr)
  case atStart => exact ⟨0, rfl, by decide, by simp, S1.out⟩
  case round =>
    clear S1
    obtain ⟨i, hk, hi9, rfl, B⟩ := hrel
    have HK : Hid (gk = 9 - i) := hk
    clear hk
    by_cases h8 : i = 9
    · subst h8
      go_wp2
      simp [bodyPost, results, Tryd.results18, go_sem]
      exact B
    · have hlt : i < 9 := by omega
      have hlt' : (i : Int) < 9 := by omega
      have e1 : ((X.length : Int) + (i : Int)).toNat = X.length + i := by omega
      have g1 := cell_keep (W := w) (w1 := wr) B (HG.out.1 (X.length + i) (by simp; omega))
      rw [show (X ++ List.replicate 9 (165 : BitVec 8)).getD (X.length + i) 0 = 165 by
        rw [List.getD, List.getElem?_append_right (by omega), Nat.add_sub_cancel_left, List.getElem?_replicate, if_pos hlt]; rfl, show Y 165 = 165 by rw [Y_eq]; rfl, Nat.zero_add] at g1
      clear h8
      have BB : Hid (Below w.heap.size w wr) := B
      clear B
      go_wp2
      go_roundg (9 - (i + 1))
      case measure => have := HK.out; omega
      case rel => exact ⟨i + 1, rfl, by omega, by go_num, BB.out⟩

set_option maxRecDepth 100000 in
set_option maxHeartbeats 16000000 in
theorem adds_any {p : Part} {F : List (BitVec 8)} (hF : F.length = 256) (hl : p.X.length < 140737488351233) (hz : p.a = none → p.c = 0) (w : World) (hp : p.ok w) (hk : KtB w ∧ RtB w) :
    Calls Tryd.prog 5 #[.agg (byts F).toArray, p.val] w fun e w' => e = .returned (.bool true) ∧ Below w.heap.size w w' := by
  have HP : Hid (p.ok w ∧ (KtB w ∧ RtB w) ∧ p.X.length < 140737488351233 ∧ (p.a = none → p.c = 0) ∧ F.length = 256) := ⟨hp, hk, hl, hz, hF⟩
  clear hp hk hl hF hz
  rw [Part.val]
  go_enter Tryd.func5, Tryd.ntmps5
  go_wp2_with fail
  refine calls_world (fun W => Below w.heap.size w W ∧ Blm W w.heap.size F) ⟨(Below.refl _ _).alloc (Nat.le_refl _) _, Blm.new HP.out.2.2.2.2 _ rfl⟩ ?_
  rintro W ⟨B, hF⟩
  have S1 : Hid (Below w.heap.size w W ∧ Blm W w.heap.size F) := ⟨B, hF⟩
  have rm := roomy_any (cd := p.c) (by have := HP.out.2.2.1; omega) (HP.out.1.keep B).1 W (HP.out.1.keep B).2.2
  clear B hF
  refine rm.mono ?_
  clear rm
  rintro e w2 ⟨rfl, hR, hlt, hb⟩
  have S2 : Hid (Below w.heap.size w w2 ∧ Blm w2 w.heap.size F ∧ Row8 w2 W.heap.size (p.X ++ List.replicate 9 165) ∧ W.heap.size < w2.heap.size) := ⟨S1.out.1.trans (hb.mono S1.out.1.size), S1.out.2.keep hb, hR, hlt⟩
  clear hR hlt hb S1
  generalize W.heap.size = g at *
  clear W
  obtain ⟨q, hq⟩ : ∃ q : Part, q = ⟨some ⟨g, 0, none⟩, g, 0, p.X.length + 9, p.X⟩ := ⟨_, rfl⟩
  have QO : Hid (∀ W, Below w2.heap.size w2 W → q.ok W ∧ q.X = p.X ∧ q.val = .slice (some ⟨g, 0, none⟩) p.X.length (p.X.length + 9)) := fun W B => by
    subst hq
    exact ⟨⟨.inr rfl, Nat.le_add_right _ _, S2.out.2.2.1.front.keep B⟩, rfl, rfl⟩
  have WB : Hid (∀ W, Below w2.heap.size w2 W → Below w.heap.size w W) := fun W B => S2.out.1.trans (B.mono S2.out.1.size)
  have C1 : Hid (∀ W, Below w2.heap.size w2 W → Calls Tryd.prog 7 #[.slice (some ⟨g, 0, none⟩) p.X.length (p.X.length + 9)] W fun e w' => e = .returned (.agg (vals (plI p.X 3)).toArray) ∧ Below W.heap.size W w') := fun W B => by
    obtain ⟨q1, q2, q3⟩ := QO.out W B
    have h := places_any (p := q) (by rw [q2]; have := HP.out.2.2.1; omega) W q1 (HP.out.2.1.1.keep (WB.out W B))
    rw [q2, q3] at h
    exact h
  have C2 : Hid (∀ W, Below w2.heap.size w2 W → Calls Tryd.prog 15 #[.slice p.a p.X.length p.c] W fun e w' => e = .returned (.agg (vals (plI p.X 3)).toArray) ∧ Below W.heap.size W w') := fun W B => rplaces_any (p := p) HP.out.2.2.1 HP.out.2.2.2.1 W (HP.out.1.keep (WB.out W B)) (HP.out.2.1.2.keep (WB.out W B))
  have C3 : Hid (∀ W, Below w2.heap.size w2 W → Calls Tryd.prog 10 #[.agg (byts F).toArray, .slice (some ⟨g, 0, none⟩) p.X.length (p.X.length + 9)] W fun e w' => e = .returned (.agg (byts (setsF F (plL p.X))).toArray) ∧ Below W.heap.size W w') := fun W B => by
    obtain ⟨q1, q2, q3⟩ := QO.out W B
    have h := add_any (p := q) HP.out.2.2.2.2 (by rw [q2]; have := HP.out.2.2.1; omega) W q1 (HP.out.2.1.1.keep (WB.out W B))
    rw [q2, q3] at h
    exact h
  have C4 : Hid (∀ W, Below w2.heap.size w2 W → Calls Tryd.prog 16 #[.agg (byts F).toArray, .slice p.a p.X.length p.c] W fun e w' => e = .returned (.agg (byts (setsF F (plL p.X))).toArray) ∧ Below W.heap.size W w') := fun W B => radd_any (p := p) HP.out.2.2.2.2 HP.out.2.2.1 HP.out.2.2.2.1 W (HP.out.1.keep (WB.out W B)) (HP.out.2.1.2.keep (WB.out W B))
  have C5 : Hid (∀ W, Below w2.heap.size w2 W → Calls Tryd.prog 13 #[.agg (byts F).toArray, .slice (some ⟨g, 0, none⟩) p.X.length (p.X.length + 9)] W fun e w' => e = .returned (.bool (hasT F p.X)) ∧ Below W.heap.size W w') := fun W B => by
    obtain ⟨q1, q2, q3⟩ := QO.out W B
    have h := has_any (p := q) HP.out.2.2.2.2 (by rw [q2]; have := HP.out.2.2.1; omega) W q1 (HP.out.2.1.1.keep (WB.out W B))
    rw [q2, q3] at h
    exact h
  have C6 : Hid (∀ W, Below w2.heap.size w2 W → Calls Tryd.prog 17 #[.agg (byts F).toArray, .slice p.a p.X.length p.c] W fun e w' => e = .returned (.bool (hasT F p.X)) ∧ Below W.heap.size W w') := fun W B => rhas_any (p := p) HP.out.2.2.2.2 HP.out.2.2.1 HP.out.2.2.2.1 W (HP.out.1.keep (WB.out W B)) (HP.out.2.1.2.keep (WB.out W B))
  clear QO hq q
  have eqp := fun w => eq_places (T := plI p.X 3) rfl w
  have lS : (setsF F (plL p.X)).length = 256 := setsF_len _ HP.out.2.2.2.2
  have eqb := fun w => eq_bloom lS lS w
  rw [decide_eq_true rfl] at eqb
  have ww : (hasT F p.X == hasT F p.X) = true := beq_self_eq_true _
  generalize hasT F p.X = hb at *
  generalize byts (setsF F (plL p.X)) = GB at *
  generalize vals (plI p.X 3) = PV at *
  have ic := size_bloom HP.out.2.2.2.2
  clear lS
  go_wp2_with fail
  have ldY : ∀ w', (∃ p : Regrown, w' = grow (redrawn w2 p.d) p.os) → w'.rangeAt w.heap.size 0 (byts F) := by rintro w' ⟨p, rfl⟩; exact (S2.out.2.1.grown _ _).range
  have CC : ∀ d os, Below w2.heap.size w2 (grow (redrawn w2 d) os) := fun d os => below_regrown w2 d os
  try simp only [Act.put]
  refine wp_region_quiet_below (by kernel_rfl) (by kernel_rfl) ?_
  repeat
    first
      | go_big_quiet_skip
      | (go_big_quiet_want; go_big_quiet_op; go_big_quiet_on)
      | (go_big_quiet_want; refine quiet_load_mid 24 _ rfl w.heap.size 0 rfl (byts F) _ ldY Tryd.underlying24 rfl ic ?_; simp only [Act.put, List.setIfInBounds_toArray, List.set_cons_succ, List.set_cons_zero]; go_big_quiet_on)
      | (go_big_quiet_want
         go_big_quiet_op
         apply Exists.intro
         refine ⟨fun p => ?_, ?_⟩
         · (first | (go_at_call 7; with_reducible exact Calls.regrown_of (C1.out (grow (redrawn w2 p.d) p.os) (CC p.d p.os))) | (go_at_call 15; with_reducible exact Calls.regrown_of (C2.out (grow (redrawn w2 p.d) p.os) (CC p.d p.os))) | (go_at_call 10; with_reducible exact Calls.regrown_of (C3.out (grow (redrawn w2 p.d) p.os) (CC p.d p.os))) | (go_at_call 16; with_reducible exact Calls.regrown_of (C4.out (grow (redrawn w2 p.d) p.os) (CC p.d p.os))) | (go_at_call 13; with_reducible exact Calls.regrown_of (C5.out (grow (redrawn w2 p.d) p.os) (CC p.d p.os))) | (go_at_call 17; with_reducible exact Calls.regrown_of (C6.out (grow (redrawn w2 p.d) p.os) (CC p.d p.os))))
         go_big_quiet_on)
  refine wpQuiet_nil ?_
  rintro w3 ⟨r, rfl⟩
  have B3 : Hid (Below w2.heap.size w2 (grow (redrawn w2 r.d) r.os)) := below_regrown w2 r.d r.os
  generalize grow (redrawn w2 r.d) r.os = w3 at *
  have st := stays_any (a := p.a) (c := p.c) (g := g) (by have := HP.out.2.2.1; omega) (HP.out.1).1 w3 (HP.out.1.keep (WB.out _ B3.out)).2.2 (S2.out.2.2.1.keep B3.out S2.out.2.2.2)
  have S3 : Hid (Below w.heap.size w w3) := WB.out _ B3.out
  clear ldY CC C1 C2 C3 C4 C5 C6 eqp eqb S2 WB
  go_wp2_with fail
  refine st.mono ?_
  clear st
  rintro e w4 ⟨rfl, hb4⟩
  have S4 : Hid (Below w.heap.size w w4) := S3.out.trans (hb4.mono S3.out.size)
  clear hb4
  go_wp2
  simp [bodyPost, results, Tryd.results5, go_sem]
  exact S4.out
end Go.Proofs.YtndefnomefdhoaaDoor

import Derived.Test.YtdkfpakghpbofaaRtE
/- Layer 7: the law RlpSplits. -/
namespace Go.Proofs.Ytdkfpakghpbofaa
open Go.RowKit Go.Sort
/-- What Split answers of any bytes. -/
def spP (A : List Int) : Bool × List Int × List Int × Int := if 16777216 < A.length then (false, [], [], 2) else if (hdP A).2.2.2 = 0 then ((hdP A).1, (A.drop (hdP A).2.1).take (hdP A).2.2.1, A.drop (totP A), 0) else (false, [], [], (hdP A).2.2.2)
/-- What Parts answers of any bytes. -/
def ptP (A : List Int) : Int × List (List Int) := if 16777216 < A.length then (2, []) else partsP A
theorem split_all {A : List Int} {a : Option Addr} {b o c : Nat} (hA : Byts A) (hc : A.length ≤ c) (ha : Az a b o A) (w : World) (h : Bz w b o A) :
    Calls Try.prog 5 #[.slice a A.length c] w fun e w' => ∃ v1 v2, e = .returned (.tuple #[.bool (spP A).1, v1, v2, .int .i64 (spP A).2.2.2]) ∧ OwnB w.heap.size w' v1 (spP A).2.1 ∧ OwnB w.heap.size w' v2 (spP A).2.2.1 ∧ Below w.heap.size w w' := by
  by_cases k : 16777216 < A.length
  · have e : spP A = (false, [], [], 2) := by unfold spP; rw [if_pos k]
    rw [e]
    exact (split_long k w).mono fun e w' x => ⟨_, _, x.1, own_nil0 _ _, own_nil0 _ _, x.2⟩
  by_cases k1 : (hdP A).2.2.2 = 0
  · have e : spP A = ((hdP A).1, (A.drop (hdP A).2.1).take (hdP A).2.2.1, A.drop (totP A), 0) := by unfold spP; rw [if_neg k, if_pos k1]
    rw [e]
    exact (split_good hA (by omega) hc ha k1 w h).mono fun e w' ⟨v1, v2, x1, x2, x3, _, _, x4⟩ => ⟨v1, v2, x1, x2, x3, x4⟩
  · have e : spP A = (false, [], [], (hdP A).2.2.2) := by unfold spP; rw [if_neg k, if_neg k1]
    rw [e]
    exact (split_bad hA (by omega) hc ha k1 w h).mono fun e w' x => ⟨_, _, x.1, own_nil0 _ _, own_nil0 _ _, x.2⟩
theorem rsplit_all {A : List Int} {a : Option Addr} {b o c : Nat} (hA : Byts A) (hc : A.length ≤ c) (ha : Az a b o A) (w : World) (h : Bz w b o A) :
    Calls Try.prog 6 #[.slice a A.length c] w fun e w' => ∃ v1 v2, e = .returned (.tuple #[.bool (spP A).1, v1, v2, .int .i64 (spP A).2.2.2]) ∧ OwnB w.heap.size w' v1 (spP A).2.1 ∧ OwnB w.heap.size w' v2 (spP A).2.2.1 ∧ Below w.heap.size w w' := by
  by_cases k : 16777216 < A.length
  · have e : spP A = (false, [], [], 2) := by unfold spP; rw [if_pos k]
    rw [e]
    exact (rsplit_long k w).mono fun e w' x => ⟨_, _, x.1, own_nil0 _ _, own_nil0 _ _, x.2⟩
  have FH0 := fun w1 (B : Below w.heap.size w w1) => rd_all (p := 0) hA (by omega) hc ha (Nat.zero_le _) w1 (h.keep B)
  rw [List.drop_zero] at FH0
  by_cases k1 : (hdP A).2.2.2 = 0
  · have e : spP A = ((hdP A).1, (A.drop (hdP A).2.1).take (hdP A).2.2.1, A.drop (totP A), 0) := by unfold spP; rw [if_neg k, if_pos k1]
    rw [e]
    obtain ⟨f1, f2⟩ := totP_fits k1
    have hv : hdV 0 (hdP A) = .tuple #[.agg #[.bool (hdP A).1, .int .i64 ((hdP A).2.1 : Int), .int .i64 (totP A : Int)], .int .i64 0] := by
      unfold hdV
      rw [if_pos k1]
      have i1 : ((0 : Nat) : Int) + ((hdP A).2.1 : Int) = ((hdP A).2.1 : Int) := by omega
      have i2 : ((hdP A).2.1 : Int) + ((hdP A).2.2.1 : Int) = (totP A : Int) := by unfold totP; omega
      rw [i1, i2]
    rw [hv] at FH0
    obtain rfl := ha.cons (by omega)
    exact rsplit_ok rfl f1 (by omega) hc w h FH0
  · have e : spP A = (false, [], [], (hdP A).2.2.2) := by unfold spP; rw [if_neg k, if_neg k1]
    rw [e]
    have hv : hdV 0 (hdP A) = .tuple #[.agg #[.bool false, .int .i64 0, .int .i64 0], .int .i64 (hdP A).2.2.2] := if_neg k1
    rw [hv] at FH0
    exact (rsplit_err (by omega) k1 w FH0).mono fun e w' x => ⟨_, _, x.1, own_nil0 _ _, own_nil0 _ _, x.2⟩
theorem parts_all {A : List Int} {a : Option Addr} {b o c : Nat} (hA : Byts A) (hc : A.length ≤ c) (ha : Az a b o A) (w : World) (h : Bz w b o A) :
    Calls Try.prog 9 #[.slice a A.length c] w fun e w' => ∃ v VS, e = .returned (.tuple #[v, .int .i64 (ptP A).1]) ∧ TxE w.heap.size w' v (ptP A).2 VS ∧ Below w.heap.size w w' := by
  by_cases k : 16777216 < A.length
  · have e : ptP A = (2, []) := by unfold ptP; rw [if_pos k]
    rw [e]
    exact (parts_long k w).mono fun e w' x => ⟨_, [], x.1, TxE.nil _ _, x.2⟩
  · have e : ptP A = partsP A := by unfold ptP; rw [if_neg k]
    rw [e]
    exact parts_any hA (by omega) hc ha w h
theorem rparts_all {A : List Int} {a : Option Addr} {b o c : Nat} (hA : Byts A) (hc : A.length ≤ c) (ha : Az a b o A) (w : World) (h : Bz w b o A) :
    Calls Try.prog 10 #[.slice a A.length c] w fun e w' => ∃ v VS, e = .returned (.tuple #[v, .int .i64 (ptP A).1]) ∧ TxE w.heap.size w' v (ptP A).2 VS ∧ Below w.heap.size w w' := by
  by_cases k : 16777216 < A.length
  · have e : ptP A = (2, []) := by unfold ptP; rw [if_pos k]
    rw [e]
    exact (rparts_long k w).mono fun e w' x => ⟨_, [], x.1, TxE.nil _ _, x.2⟩
  · have e : ptP A = partsP A := by unfold ptP; rw [if_neg k]
    rw [e]
    exact rparts_any hA (by omega) hc ha w h
theorem ptP_len (A : List Int) : (ptP A).2.length ≤ 16777216 := by
  unfold ptP
  by_cases k : 16777216 < A.length
  · rw [if_pos k]; exact Nat.zero_le _
  · rw [if_neg k]
    unfold partsP
    split
    · exact Nat.zero_le _
    split
    · exact Nat.zero_le _
    split
    · exact Nat.zero_le _
    · have := cutA_len (A.drop (hdP A).2.1).length [] (A.drop (hdP A).2.1)
      unfold cutP
      rw [List.length_drop] at this
      simp at this
      rw [List.length_drop]
      omega
theorem OwnB.tz {B : Nat} {W : World} {v : Value} {X : List Int} (h : OwnB B W v X) : Tz W v X := by
  obtain ⟨a, g, c, e, q1, q2, q3, q4, q5, q6⟩ := h.lies
  exact ⟨a, g, 0, c, e, q1, q2, q6, q3⟩
theorem TxE.pz {B : Nat} {W : World} {pv : Value} {XS : List (List Int)} {VS : List Value} (h : TxE B W pv XS VS) : ∃ (a : Option Addr) (b c : Nat) (V : Nat → Value), pv = .slice a XS.length c ∧ AzP a b 0 XS ∧ Pz W b 0 XS V := by
  obtain ⟨hl, ho, he⟩ := h
  have ho' := ho
  rcases ho.2 with ⟨rfl, h0⟩ | ⟨g, cap, cur, rfl, _, _, hle, _⟩
  · have e : XS = [] := List.length_eq_zero_iff.1 h0
    subst e
    exact ⟨none, 0, 0, fun _ => Value.bool false, rfl, .inl rfl, fun i hi => absurd hi (Nat.not_lt_zero _)⟩
  · refine ⟨some ⟨g, 0, none⟩, g, cap, fun j => VS.getD j (Value.bool false), rfl, .inr rfl, fun i hi => ?_⟩
    obtain ⟨u, h1, h2, _⟩ := he i hi
    have e : VS.getD i (Value.bool false) = u := by rw [List.getD, h1]; rfl
    have c := ho'.cells (g := g) rfl i u h1
    rw [Addr.add_mid] at c
    refine ⟨?_, ?_⟩
    · show _ = some (VS.getD i (Value.bool false))
      rw [e]; exact c
    · show Tz W (VS.getD i (Value.bool false)) _
      rw [e]; exact h2.tz
theorem same_own {B B' : Nat} {W : World} {v v' : Value} {X : List Int} (hl : X.length < 281474976710656) (h : OwnB B W v X) (h' : OwnB B' W v' X) :
    Calls Try.prog 8 #[v, v'] W fun e w' => e = .returned (.bool true) ∧ Below W.heap.size W w' := by
  obtain ⟨a1, g1, p1, c1, rfl, _, z1, _, y1⟩ := h.tz
  obtain ⟨a2, g2, p2, c2, rfl, _, z2, _, y2⟩ := h'.tz
  have k := same7_any (c := c1) (c' := c2) hl z1 z2 W y1 y2
  rw [decide_eq_true rfl] at k
  exact k
theorem alike_own {B B' : Nat} {W : World} {v v' : Value} {XS : List (List Int)} {VS VS' : List Value} (hl : ∀ i, i < XS.length → (XS.getD i []).length < 281474976710656) (hn : XS.length ≤ 16777216) (h : TxE B W v XS VS) (h' : TxE B' W v' XS VS') :
    Calls Try.prog 11 #[v, v'] W fun e w' => e = .returned (.bool true) ∧ Below W.heap.size W w' := by
  obtain ⟨a1, b1, c1, V1, rfl, z1, y1⟩ := h.pz
  obtain ⟨a2, b2, c2, V2, rfl, z2, y2⟩ := h'.pz
  exact alike_big hl hn z1 z2 W y1 y2
theorem cutA_each : ∀ (n : Nat) (XS : List (List Int)) (A : List Int), ∀ X ∈ (cutA n XS A).2, X ∈ XS ∨ X.length ≤ A.length
  | 0, XS, A, X, h => .inl h
  | n + 1, XS, A, X, h => by
    rw [cutA] at h
    by_cases k : A.length = 0
    · rw [if_pos k] at h; exact .inl h
    · rw [if_neg k] at h
      by_cases e : (hdP A).2.2.2 ≠ 0
      · rw [if_pos e] at h; cases h
      · rw [if_neg e] at h
        rcases cutA_each n _ _ X h with q | q
        · rcases List.mem_append.1 q with q | q
          · exact .inl q
          · rw [List.mem_singleton.1 q, List.length_take]; exact .inr (by omega)
        · rw [List.length_drop] at q; exact .inr (by omega)
theorem ptP_each (A : List Int) (i : Nat) : ((ptP A).2.getD i []).length ≤ A.length := by
  have k : ∀ X ∈ (ptP A).2, X.length ≤ A.length := fun X hX => by
    unfold ptP at hX
    split at hX
    · cases hX
    unfold partsP at hX
    split at hX
    · cases hX
    split at hX
    · cases hX
    split at hX
    · cases hX
    rcases cutA_each _ _ _ X hX with q | q
    · cases q
    · rw [List.length_drop] at q; omega
  by_cases h : i < (ptP A).2.length
  · have e : (ptP A).2.getD i [] = (ptP A).2[i] := by rw [List.getD, List.getElem?_eq_getElem h]; rfl
    rw [e]; exact k _ (List.getElem_mem h)
  · have e : (ptP A).2.getD i [] = [] := by rw [List.getD, List.getElem?_eq_none (by omega)]; rfl
    rw [e]; exact Nat.zero_le _
theorem spP_len (A : List Int) : (spP A).2.1.length ≤ A.length ∧ (spP A).2.2.1.length ≤ A.length := by
  unfold spP
  split
  · exact ⟨Nat.zero_le _, Nat.zero_le _⟩
  split
  · exact ⟨by show ((A.drop _).take _).length ≤ _; rw [List.length_take, List.length_drop]; omega, by show (A.drop _).length ≤ _; rw [List.length_drop]; omega⟩
  · exact ⟨Nat.zero_le _, Nat.zero_le _⟩
set_option maxRecDepth 100000 in
set_option maxHeartbeats 4000000 in
theorem splits_any {A : List Int} {a : Option Addr} {b o c : Nat} (hA : Byts A) (hl : A.length ≤ 140737488355328) (hc : A.length ≤ c) (ha : Az a b o A) (w : World) (h : Bz w b o A) :
    Calls Try.prog 3 #[.slice a A.length c] w fun e w' => e = .returned (.bool true) ∧ Below w.heap.size w w' := by
  have RO : Hid (∀ W, Below w.heap.size w W → Calls Try.prog 4 #[.slice a A.length c] W fun e w' => ∃ g, e = .returned (.slice (some ⟨g, 0, none⟩) A.length (A.length + 9)) ∧ W.heap.size ≤ g ∧ Bts w' g (A ++ List.replicate 9 165) ∧ Below W.heap.size W w') := fun W B => roomy7_any ha hl W (h.keep B)
  have SP : Hid (∀ W g, Bz W g 0 A → Calls Try.prog 5 #[.slice (some ⟨g, 0, none⟩) A.length (A.length + 9)] W fun e w' => ∃ v1 v2, e = .returned (.tuple #[.bool (spP A).1, v1, v2, .int .i64 (spP A).2.2.2]) ∧ OwnB W.heap.size w' v1 (spP A).2.1 ∧ OwnB W.heap.size w' v2 (spP A).2.2.1 ∧ Below W.heap.size W w') := fun W g hz => split_all hA (by omega) (.inr rfl) W hz
  have SR : Hid (∀ W, Below w.heap.size w W → Calls Try.prog 6 #[.slice a A.length c] W fun e w' => ∃ v1 v2, e = .returned (.tuple #[.bool (spP A).1, v1, v2, .int .i64 (spP A).2.2.2]) ∧ OwnB W.heap.size w' v1 (spP A).2.1 ∧ OwnB W.heap.size w' v2 (spP A).2.2.1 ∧ Below W.heap.size W w') := fun W B => rsplit_all hA hc ha W (h.keep B)
  have PP : Hid (∀ W g, Bz W g 0 A → Calls Try.prog 9 #[.slice (some ⟨g, 0, none⟩) A.length (A.length + 9)] W fun e w' => ∃ v VS, e = .returned (.tuple #[v, .int .i64 (ptP A).1]) ∧ TxE W.heap.size w' v (ptP A).2 VS ∧ Below W.heap.size W w') := fun W g hz => parts_all hA (by omega) (.inr rfl) W hz
  have PR : Hid (∀ W, Below w.heap.size w W → Calls Try.prog 10 #[.slice a A.length c] W fun e w' => ∃ v VS, e = .returned (.tuple #[v, .int .i64 (ptP A).1]) ∧ TxE W.heap.size w' v (ptP A).2 VS ∧ Below W.heap.size W w') := fun W B => rparts_all hA hc ha W (h.keep B)
  have SM : Hid (∀ W g, Below w.heap.size w W → Bz W g 0 A → Calls Try.prog 8 #[.slice (some ⟨g, 0, none⟩) A.length (A.length + 9), .slice a A.length c] W fun e w' => e = .returned (.bool true) ∧ Below W.heap.size W w') := fun W g B hz => by
    have k := same7_any (c := A.length + 9) (c' := c) (X := A) (Z := A) (by omega) (.inr rfl) ha W hz (h.keep B)
    rw [decide_eq_true rfl] at k
    exact k
  have SD : Hid (∀ W g, Bz W g 0 (A ++ List.replicate 9 165) → Calls Try.prog 12 #[.slice (some ⟨g, 0, none⟩) A.length (A.length + 9)] W fun e w' => e = .returned (.bool true) ∧ Below W.heap.size W w') := fun W g hz => spared7_yes (by omega) (Nat.le_refl _) W (fun i h1 h2 => by
    have := hz i (by simp; omega)
    rw [this]
    have e : (A ++ List.replicate 9 (165 : Int)).getD i 0 = 165 := by
      rw [List.getD, List.getElem?_append_right h1, List.getElem?_replicate, if_pos (by omega)]; rfl
    rw [e])
  have BZ : Hid (∀ (W : World) g, Bz W g 0 (A ++ List.replicate 9 165) → Bz W g 0 A) := fun W g hz i hi => by
    have := hz i (by simp; omega)
    rw [this]
    have e : (A ++ List.replicate 9 (165 : Int)).getD i 0 = A.getD i 0 := by
      rw [List.getD, List.getElem?_append_left hi]; rfl
    rw [e]
  have NU : Hid (∀ v w, Calls Try.prog 7 #[.int .i64 v] w fun e w' => e = .returned (.int .i64 v) ∧ Below w.heap.size w w') := fun v w => lnum7_any v w
  have PL : Hid ((ptP A).2.length ≤ 16777216 ∧ (∀ i, i < (ptP A).2.length → ((ptP A).2.getD i []).length < 281474976710656) ∧ (spP A).2.1.length < 281474976710656 ∧ (spP A).2.2.1.length < 281474976710656) := ⟨ptP_len A, fun i _ => by have := ptP_each A i; omega, by have := spP_len A; omega, by have := spP_len A; omega⟩
  clear hA hl hc ha h
  generalize spP A = sp at *
  generalize ptP A = pt at *
  generalize A.length = m at *
  obtain ⟨sl, X1, X2, se⟩ := sp
  obtain ⟨pe, XS⟩ := pt
  go_enter Try.func3, Try.ntmps3
  go_wp2_with fail
  with_reducible refine (RO.out w (Below.refl _ _)).mono ?_
  rintro e w1 ⟨g, rfl, hg, hz9, B⟩
  have G9 : Hid (∀ W, Below w1.heap.size w1 W → Below w.heap.size w W ∧ Bz W g 0 (A ++ List.replicate 9 165)) := fun W b => ⟨B.trans (b.mono B.size), hz9.bz.keep b⟩
  clear hz9 B RO hg
  have B : Below w1.heap.size w1 w1 := Below.refl _ _
  go_wp2_with fail
  with_reducible refine (SP.out w1 g (BZ.out _ _ (G9.out w1 B).2)).mono ?_
  rintro e w2 ⟨v1, v2, rfl, O1, O2, hb⟩
  replace B := B.trans (hb.mono B.size)
  clear hb
  go_wp2_with fail
  with_reducible refine (SR.out w2 (G9.out w2 B).1).mono ?_
  rintro e w3 ⟨v3, v4, rfl, O3, O4, hb⟩
  replace B := B.trans (hb.mono B.size)
  replace O1 := O1.keep hb
  replace O2 := O2.keep hb
  clear hb
  go_wp2_with fail
  with_reducible refine (NU.out _ w3).mono ?_
  rintro e w4 ⟨rfl, hb⟩
  replace B := B.trans (hb.mono B.size)
  replace O1 := O1.keep hb; replace O2 := O2.keep hb; replace O3 := O3.keep hb; replace O4 := O4.keep hb
  clear hb
  go_wp2_with fail
  refine (same_own PL.out.2.2.1 O1 O3).mono ?_
  rintro e w5 ⟨rfl, hb⟩
  replace B := B.trans (hb.mono B.size)
  replace O2 := O2.keep hb; replace O4 := O4.keep hb
  clear hb O1 O3
  go_wp2_with fail
  refine (same_own PL.out.2.2.2 O2 O4).mono ?_
  rintro e w6 ⟨rfl, hb⟩
  replace B := B.trans (hb.mono B.size)
  clear hb O2 O4
  go_wp2_with fail
  with_reducible refine (PP.out w6 g (BZ.out _ _ (G9.out w6 B).2)).mono ?_
  rintro e w7 ⟨v5, V5, rfl, T5, hb⟩
  replace B := B.trans (hb.mono B.size)
  clear hb
  go_wp2_with fail
  with_reducible refine (PR.out w7 (G9.out w7 B).1).mono ?_
  rintro e w8 ⟨v6, V6, rfl, T6, hb⟩
  replace B := B.trans (hb.mono B.size)
  replace T5 := T5.keep hb
  clear hb
  go_wp2_with fail
  with_reducible refine (NU.out _ w8).mono ?_
  rintro e w9 ⟨rfl, hb⟩
  replace B := B.trans (hb.mono B.size)
  replace T5 := T5.keep hb; replace T6 := T6.keep hb
  clear hb
  go_wp2_with fail
  refine (alike_own PL.out.2.1 PL.out.1 T5 T6).mono ?_
  rintro e w10 ⟨rfl, hb⟩
  replace B := B.trans (hb.mono B.size)
  clear hb T5 T6
  go_wp2_with fail
  with_reducible refine (SM.out w10 g (G9.out w10 B).1 (BZ.out _ _ (G9.out w10 B).2)).mono ?_
  rintro e w11 ⟨rfl, hb⟩
  replace B := B.trans (hb.mono B.size)
  clear hb
  go_wp2_with fail
  with_reducible refine (SD.out w11 g (G9.out w11 B).2).mono ?_
  rintro e w12 ⟨rfl, hb⟩
  replace B := B.trans (hb.mono B.size)
  have BF := (G9.out w12 B).1
  go_wp2
  simp [bodyPost, results, Try.results3, go_sem]
  exact BF
end Go.Proofs.Ytdkfpakghpbofaa

import Derived.Test.YtahekhamhdfkdaaRdE
/- Layer 7: the statement's sound. -/
namespace Go.Proofs.Ytahekhamhdfkdaa
open Go.RowKit Go.Sort
mutual
/-- What sound answers of a tree. -/
def sndT : Nat → Tr → Nat × Bool
  | k, .mk l X ts => if 200 < k ∨ odd1 l X ts = true then (0, false) else sndS k (9 + X.length) ts
def sndS : Nat → Nat → List Tr → Nat × Bool
  | _, n, [] => (n, true)
  | k, n, t :: ts => if (sndT (k + 1) t).2 = false ∨ 1048576 < n + (sndT (k + 1) t).1 then (0, false) else sndS k (n + (sndT (k + 1) t).1) ts
end
mutual
theorem sndT_ok : ∀ (t : Tr) (k n : Nat), sndT k t = (n, true) → oddT t = false ∧ k + dpT t ≤ 202 ∧ (encT t).length ≤ n
  | .mk l X ts, k, n, h => by
    rw [sndT] at h
    by_cases c : 200 < k ∨ odd1 l X ts = true
    · rw [if_pos c] at h; cases h
    rw [if_neg c] at h
    have c1 : k ≤ 200 := Nat.le_of_not_lt fun x => c (.inl x)
    have c2 : odd1 l X ts = false := by cases q : odd1 l X ts with
      | false => rfl
      | true => exact absurd (.inr q) c
    obtain ⟨h1, h2, h3⟩ := sndS_ok ts k _ n h
    rw [oddT, dpT, encT, c2, h1]
    refine ⟨rfl, ?_, ?_⟩
    · split <;> omega
    · split
      · have := hdR_len 192 (encS ts).length
        rw [List.length_append]; omega
      · have := encX_len X; omega
theorem sndS_ok : ∀ (ts : List Tr) (k m n : Nat), sndS k m ts = (n, true) → oddS ts = false ∧ (k ≤ 200 → k + 1 + dpS ts ≤ 202) ∧ m + (encS ts).length ≤ n
  | [], k, m, n, h => by
    rw [sndS] at h
    injection h with h _
    rw [oddS, dpS, encS]
    exact ⟨rfl, fun x => by omega, by simp; omega⟩
  | t :: ts, k, m, n, h => by
    rw [sndS] at h
    by_cases c : (sndT (k + 1) t).2 = false ∨ 1048576 < m + (sndT (k + 1) t).1
    · rw [if_pos c] at h; cases h
    rw [if_neg c] at h
    have c1 : (sndT (k + 1) t).2 = true := by cases q : (sndT (k + 1) t).2 with
      | false => exact absurd (.inl q) c
      | true => rfl
    obtain ⟨g1, g2, g3⟩ := sndT_ok t (k + 1) (sndT (k + 1) t).1 (Prod.ext rfl c1)
    obtain ⟨h1, h2, h3⟩ := sndS_ok ts k _ n h
    rw [oddS, dpS, encS, g1, h1, List.length_append]
    exact ⟨rfl, fun x => by have := h2 x; omega, by omega⟩
end
theorem sndS_drop {ts : List Tr} {k n i : Nat} (h : i < ts.length) : sndS k n (ts.drop i) = if (sndT (k + 1) (ts.getD i zT)).2 = false ∨ 1048576 < n + (sndT (k + 1) (ts.getD i zT)).1 then (0, false) else sndS k (n + (sndT (k + 1) (ts.getD i zT)).1) (ts.drop (i + 1)) := by
  rw [List.drop_eq_getElem_cons h, sndS]
  have e : ts[i] = ts.getD i zT := by rw [List.getD, List.getElem?_eq_getElem h]; rfl
  rw [e]
theorem sndT_lim : ∀ (t : Tr) (k : Nat), (sndT k t).1 ≤ 1048576 + 9 + t.X.length
  | .mk l X ts, k => by
    rw [sndT]
    show _ ≤ 1048576 + 9 + X.length
    by_cases c : 200 < k ∨ odd1 l X ts = true
    · rw [if_pos c]; exact Nat.zero_le _
    rw [if_neg c]
    have key : ∀ (us : List Tr) (n : Nat), n ≤ 1048576 + 9 + X.length → (sndS k n us).1 ≤ 1048576 + 9 + X.length := by
      intro us
      induction us with
      | nil => intro n h; rw [sndS]; exact h
      | cons u us ih =>
        intro n h
        rw [sndS]
        by_cases c : (sndT (k + 1) u).2 = false ∨ 1048576 < n + (sndT (k + 1) u).1
        · rw [if_pos c]; exact Nat.zero_le _
        · rw [if_neg c]
          refine ih _ ?_
          have : ¬ 1048576 < n + (sndT (k + 1) u).1 := fun x => c (.inr x)
          omega
    exact key ts _ (by omega)
set_option maxRecDepth 100000 in
set_option maxHeartbeats 8000000 in
theorem sound_any : ∀ (t : Tr) {d q : Value} (k : Nat) (_ : k ≤ 201) (_ : wtT t < 4194304) (w : World) (_ : It w t d q),
    Calls Try.prog 16 #[itV t d q, .int .i64 (k : Int)] w fun e w' => e = .returned (.tuple #[.int .i64 ((sndT k t).1 : Int), .bool (sndT k t).2]) ∧ Below w.heap.size w w' := by
  refine Tr.ind fun l X ts ih d q k hk hn w h => ?_
  rw [It] at h
  obtain ⟨⟨a, b, o, c, rfl, h2, h3, h4⟩, p, g, z, r, rfl, k2, k3, k4⟩ := h
  rw [wtT] at hn
  show Calls Try.prog 16 #[.agg #[.bool l, .slice a X.length c, .slice p ts.length r], .int .i64 (k : Int)] w _
  have hkk : (k : Int) ≤ 201 := by omega
  by_cases c0 : 200 < k
  · have e : sndT k (.mk l X ts) = (0, false) := by rw [sndT, if_pos (.inl c0)]
    rw [e]
    have b1 : (200 : Int) < (k : Int) := by omega
    clear ih
    generalize X.length = xn at *
    generalize ts.length = tn at *
    go_enter Try.func16, Try.ntmps16
    go_wp2
    simp [bodyPost, results, Try.results16, go_sem]
    exact (Below.refl _ _).alloc (Nat.le_refl _) _
  by_cases c1 : odd1 l X ts = true
  · have e : sndT k (.mk l X ts) = (0, false) := by rw [sndT, if_pos (.inr c1)]
    rw [e]
    have b1 : ¬ (200 : Int) < (k : Int) := by omega
    unfold odd1 at c1
    clear ih
    cases l with
    | true =>
      have b2 : (0 : Int) < (X.length : Int) := by simp at c1; omega
      generalize X.length = xn at *
      generalize ts.length = tn at *
      clear c1
      go_enter Try.func16, Try.ntmps16
      go_wp2
      simp [bodyPost, results, Try.results16, go_sem]
      exact (Below.refl _ _).alloc (Nat.le_refl _) _
    | false =>
      have b2 : (0 : Int) < (ts.length : Int) := by simp at c1; omega
      generalize X.length = xn at *
      generalize ts.length = tn at *
      clear c1
      go_enter Try.func16, Try.ntmps16
      go_wp2
      simp [bodyPost, results, Try.results16, go_sem]
      exact (Below.refl _ _).alloc (Nat.le_refl _) _
  have e : sndT k (.mk l X ts) = sndS k (9 + X.length) ts := by rw [sndT, if_neg (fun x => x.elim c0 c1)]
  rw [e]
  obtain ⟨Z, hZ⟩ : ∃ Z, Z = sndS k (9 + X.length) ts := ⟨_, rfl⟩
  rw [← hZ]
  have HZ : Hid (sndS k (9 + X.length) (ts.drop 0) = Z) := by show _ = Z; rw [List.drop_zero, hZ]
  have HI : Hid (∀ W, Below w.heap.size w W → Its W g z ts) := fun W B => k4.keep B
  have HN : Hid (wtS ts < 4194304 ∧ (ts = [] ∨ p = some ⟨g, z, none⟩) ∧ k ≤ 200) := ⟨by omega, k3, by omega⟩
  have IH : Hid (∀ t ∈ ts, ∀ {d q : Value} (k : Nat) (_ : k ≤ 201) (_ : wtT t < 4194304) (w : World) (_ : It w t d q), Calls Try.prog 16 #[itV t d q, .int .i64 (k : Int)] w fun e w' => e = .returned (.tuple #[.int .i64 ((sndT k t).1 : Int), .bool (sndT k t).2]) ∧ Below w.heap.size w w') := @ih
  have hl : (ts.length : Int) ≤ 4194304 := by have := len_wt ts; omega
  have hx : (X.length : Int) ≤ 4194304 := by omega
  have b1 : ¬ (200 : Int) < (k : Int) := by omega
  have HX : Hid (9 + X.length ≤ 8388608) := by show _ ≤ _; omega
  have od : (l = true → ¬ (0 : Int) < (X.length : Int)) ∧ (l = false → ¬ (0 : Int) < (ts.length : Int)) := by
    unfold odd1 at c1
    refine ⟨fun x => ?_, fun x => ?_⟩
    · subst x; simp at c1; rw [c1]; simp
    · subst x; simp at c1; rw [c1]; simp
  clear h2 h3 h4 k2 k3 k4 hn ih hZ e c0 c1
  generalize hxn : X.length = xn at *
  go_enter Try.func16, Try.ntmps16
  refine wp_seq_k fun K h => ?_
  have H : Hid _ := h
  clear h
  go_wp2_with fail
  refine H.out _ _ ?_
  clear H K
  refine wp_world (fun W => Below w.heap.size w W ∧ Bx W w.heap.size l (.slice a xn c) (.slice p ts.length r)) ⟨(Below.refl _ _).alloc (Nat.le_refl _) _, ⟨by simp [go_sem], by simp [go_sem], by simp [go_sem]⟩⟩ ?_
  rintro W ⟨B, hX⟩
  have FW : Hid (∀ V, Below W.heap.size W V → Below w.heap.size w V ∧ Bx V w.heap.size l (.slice a xn c) (.slice p ts.length r)) := fun V hV => ⟨B.trans (hV.mono B.size), hX.keep hV⟩
  refine wp_seq_k fun K h => ?_
  have H : Hid _ := h
  clear h
  obtain ⟨x0, x1, x2⟩ := hX
  cases l with
  | true =>
    have b2 := od.1 rfl
    clear od
    go_wp2_with fail
    refine H.out _ _ ?_
    clear H K b2
    refine wp_seq_k fun K h => ?_
    have H : Hid _ := h
    clear h
    go_wp2_with fail
    refine H.out _ _ ?_
    clear H K x0 x1 x2
    go_wp2_with fail
    go_loopg [6, 7] ts.length (fun kk nv iv wr => ∃ i n : Nat, kk = ts.length - i ∧ i ≤ ts.length ∧ nv = .int .i64 (n : Int) ∧ iv = .int .i64 (i : Int) ∧ n ≤ 8388608 ∧ sndS k n (ts.drop i) = Z ∧ Below W.heap.size W wr)
    case atStart => exact ⟨0, 9 + xn, rfl, Nat.zero_le _, (by congr 1 <;> omega), rfl, HX.out, HZ.out, Below.refl _ _⟩
    case round =>
      obtain ⟨i, n, hk', hi, rfl, rfl, hn, hz, BW⟩ := hrel
      have HK : Hid (gk = ts.length - i ∧ i ≤ ts.length ∧ n ≤ 8388608 ∧ sndS k n (ts.drop i) = Z) := ⟨hk', hi, hn, hz⟩
      clear hk' hz
      obtain ⟨B0, hX⟩ := FW.out wr BW
      have hX' := hX
      obtain ⟨x0, x1, x2⟩ := hX'
      by_cases h8 : i = ts.length
      · subst h8
        have hZ : Z = (n, true) := by rw [← HK.out.2.2.2, List.drop_length, sndS]
        clear HK hi hn HZ
        subst hZ
        go_wp2
        simp [bodyPost, results, Try.results16, go_sem]
        exact B0
      · have hlt : i < ts.length := by omega
        have hlt' : (i : Int) < (ts.length : Int) := by omega
        have ea : p = some ⟨g, z, none⟩ := by
          rcases HN.out.2.1 with e | e
          · rw [e] at hlt; exact absurd hlt (Nat.not_lt_zero _)
          · exact e
        subst ea
        obtain ⟨d1, q1, e1, e2⟩ := (HI.out wr B0).at i hlt
        have hwt := wt_item hlt
        have sd := sndS_drop (k := k) (n := n) hlt
        rw [HK.out.2.2.2] at sd
        have li := sndT_lim (ts.getD i zT) (k + 1)
        have wp := wt_parts (ts.getD i zT)
        have MC0 := IH.out _ (getT_mem hlt) (k + 1) (by have := HN.out.2.2; omega) (by have := HN.out.1; omega) wr e2
        rw [show ((k + 1 : Nat) : Int) = (k : Int) + 1 by omega] at MC0
        have MI : Hid ((sndT (k + 1) (ts.getD i zT)).1 ≤ 6291456) := by show _ ≤ _; have := HN.out.1; omega
        have SD : Hid (Z = if (sndT (k + 1) (ts.getD i zT)).2 = false ∨ 1048576 < n + (sndT (k + 1) (ts.getD i zT)).1 then (0, false) else sndS k (n + (sndT (k + 1) (ts.getD i zT)).1) (ts.drop (i + 1))) := sd
        clear sd li wp hwt e2 h8 hi
        generalize sndT (k + 1) (ts.getD i zT) = sn at *
        obtain ⟨mi, ob⟩ := sn
        have MC : Hid (Calls Try.prog 16 #[.agg #[.bool (ts.getD i zT).l, d1, q1], .int .i64 ((k : Int) + 1)] wr fun e w' => e = .returned (.tuple #[.int .i64 (mi : Int), .bool ob]) ∧ Below wr.heap.size wr w') := MC0
        clear MC0
        generalize (ts.getD i zT).l = lt at *
        have hn1 : (n : Int) ≤ 8388608 := by omega
        have mi1 : (mi : Int) ≤ 6291456 := by have : mi ≤ 6291456 := MI.out; omega
        clear hn
        have R1 : Hid (wr.rangeAt g (z + i * 3) [.bool lt, d1, q1]) := e1
        clear e1
        refine wp_seq_k fun K h => ?_
        have H5 : Hid _ := h
        clear h
        go_wp2_with fail
        refine H5.out _ _ ?_
        clear H5 K
        refine wp_seq_k fun K h => ?_
        have H5 : Hid _ := h
        clear h
        refine wp_block ?_
        refine wp_seq_k fun K h => ?_
        have H : Hid _ := h
        clear h
        go_wp2_with (first | (refine wpList_load_mid rfl _ _ rfl g (z + i * 3) rfl _ _ R1.out Try.underlying26 rfl size_it ?_) | (go_at_call 16; (refine MC.out.mono ?_); rintro e w2 ⟨rfl, hb⟩))
        refine H.out _ _ ?_
        clear H K MC R1 x0 x1 x2 hX
        have B2 := BW.trans (hb.mono BW.size)
        clear hb
        by_cases kc : ob = false ∨ 1048576 < n + mi
        · have hZ : Z = (0, false) := by rw [SD.out, if_pos kc]
          have BF := (FW.out w2 B2).1
          clear SD HK HZ
          subst hZ
          cases ob with
          | false =>
            go_wp2_with fail
            simp [bodyPost, results, Try.results16, go_sem]
            exact BF
          | true =>
            have kn : (1048576 : Int) < (n : Int) + (mi : Int) := by
              rcases kc with x | x
              · cases x
              · omega
            clear kc
            go_wp2_with fail
            simp [bodyPost, results, Try.results16, go_sem]
            exact BF
        · have hZ : sndS k (n + mi) (ts.drop (i + 1)) = Z := by rw [SD.out, if_neg kc]
          have HZ2 : Hid (sndS k (n + mi) (ts.drop (i + 1)) = Z) := hZ
          have ob1 : ob = true := by cases ob with
            | false => exact absurd (.inl rfl) kc
            | true => rfl
          subst ob1
          have kn : ¬ (1048576 : Int) < (n : Int) + (mi : Int) := fun x => kc (.inr (by omega))
          have kl : Hid (n + mi ≤ 8388608) := by show _ ≤ _; omega
          clear SD hZ kc HZ
          go_wp2_with fail
          refine H5.out _ _ ?_
          clear H5 B0
          go_wp2_with fail
          go_roundg (ts.length - (i + 1))
          case measure => have := HK.out.1; omega
          case rel => exact ⟨i + 1, n + mi, rfl, hlt, (by congr 1), by go_num, kl.out, HZ2.out, B2⟩
  | false =>
    have b2 := od.2 rfl
    have HB2 : Hid ((ts.length : Int) ≤ 0) := b2
    clear od
    go_wp2_with fail
    refine H.out _ _ ?_
    clear H K b2
    refine wp_seq_k fun K h => ?_
    have H : Hid _ := h
    clear h
    go_wp2_with fail
    refine H.out _ _ ?_
    clear H K x0 x1 x2
    go_wp2_with fail
    go_loopg [6, 7] ts.length (fun kk nv iv wr => ∃ i n : Nat, kk = ts.length - i ∧ i ≤ ts.length ∧ nv = .int .i64 (n : Int) ∧ iv = .int .i64 (i : Int) ∧ n ≤ 8388608 ∧ sndS k n (ts.drop i) = Z ∧ Below W.heap.size W wr)
    case atStart => exact ⟨0, 9 + xn, rfl, Nat.zero_le _, (by congr 1 <;> omega), rfl, HX.out, HZ.out, Below.refl _ _⟩
    case round =>
      obtain ⟨i, n, hk', hi, rfl, rfl, hn, hz, BW⟩ := hrel
      have HK : Hid (gk = ts.length - i ∧ i ≤ ts.length ∧ n ≤ 8388608 ∧ sndS k n (ts.drop i) = Z) := ⟨hk', hi, hn, hz⟩
      clear hk' hz
      obtain ⟨B0, hX⟩ := FW.out wr BW
      have hX' := hX
      obtain ⟨x0, x1, x2⟩ := hX'
      by_cases h8 : i = ts.length
      · subst h8
        have hZ : Z = (n, true) := by rw [← HK.out.2.2.2, List.drop_length, sndS]
        clear HK hi hn HZ
        subst hZ
        go_wp2
        simp [bodyPost, results, Try.results16, go_sem]
        exact B0
      · exfalso
        have := HB2.out
        omega
end Go.Proofs.Ytahekhamhdfkdaa

/- Layer 7: append to a full slice that is not one's own. -/
namespace Go.Proofs.Ytahekhamhdfkdaa
open Go.RowKit Go.Sort
end Go.Proofs.Ytahekhamhdfkdaa

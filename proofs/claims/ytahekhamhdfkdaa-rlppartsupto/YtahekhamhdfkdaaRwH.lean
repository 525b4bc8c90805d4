import Derived.Test.YtahekhamhdfkdaaRwF
import Derived.Test.YtahekhamhdfkdaaRxO
import Derived.Test.YtahekhamhdfkdaaRjE
import Derived.Test.YtahekhamhdfkdaaCut
/- Layer 7: the law RlpBack. -/
namespace Go.Proofs.Ytahekhamhdfkdaa
open Go.RowKit Go.Sort
mutual
theorem byT_of : ∀ t : Tr, tt.BysT t → ByT t
  | .mk l X ts, h => by
    rw [tt.BysT] at h
    rw [ByT]
    exact ⟨h.1, byS_of ts h.2⟩
theorem byS_of : ∀ ts : List Tr, tt.BysS ts → ByS ts
  | [], _ => by rw [ByS]; trivial
  | t :: ts, h => by
    rw [tt.BysS] at h
    rw [ByS]
    exact ⟨byT_of t h.1, byS_of ts h.2⟩
end
end Go.Proofs.Ytahekhamhdfkdaa

/- Layer 7: the parts of a list's bytes, in plain numbers. -/
namespace Go.Proofs.Ytahekhamhdfkdaa
open Go.RowKit Go.Sort
theorem fl_take (XS : List (List Int)) : ∀ n, n ≤ XS.length → flS XS n = (XS.take n).flatten
  | 0, _ => by simp [flS]
  | n + 1, h => by
    rw [flS, fl_take XS n (by omega), List.take_add_one, List.flatten_append, List.getD, List.getElem?_eq_getElem (by omega)]
    simp
theorem fl_all (XS : List (List Int)) : flS XS XS.length = XS.flatten := by rw [fl_take XS _ (Nat.le_refl _), List.take_length]
theorem len_all (XS : List (List Int)) : lenS XS XS.length = XS.flatten.length := by rw [← flS_len, fl_all]
theorem enc_flat : ∀ ts : List Tr, (ts.map encT).flatten = encS ts
  | [] => by rw [encS]; rfl
  | t :: ts => by rw [encS, List.map_cons, List.flatten_cons, enc_flat ts]
theorem cut_enc : ∀ (ts : List Tr) (XS : List (List Int)), oddS ts = false → dpS ts ≤ 1024 → (encS ts).length < 16777216 → cutP XS (encS ts) = (0, XS ++ ts.map encT)
  | [], XS, _, _, _ => by rw [cutP_nil XS (by rw [encS]; rfl)]; simp
  | t :: ts, XS, ho, hd, hl => by
    rw [oddS] at ho
    rw [dpS] at hd
    rw [encS] at hl ⊢
    simp only [Bool.or_eq_false_iff] at ho
    rw [List.length_append] at hl
    obtain ⟨h1, h2⟩ := dT_enc t 0 (encS ts) ho.1 (by omega) (by omega)
    have e := dT_ok (k := 0) (A := encT t ++ encS ts) (by rw [h1])
    have tf := totP_fits e
    rw [h2] at tf
    rw [cutP_step XS (by rw [List.length_append]; omega) e, h2, List.take_left, List.drop_left, cut_enc ts _ ho.2 (by omega) (by omega)]
    simp
theorem ptP_enc {ts : List Tr} (ho : oddS ts = false) (hd : dpS ts ≤ 1024) (hl : (encT (.mk true [] ts)).length < 16777216) : ptP (encT (.mk true [] ts)) = (0, ts.map encT) := by
  rw [encT] at hl ⊢
  simp only [if_true] at hl ⊢
  have hx : (encS ts).length < 16777216 := by rw [List.length_append] at hl; omega
  have hh := hd_list (X := encS ts) (R := []) hx
  obtain ⟨t1, _⟩ := tot_list (X := encS ts) (R := []) hx
  rw [List.append_nil] at hh t1
  unfold ptP partsP
  rw [if_neg (by omega), hh, if_neg (by simp), if_neg (by simp), t1, if_neg (by omega)]
  simp only
  rw [List.drop_left, cut_enc ts [] ho hd hx]
  simp
theorem cutA_inv : ∀ (n : Nat) (XS : List (List Int)) (A : List Int), A.length ≤ n → (cutA n XS A).1 = 0 → (cutA n XS A).2.flatten = XS.flatten ++ A ∧ (cutA n XS A).2.length ≤ XS.length + A.length
  | 0, XS, A, h, _ => by
    have : A = [] := List.eq_nil_of_length_eq_zero (by omega)
    subst this
    simp [cutA]
  | n + 1, XS, A, h, he => by
    rw [cutA] at he ⊢
    by_cases k : A.length = 0
    · rw [if_pos k]
      have : A = [] := List.eq_nil_of_length_eq_zero k
      subst this
      simp
    rw [if_neg k] at he ⊢
    by_cases e : (hdP A).2.2.2 ≠ 0
    · rw [if_pos e] at he; exact absurd he e
    rw [if_neg e] at he ⊢
    have f := totP_fits (Decidable.not_not.1 e)
    have d : (A.drop (totP A)).length = A.length - totP A := List.length_drop ..
    obtain ⟨h1, h2⟩ := cutA_inv n _ _ (by omega) he
    refine ⟨?_, ?_⟩
    · rw [h1, List.flatten_append]
      simp
    · rw [List.length_append] at h2
      have : ([A.take (totP A)] : List (List Int)).length = 1 := rfl
      omega
theorem ptP_inv {A : List Int} {XS : List (List Int)} (hA : Byts A) (h : ptP A = (0, XS)) : hdR 192 XS.flatten.length ++ XS.flatten = A ∧ XS.flatten.length ≤ A.length ∧ XS.length ≤ A.length ∧ A.length ≤ 16777216 := by
  unfold ptP at h
  by_cases k : 16777216 < A.length
  · rw [if_pos k] at h; injection h with h _; cases h
  rw [if_neg k] at h
  unfold partsP at h
  by_cases e : (hdP A).2.2.2 ≠ 0
  · rw [if_pos e] at h; injection h with h _; exact absurd h e
  rw [if_neg e] at h
  have e' := Decidable.not_not.1 e
  by_cases l : (hdP A).1 = false
  · rw [if_pos l] at h; injection h with h _; cases h
  rw [if_neg l] at h
  have l' : (hdP A).1 = true := by simpa using l
  by_cases t : totP A < A.length
  · rw [if_pos t] at h; injection h with h _; cases h
  rw [if_neg t] at h
  have tf := totP_fits e'
  have et : totP A = (hdP A).2.1 + (hdP A).2.2.1 := rfl
  unfold cutP at h
  have d : (A.drop (hdP A).2.1).length = A.length - (hdP A).2.1 := List.length_drop ..
  obtain ⟨h1, h2⟩ := cutA_inv (A.drop (hdP A).2.1).length [] (A.drop (hdP A).2.1) (Nat.le_refl _) (by rw [h])
  rw [h] at h1 h2
  simp only [List.flatten_nil, List.nil_append] at h1
  have h2' : XS.length ≤ (A.drop (hdP A).2.1).length := by simpa using h2
  rcases hd_inv hA (by omega) e' with ⟨_, x, _, _⟩ | ⟨x, _, _⟩
  · rw [l'] at x; cases x
  · rw [l'] at x
    simp only [if_true] at x
    have hh : (A.drop (hdP A).2.1).length = (hdP A).2.2.1 := by omega
    refine ⟨?_, by rw [h1]; omega, by omega, by omega⟩
    rw [h1, hh, ← x, List.take_append_drop]
theorem ptP_c0 : ptP [192] = (0, []) := by
  have e : encT (.mk true [] []) = [192] := by rw [encT, encS]; rfl
  rw [← e, ptP_enc (by rw [oddS]) (by rw [dpS]; decide) (by rw [e]; decide)]
  rfl
/-- A list that is sound is short. -/
theorem sndS_lim : ∀ (ts : List Tr) (k m n : Nat), m ≤ 1048576 → sndS k m ts = (n, true) → n ≤ 1048576
  | [], _, m, n, h, e => by rw [sndS] at e; injection e with e _; omega
  | t :: ts, k, m, n, h, e => by
    rw [sndS] at e
    by_cases c : (sndT (k + 1) t).2 = false ∨ 1048576 < m + (sndT (k + 1) t).1
    · rw [if_pos c] at e; cases e
    rw [if_neg c] at e
    exact sndS_lim ts k _ n (Nat.le_of_not_lt fun x => c (.inr x)) e
theorem snd_list {ts : List Tr} {n : Nat} (h : sndT 0 (.mk true [] ts) = (n, true)) : oddT (.mk true [] ts) = false ∧ oddS ts = false ∧ dpT (.mk true [] ts) ≤ 202 ∧ dpS ts ≤ 1024 ∧ (encT (.mk true [] ts)).length ≤ 1048576 ∧ (encS ts).length ≤ 1048576 := by
  obtain ⟨h1, h2, h3⟩ := sndT_ok _ 0 n h
  rw [sndT] at h
  by_cases c : 200 < 0 ∨ odd1 true [] ts = true
  · rw [if_pos c] at h; cases h
  rw [if_neg c] at h
  have l := sndS_lim ts 0 _ n (by simp) h
  have o := h1
  rw [oddT] at o
  simp only [Bool.or_eq_false_iff] at o
  have d := h2
  rw [dpT] at d
  simp only [if_true] at d
  refine ⟨h1, o.2, by omega, by omega, by omega, ?_⟩
  have e := h3
  rw [encT] at e
  simp only [if_true, List.length_append] at e
  omega
end Go.Proofs.Ytahekhamhdfkdaa

/- Layer 7: the law RlpParts. -/
namespace Go.Proofs.Ytahekhamhdfkdaa
open Go.RowKit Go.Sort
theorem cutA_err : ∀ (n : Nat) (XS : List (List Int)) (A : List Int), (cutA n XS A).1 ≠ 0 → (cutA n XS A).2 = []
  | 0, XS, A, h => by rw [cutA] at h; exact absurd rfl h
  | n + 1, XS, A, h => by
    rw [cutA] at h ⊢
    by_cases k : A.length = 0
    · rw [if_pos k] at h; exact absurd rfl h
    rw [if_neg k] at h ⊢
    by_cases e : (hdP A).2.2.2 ≠ 0
    · rw [if_pos e]
    · rw [if_neg e] at h ⊢
      exact cutA_err n _ _ h
theorem ptP_err {A : List Int} (h : (ptP A).1 ≠ 0) : (ptP A).2 = [] := by
  unfold ptP partsP at h ⊢
  by_cases k : 16777216 < A.length
  · rw [if_pos k]
  rw [if_neg k] at h ⊢
  by_cases e : (hdP A).2.2.2 ≠ 0
  · rw [if_pos e]
  rw [if_neg e] at h ⊢
  by_cases l : (hdP A).1 = false
  · rw [if_pos l]
  rw [if_neg l] at h ⊢
  by_cases t : totP A < A.length
  · rw [if_pos t]
  rw [if_neg t] at h ⊢
  exact cutA_err _ _ _ h
set_option maxRecDepth 100000 in
set_option maxHeartbeats 8000000 in
theorem parts_tail {A : List Int} {a la : Option Addr} {b o c ln lc : Nat} (hA : Byts A) (hl : A.length ≤ 1048576) (hc : A.length ≤ c) (ha : Az a b o A) (w W : World) (B : Below w.heap.size w W) (h : Bz w b o A) (x4 x5 x6 x7 x8 x9 x10 x11 x12 x13 x14 x15 x16 x23 x24 x25 x26 x27 x28 x29 x30 x31 x32 x33 x34 x35 x36 x37 x38 x39 x40 x41 x42 x43 x44 x45 x46 x47 x48 x49 x50 x51 x52 x53 x54 x55 x56 x57 x58 x59 x60 x61 x62 x63 x64 x65 x66 x67 x68 x69 x70 x71 x72 x73 x74 x75 x76 x77 x78 x79 x80 x81 x82 x83 x84 x85 x86 x87 x88 x89 x90 x91 x92 x93 : Value) :
    WpFrom Try.prog Try.f6 4 (bodyPost Try.prog Try.f6 (fun e w' => e = .returned (.bool true) ∧ Below w.heap.size w w')) { tmps := #[.slice la ln lc, .slice a A.length c, undef, undef, x4, x5, x6, x7, x8, x9, x10, x11, x12, x13, x14, x15, x16, undef, undef, undef, undef, undef, undef, x23, x24, x25, x26, x27, x28, x29, x30, x31, x32, x33, x34, x35, x36, x37, x38, x39, x40, x41, x42, x43, x44, x45, x46, x47, x48, x49, x50, x51, x52, x53, x54, x55, x56, x57, x58, x59, x60, x61, x62, x63, x64, x65, x66, x67, x68, x69, x70, x71, x72, x73, x74, x75, x76, x77, x78, x79, x80, x81, x82, x83, x84, x85, x86, x87, x88, x89, x90, x91, x92, x93, undef, undef, undef, undef, undef, undef, undef, undef, undef, undef, undef, undef, undef, undef, undef, undef, undef, undef, undef, undef, undef, undef, undef, undef, undef, undef, undef, undef, undef, undef, undef, undef, undef, undef], defers := [] } W := by
  have PC : Hid (∀ W g, W.cell? ⟨g, 0, none⟩ = some (.int .u8 192) → Calls Try.prog 22 #[.slice (some ⟨g, 0, none⟩) 1 1] W fun e w' => ∃ a c, e = .returned (.tuple #[.slice a 0 c, .int .i64 0]) ∧ Below W.heap.size W w') := fun W g hc => by
    have r := parts_all (A := [192]) (a := some ⟨g, 0, none⟩) (b := g) (o := 0) (c := 1) (fun i => by match i with | 0 => simp | i + 1 => simp) (by simp) (.inr rfl) W (fun i hi => by
      have : i = 0 := by simpa using hi
      subst this; exact hc)
    rw [ptP_c0] at r
    refine r.mono fun e w' ⟨v, VS, h1, h2, h3⟩ => ?_
    obtain ⟨a', b', c', V, rfl, _, _⟩ := h2.pz
    exact ⟨a', c', h1, h3⟩
  have PB : Hid (∀ W, Below w.heap.size w W → Calls Try.prog 22 #[.slice a A.length c] W fun e w' => ∃ a' b' c' V, e = .returned (.tuple #[.slice a' (ptP A).2.length c', .int .i64 (ptP A).1]) ∧ AzP a' b' 0 (ptP A).2 ∧ Pz w' b' 0 (ptP A).2 V ∧ Below W.heap.size W w') := fun W B => (parts_all hA hc ha W (h.keep B)).mono fun e w' ⟨v, VS, h1, h2, h3⟩ => by
    obtain ⟨a', b', c', V, rfl, h4, h5⟩ := h2.pz
    exact ⟨a', b', c', V, h1, h4, h5, h3⟩
  have SM : Hid (∀ W v B, Below w.heap.size w W → OwnB B W v A → Calls Try.prog 14 #[v, .slice a A.length c] W fun e w' => e = .returned (.bool true) ∧ Below W.heap.size W w') := fun W v B bw ho => by
    obtain ⟨a2, g2, p2, c2, rfl, _, z2, _, y2⟩ := ho.tz
    have k := same7_any (c := c2) (c' := c) (X := A) (Z := A) (by omega) z2 ha W y2 (h.keep bw)
    rw [decide_eq_true rfl] at k
    exact k
  have PE : Hid ((ptP A).1 ≠ 0 → (ptP A).2.length = 0) := fun x => by rw [ptP_err x]; rfl
  have JN : Hid ((ptP A).1 = 0 → ∀ W a' b' c' V, AzP a' b' 0 (ptP A).2 → Pz W b' 0 (ptP A).2 V → Calls Try.prog 23 #[.slice a' (ptP A).2.length c'] W fun e w' => ∃ v, e = .returned (.tuple #[v, .int .i64 0]) ∧ OwnB W.heap.size w' v A ∧ Below W.heap.size W w') := fun x W a' b' c' V h1 h2 => by
    obtain ⟨i1, i2, i3, _⟩ := ptP_inv hA (XS := (ptP A).2) (Prod.ext x rfl)
    have r := joinP_any (c := c') (by rw [len_all]; omega) (by omega) h1 W h2
    rw [len_all, fl_all, i1] at r
    exact r
  clear hA hl hc ha h
  generalize ptP A = pt at *
  obtain ⟨pe, XS⟩ := pt
  generalize A.length = m at *
  refine WpFrom.intro rfl ?_
  go_wp2_with fail
  with_reducible refine (PC.out _ W.heap.size (by simp [go_sem])).mono ?_
  rintro e w1 ⟨a1, c1, rfl, hb⟩
  replace B : Below w.heap.size w w1 := (B.alloc B.size _).trans (hb.mono (by have := B.size; simp; omega))
  clear hb
  go_wp2_with fail
  with_reducible refine (PB.out w1 B).mono ?_
  rintro e w2 ⟨a2, b2, c2, V2, rfl, z2, y2, hb⟩
  replace B := B.trans (hb.mono B.size)
  clear hb
  by_cases kp : pe = 0
  · have JN2 : Hid (∀ W a' b' c' V, AzP a' b' 0 XS → Pz W b' 0 XS V → Calls Try.prog 23 #[.slice a' XS.length c'] W fun e w' => ∃ v, e = .returned (.tuple #[v, .int .i64 0]) ∧ OwnB W.heap.size w' v A ∧ Below W.heap.size W w') := JN.out kp
    clear JN PE
    subst kp
    simp only
    go_wp2_with fail
    with_reducible refine (JN2.out w2 a2 b2 c2 V2 z2 y2).mono ?_
    rintro e w3 ⟨v3, rfl, O3, hb⟩
    replace B := B.trans (hb.mono B.size)
    clear hb z2 y2
    go_wp2_with fail
    with_reducible refine (SM.out w3 v3 _ B O3).mono ?_
    rintro e w4 ⟨rfl, hb⟩
    replace B := B.trans (hb.mono B.size)
    go_wp2
    simp [bodyPost, results, Try.results6, go_sem]
    exact B
  · have b6 : (pe == 0) = false := beq_false_of_ne kp
    have b7 : (pe != 0) = true := bne_iff_ne.2 kp
    have pl := PE.out kp
    simp only at pl ⊢
    rw [pl]
    clear JN PE z2 y2 pl
    go_wp2
    simp [bodyPost, results, Try.results6, go_sem]
    exact B
end Go.Proofs.Ytahekhamhdfkdaa

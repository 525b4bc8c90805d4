import Derived.Test.YtahekhamhdfkdaaRyD
import Derived.Test.YtahekhamhdfkdaaRdA
/- Layer 7: Encode. -/
namespace Go.Proofs.Ytahekhamhdfkdaa
open Go.RowKit Go.Sort
theorem ovr_all {L X : List Int} (h : L.length = X.length) : ovr L X.length X = X := by
  unfold ovr
  rw [Nat.sub_self, List.take_zero, List.nil_append, List.drop_of_length_le (by omega), List.append_nil]
theorem Rq.own {W : World} {B gr n : Nat} {L : List Int} (h : Rq W gr L) (hB : B ≤ gr) (hL : L.length = n) (hn : n < 1000000000) : OwnB B W (.slice (some ⟨gr, 0, none⟩) n n) L := by
  subst hL
  refine ⟨by simp, .inr ⟨gr, L.length, (L.map (Value.int .u8)).toArray, rfl, hB, h, Nat.le_refl _, by unfold maxLen; omega, by simp, ?_⟩⟩
  rw [Nat.mul_one]
  exact List.take_of_length_le (by simp)
theorem rq_made {w W : World} {n : Nat} (h : W.ownsRow w.heap.size 5 1 (.slice (some ⟨w.heap.size, 0, none⟩) n n) n (madeCells (Value.int .u8 0).cells (n * 1)).toList) : Rq W w.heap.size (List.replicate n 0) := by
  have r := own_row h
  have e : (madeCells (Value.int .u8 0).cells (n * 1)).toList = (List.replicate n (0 : Int)).map (Value.int .u8) := by
    rw [Nat.mul_one, List.map_replicate]
    exact toList_madeCells_one _ _
  rw [e] at r
  exact r
set_option maxRecDepth 100000 in
set_option maxHeartbeats 4000000 in
/-- The program's Encode, of any tree. -/
theorem Encode_any {t : Tr} {d q : Value} (hw : wtT t < 4194304) (w : World) (h : It w t d q) :
    Calls Try.prog 17 #[itV t d q] w fun e w' => ∃ v', e = .returned (.tuple #[v', .int .i64 (errT t)]) ∧ OwnB w.heap.size w' v' (encZ t) ∧ Below w.heap.size w w' := by
  have M1 : Hid (∀ W, Below w.heap.size w W → Calls Try.prog 19 #[.agg #[.bool t.l, d, q]] W fun e w' => e = .returned (.tuple #[.int .i64 (sizT t), .int .i64 (errT t)]) ∧ Below W.heap.size W w') := fun W B => Size_any hw W (It.keep B t h)
  obtain ⟨i0, hi, hz0, hz1, hz2⟩ := info_parts info_byte
  have HI := h
  obtain ⟨k1, k2, k3, k4, k5, k6, rfl, rfl⟩ := h.slices
  by_cases he : errT t = 0
  · have ho : oddT t = false := by
      cases e : oddT t with
      | false => rfl
      | true => unfold errT at he; rw [if_pos e] at he; cases he
    have hel := encT_len t
    have hsz : sizT t = ((encT t).length : Nat) := by unfold sizT; rw [if_pos he]
    have es : encZ t = encT t := by unfold encZ; rw [if_pos he]
    have PI : Hid (∀ W gr, Below w.heap.size w W → w.heap.size ≤ gr → Rq W gr (List.replicate (encT t).length 0) → Calls Try.prog 35 #[.slice (some ⟨gr, 0, none⟩) (encT t).length (encT t).length, .agg #[.bool t.l, .slice k1 k2 k3, .slice k4 k5 k6]] W fun e w' => (∃ v, e = .returned v) ∧ OwnB w.heap.size w' (.slice (some ⟨gr, 0, none⟩) (encT t).length (encT t).length) (encT t) ∧ W.grownBy w' (some gr)) := fun W gr B hg r => by
      refine (pitem_any t ho hw w HI W B (gr := gr) (m := (encT t).length) (n := (encT t).length) (L := List.replicate (encT t).length 0) hg (by simp) (Nat.le_refl _) (Nat.le_refl _) (by omega) r).mono ?_
      rintro e w' ⟨rfl, r2, g2⟩
      rw [ovr_all (by simp)] at r2
      exact ⟨⟨_, rfl⟩, r2.own hg rfl (by omega), g2⟩
    have hlen : ((encT t).length : Int) ≤ 16777216 := by omega
    rw [es, he]
    rw [he, hsz] at M1
    clear es he ho hel hsz hw HI h
    unfold itV
    generalize t.l = l at *
    generalize hEL : encT t = EX at *
    obtain ⟨n, hn⟩ : ∃ n, n = EX.length := ⟨_, rfl⟩
    rw [← hn] at PI M1 hlen
    have HEL : Hid (n = EX.length) := hn
    clear hn hEL
    go_enter Try.func17, Try.ntmps17
    refine wp_seq_k fun K h => ?_
    have H : Hid _ := h
    clear h
    go_wp2_with fail
    refine H.out _ _ ?_
    clear H K
    refine wp_world (fun W => Below w.heap.size w W ∧ Bx W w.heap.size l (.slice k1 k2 k3) (.slice k4 k5 k6)) ⟨(Below.refl _ _).alloc (Nat.le_refl _) _, ⟨by simp [go_sem], by simp [go_sem], by simp [go_sem]⟩⟩ ?_
    rintro W ⟨B, hX⟩
    have hX' := hX
    obtain ⟨x0, x1, x2⟩ := hX'
    refine wp_seq_k fun K h => ?_
    have H : Hid _ := h
    clear h
    go_wp2_with ((with_reducible refine (M1.out _ B).mono ?_); rintro e1 w1 ⟨rfl, hw1⟩)
    refine H.out _ _ ?_
    clear H K x0 x1 x2 M1
    replace B := B.trans (hw1.mono B.size)
    replace hX := hX.keep hw1
    clear hw1 W
    go_wp2_with (first
      | (at_make; refine wpList_make_full _ rfl _ _ 22 rfl w1.heap.size 5 i0 (.int .u8 0) 1 Try.underlying22 hi hz0 hz1 .i64 .i64 _ _ n rfl rfl rfl rfl (by rw [hz2]; omega) (by unfold maxLen; omega) (Nat.le_refl _) ?_; intro w2 hown hgrow; (have R2 : Rq w2 w1.heap.size (List.replicate n 0) := rq_made hown); (have BB : RowKit.Below w1.heap.size w1 w2 := ⟨hgrow.os, hgrow.tape, hgrow.output, hgrow.size, fun k hk => hgrow.block k hk (by simp)⟩); (have B2 : RowKit.Below w.heap.size w w2 := B.trans (BB.mono B.size)); (obtain ⟨x0, x1, x2⟩ := hX.keep BB))
      | (go_at_call 35; (with_reducible refine (PI.out _ w1.heap.size B2 B.size R2).mono ?_); rintro e3 w3 ⟨⟨v3, rfl⟩, o3, g3⟩))
    simp [bodyPost, results, Try.results17, go_sem]
    exact ⟨o3, below_of_grown B2 g3 fun r e => by have := Option.some.inj e; have := B.size; omega⟩
  · have es : encZ t = [] := by unfold encZ; rw [if_neg he]
    rw [es]
    clear es HI h hw
    unfold itV
    generalize t.l = l at *
    generalize errT t = y at *
    generalize sizT t = z at *
    have he' : (y == 0) = false := by simpa using he
    go_enter Try.func17, Try.ntmps17
    go_wp2_with ((with_reducible refine (M1.out _ ((Below.refl _ _).alloc (Nat.le_refl _) _)).mono ?_); rintro e1 w1 ⟨rfl, hw⟩; (have B1 : Below w.heap.size w w1 := ((Below.refl w.heap.size w).alloc (Nat.le_refl _) _).trans (hw.mono (by simp))))
    all_goals simp [bodyPost, results, Try.results17, go_sem]
    all_goals exact ⟨OwnB.nil _ _, B1⟩
end Go.Proofs.Ytahekhamhdfkdaa

/- Layer 7: the bytes of a tree are bytes. -/
namespace Go.Proofs.Ytahekhamhdfkdaa
open Go.RowKit Go.Sort
theorem beN_bys {n : Nat} (h : n < 16777216) : Bys (beN n) := by
  unfold beN
  intro x hx
  split at hx
  · simp at hx; omega
  · split at hx
    · simp at hx; omega
    · simp at hx; omega
theorem hdR_bys {f : Int} {n : Nat} (hf : f = 128 ∨ f = 192) (h : n < 16777216) : Bys (hdR f n) := by
  unfold hdR
  intro x hx
  split at hx
  · simp at hx; omega
  · have hl := beN_len n
    rcases List.mem_cons.1 hx with e | e
    · omega
    · exact beN_bys h x e
mutual
/-- All texts are bytes. -/
def ByT : Tr → Prop
  | .mk _ X ts => Bys X ∧ ByS ts
def ByS : List Tr → Prop
  | [] => True
  | t :: ts => ByT t ∧ ByS ts
end
mutual
theorem encT_bys : ∀ t : Tr, ByT t → wtT t < 4194304 → Bys (encT t)
  | .mk l X ts => fun h hw => by
    rw [ByT] at h
    rw [wtT] at hw
    have hE := encS_len ts
    rw [encT]
    split
    · exact (hdR_bys (.inr rfl) (by omega)).app (encS_bys ts h.2 (by omega))
    · unfold encX
      split
      · exact h.1
      · exact (hdR_bys (.inl rfl) (by omega)).app h.1
theorem encS_bys : ∀ ts : List Tr, ByS ts → wtS ts < 4194304 → Bys (encS ts)
  | [] => fun _ _ x hx => by rw [encS] at hx; cases hx
  | t :: ts => fun h hw => by
    rw [ByS] at h
    rw [wtS] at hw
    rw [encS]
    exact (encT_bys t h.1 (by omega)).app (encS_bys ts h.2 (by omega))
end
end Go.Proofs.Ytahekhamhdfkdaa

/- Layer 7: what is decoded is what was encoded. -/
namespace Go.Proofs.Ytahekhamhdfkdaa
theorem byts_takeR {l : List Int} (h : Byts l) (k : Nat) : Byts (l.take k) := fun i => by
  by_cases hi : i < k
  · have := h i
    simpa [List.getD, List.getElem?_take, hi] using this
  · simp [List.getD, List.getElem?_take, hi]
/-- The one item that bytes are: the error, the tree. -/
def decP (A : List Int) : Int × Tr := if 16777216 < A.length then (2, zT) else if (dT 0 A).1 ≠ 0 then ((dT 0 A).1, zT) else if totP A < A.length then (73, zT) else (0, (dT 0 A).2)
theorem decP_enc {t : Tr} (ho : oddT t = false) (hd : dpT t ≤ 1024) (hl : (encT t).length < 16777216) : decP (encT t) = (0, t) := by
  obtain ⟨h1, h2⟩ := dT_enc t 0 [] ho (by omega) hl
  rw [List.append_nil] at h1 h2
  unfold decP
  rw [if_neg (by omega), h1, if_neg (by simp), h2, if_neg (by omega)]
/-- With something behind it. -/
theorem decP_rest {t : Tr} {R : List Int} (ho : oddT t = false) (hd : dpT t ≤ 1024) (hl : (encT t ++ R).length ≤ 16777216) (hR : 0 < R.length) : decP (encT t ++ R) = (73, zT) := by
  have hl' := hl
  rw [List.length_append] at hl'
  obtain ⟨h1, h2⟩ := dT_enc t 0 R ho (by omega) (by omega)
  unfold decP
  rw [if_neg (by omega), h1, if_neg (by simp), h2, if_pos (by rw [List.length_append]; omega)]
/-- Cut off anywhere. -/
theorem hd_cut {c : Int} {X : List Int} {k : Nat} (hc : c = 128 ∨ c = 192) (h : X.length < 16777216) (hk : k < (hdR c X.length ++ X).length) : (hdP ((hdR c X.length ++ X).take k)).2.2.2 = 70 := by
  by_cases k0 : k = 0
  · subst k0; rfl
  rw [List.length_append] at hk
  by_cases k1 : (hdR c X.length).length ≤ k
  · have e : (hdR c X.length ++ X).take k = hdR c X.length ++ X.take (k - (hdR c X.length).length) := by
      rw [List.take_append, List.take_of_length_le k1]
    rw [e, hd_fwd hc h, fin7_long (by rw [List.length_append, List.length_take]; omega)]
  · have hk' : k < (hdR c X.length).length := by omega
    have e : (hdR c X.length ++ X).take k = (hdR c X.length).take k := by
      rw [List.take_append_of_le_length (by omega)]
    rw [e]
    unfold hdR at hk' ⊢
    by_cases k2 : X.length ≤ 55
    · rw [if_pos k2] at hk'; simp at hk'; omega
    · rw [if_neg k2] at hk' ⊢
      rw [List.length_cons] at hk'
      obtain ⟨j, rfl⟩ : ∃ j, k = j + 1 := ⟨k - 1, by omega⟩
      rw [List.take_succ_cons]
      have bl := beN_len X.length
      unfold hdP
      rw [if_neg (by simp)]
      simp only [List.getD_cons_zero]
      rw [if_neg (by omega), if_neg (by omega), if_pos (by rw [List.length_cons, List.length_take]; omega)]
theorem encT_cut {t : Tr} {k : Nat} (hl : (encT t).length < 16777216) (hk : k < (encT t).length) : (hdP ((encT t).take k)).2.2.2 = 70 := by
  cases t with
  | mk l X ts =>
    rw [encT] at hl hk ⊢
    cases l with
    | true =>
      simp only [if_true] at hl hk ⊢
      exact hd_cut (.inr rfl) (by rw [List.length_append] at hl; omega) hk
    | false =>
      simp only [Bool.false_eq_true, if_false] at hl hk ⊢
      unfold encX at hl hk ⊢
      by_cases b : bareB X = true
      · rw [if_pos b] at hk ⊢
        obtain ⟨x, rfl, _⟩ := bare_one b
        have : k = 0 := by simpa using hk
        subst this; rfl
      · rw [if_neg b] at hl hk ⊢
        exact hd_cut (.inl rfl) (by rw [List.length_append] at hl; omega) hk
theorem decP_cut {t : Tr} {k : Nat} (hl : (encT t).length < 16777216) (hk : k < (encT t).length) : decP ((encT t).take k) = (70, zT) := by
  have h := encT_cut hl hk
  have e := dT_err 0 (A := (encT t).take k) (by rw [h]; decide)
  unfold decP
  rw [if_neg (by rw [List.length_take]; omega), e, h, if_pos (by decide)]
end Go.Proofs.Ytahekhamhdfkdaa

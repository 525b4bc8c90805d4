import Derived.Test.YtahekhamhdfkdaaRyD
import Derived.Test.YtahekhamhdfkdaaRdA
/- Layer 7: Encode. -/
namespace Go.Proofs.Ytahekhamhdfkdaa
open Go.RowKit Go.Sort
theorem ovr_all {L X : List Int} (h : L.length = X.length) : ovr L X.length X = X := by
  unfold ovr
  rw [Nat.sub_self, List.take_zero, List.nil_append, List.drop_of_length_le (by omega), List.append_nil]
theorem Rq.own {W : World} {B gr n : Nat} {L : List Int} (h : Rq W gr L) (hB : B ≤ gr) (hL : L.length = n) (hn : n < 1000000000) : OwnB B W (.slice (some ⟨gr, 0, none⟩) n n) L := by
  subst hL
  refine ⟨by simp, .inr ⟨gr, L.length, (L.map (Value.int .u8)).toArray, rfl, hB, h, Nat.le_refl _, by unfold maxLen; omega, by simp, ?_⟩⟩
  rw [Nat.mul_one]
  exact List.take_of_length_le (by simp)
theorem rq_made {w W : World} {n : Nat} (h : W.ownsRow w.heap.size 5 1 (.slice (some ⟨w.heap.size, 0, none⟩) n n) n (madeCells (Value.int .u8 0).cells (n * 1)).toList) : Rq W w.heap.size (List.replicate n 0) := by
  have r := own_row h
  have e : (madeCells (Value.int .u8 0).cells (n * 1)).toList = (List.replicate n (0 : Int)).map (Value.int .u8) := by
    rw [Nat.mul_one, List.map_replicate]
    exact toList_madeCells_one _ _
  rw [e] at r
  exact r
set_option maxRecDepth 100000 in
set_option maxHeartbeats 4000000 in
/-- The program's Encode, of any tree. -/
theorem Encode_any {t : Tr} {d q : Value} (hw : wtT t < 4194304) (w : World) (h : It w t d q) :
    Calls Try.prog 17 #[itV t d q] w fun e w' => ∃ v', e = .returned (.tuple #[v', .int .i64 (errT t)]) ∧ OwnB w.heap.size w' v' (encZ t) ∧ Below w.heap.size w w' := by
  have M1 : Hid (∀ W, Below w.heap.size w W → Calls Try.prog 19 #[.agg #[.bool t.l, d, q]] W fun e w' => e = .returned (.tuple #[.int .i64 (sizT t), .int .i64 (errT t)]) ∧ Below W.heap.size W w') := fun W B => Size_any hw W (It.keep B t h)
  obtain ⟨i0, hi, hz0, hz1, hz2⟩ := info_parts info_byte
  have HI := h
  obtain ⟨k1, k2, k3, k4, k5, k6, rfl, rfl⟩ := h.slices
  by_cases he : errT t = 0
  · have ho : oddT t = false := by
      cases e : oddT t with
      | false => rfl
      | true => unfold errT at he; rw [if_pos e] at he; cases he
    have hel := encT_len t
    have hsz : sizT t = ((encT t).length : Nat) := by unfold sizT; rw [if_pos he]
    have es : encZ t = encT t := by unfold encZ; rw [if_pos he]
    have PI : Hid (∀ W gr, Below w.heap.size w W → w.heap.size ≤ gr → Rq W gr (List.replicate (encT t).length 0) → Calls Try.prog 35 #[.slice (some ⟨gr, 0, none⟩) (encT t).length (encT t).length, .agg #[.bool t.l, .slice k1 k2 k3, .slice k4 k5 k6]] W fun e w' => (∃ v, e = .returned v) ∧ OwnB w.heap.size w' (.slice (some ⟨gr, 0, none⟩) (encT t).length (encT t).length) (encT t) ∧ W.grownBy w' (some gr)) := fun W gr B hg r => by
      refine (pitem_any t ho hw w HI W B (gr := gr) (m := (encT t).length) (n := (encT t).length) (L := List.replicate (encT t).length 0) hg (by simp) (Nat.le_refl _) (Nat.le_refl _) (by omega) r).mono ?_
      rintro e w' ⟨rfl, r2, g2⟩
      rw [ovr_all (by simp)] at r2
      exact ⟨⟨_, rfl⟩, r2.own hg rfl (by omega), g2⟩
    have hlen : ((encT t).length : Int) ≤ 16777216 := by omega
    rw [es, he]
    rw [he, hsz] at M1
    clear es he ho hel hsz hw HI h
    unfold itV
    generalize t.l = l at *
    generalize hEL : encT t = EX at *
    obtain ⟨n, hn⟩ : ∃ n, n = EX.length := ⟨_, rfl⟩
    rw [← hn] at PI M1 hlen
    have HEL : Hid (n = EX.length) := hn
    clear hn hEL
    go_enter Try.func17, Try.ntmps17
    refine wp_seq_k fun K h => ?_
    have H : Hid _ := h
    clear h
    go_wp2_with fail
    refine H.out _ _ ?_
    clear H K
    refine wp_world (fun W => Below w.heap.size w W ∧ Bx W w.heap.size l (.slice k1 k2 k3) (.slice k4 k5 k6)) ⟨(Below.refl _ _).alloc (Nat.le_refl _) _, ⟨by simp [go_sem], by simp [go_sem], by simp [go_sem]⟩⟩ ?_
    rintro W ⟨B, hX⟩
    have hX' := hX
    obtain ⟨x0, x1, x2⟩ := hX'
    refine wp_seq_k fun K h => ?_
    have H : Hid _ := h
    clear h
    go_wp2_with ((with_reducible refine (M1.out _ B).mono ?_); rintro e1 w1 ⟨rfl, hw1⟩)
    refine H.out _ _ ?_
    clear H K x0 x1 x2 M1
    replace B := B.trans (hw1.mono B.size)
    replace hX := hX.keep hw1
    clear hw1 W
    go_wp2_with (first
      | (at_make; refine wpList_make_full _ rfl _ _ 22 rfl w1.heap.size 5 i0 (.int .u8 0) 1 Try.underlying22 hi hz0 hz1 .i64 .i64 _ _ n rfl rfl rfl rfl (by rw [hz2]; omega) (by unfold maxLen; omega) (Nat.le_refl _) ?_; intro w2 hown hgrow; (have R2 : Rq w2 w1.heap.size (List.replicate n 0) := rq_made hown); (have BB : RowKit.Below w1.heap.size w1 w2 := ⟨hgrow.os, hgrow.tape, hgrow.output, hgrow.size, fun k hk => hgrow.block k hk (by simp)⟩); (have B2 : RowKit.Below w.heap.size w w2 := B.trans (BB.mono B.size)); (obtain ⟨x0, x1, x2⟩ := hX.keep BB))
      | (go_at_call 35; (with_reducible refine (PI.out _ w1.heap.size B2 B.size R2).mono ?_); rintro e3 w3 ⟨⟨v3, rfl⟩, o3, g3⟩))
    simp [bodyPost, results, Try.results17, go_sem]
    exact ⟨o3, below_of_grown B2 g3 fun r e => by have := Option.some.inj e; have := B.size; omega⟩
  · have es : encZ t = [] := by unfold encZ; rw [if_neg he]
    rw [es]
    clear es HI h hw
    unfold itV
    generalize t.l = l at *
    generalize errT t = y at *
    generalize sizT t = z at *
    have he' : (y == 0) = false := by simpa using he
    go_enter Try.func17, Try.ntmps17
    go_wp2_with ((with_reducible refine (M1.out _ ((Below.refl _ _).alloc (Nat.le_refl _) _)).mono ?_); rintro e1 w1 ⟨rfl, hw⟩; (have B1 : Below w.heap.size w w1 := ((Below.refl w.heap.size w).alloc (Nat.le_refl _) _).trans (hw.mono (by simp))))
    all_goals simp [bodyPost, results, Try.results17, go_sem]
    all_goals exact ⟨OwnB.nil _ _, B1⟩
end Go.Proofs.Ytahekhamhdfkdaa

/- Layer 7: the bytes of a tree are bytes. -/
namespace Go.Proofs.Ytahekhamhdfkdaa
open Go.RowKit Go.Sort
theorem beN_bys {n : Nat} (h : n < 16777216) : Bys (beN n) := by
  unfold beN
  intro x hx
  split at hx
  · simp at hx; omega
  · split at hx
    · simp at hx; omega
    · simp at hx; omega
theorem hdR_bys {f : Int} {n : Nat} (hf : f = 128 ∨ f = 192) (h : n < 16777216) : Bys (hdR f n) := by
  unfold hdR
  intro x hx
  split at hx
  · simp at hx; omega
  · have hl := beN_len n
    rcases List.mem_cons.1 hx with e | e
    · omega
    · exact beN_bys h x e
mutual
/-- All texts are bytes. -/
def ByT : Tr → Prop
  | .mk _ X ts => Bys X ∧ ByS ts
def ByS : List Tr → Prop
  | [] => True
  | t :: ts => ByT t ∧ ByS ts
end
mutual
theorem encT_bys : ∀ t : Tr, ByT t → wtT t < 4194304 → Bys (encT t)
  | .mk l X ts => fun h hw => by
    rw [ByT] at h
    rw [wtT] at hw
    have hE := encS_len ts
    rw [encT]
    split
    · exact (hdR_bys (.inr rfl) (by omega)).app (encS_bys ts h.2 (by omega))
    · unfold encX
      split
      · exact h.1
      · exact (hdR_bys (.inl rfl) (by omega)).app h.1
theorem encS_bys : ∀ ts : List Tr, ByS ts → wtS ts < 4194304 → Bys (encS ts)
  | [] => fun _ _ x hx => by rw [encS] at hx; cases hx
  | t :: ts => fun h hw => by
    rw [ByS] at h
    rw [wtS] at hw
    rw [encS]
    exact (encT_bys t h.1 (by omega)).app (encS_bys ts h.2 (by omega))
end
end Go.Proofs.Ytahekhamhdfkdaa

/- Layer 7: what is decoded is what was encoded. -/
namespace Go.Proofs.Ytahekhamhdfkdaa
theorem take_one {A : List Int} (h : 1 ≤ A.length) : A.take 1 = [A.getD 0 0] := by
  match A, h with
  | a :: A, _ => simp
/-- The head is the one that is written. -/
theorem hd_inv {A : List Int} (hA : Byts A) (hl : A.length ≤ 16777216) (e : (hdP A).2.2.2 = 0) : ((hdP A).2.1 = 0 ∧ (hdP A).1 = false ∧ (hdP A).2.2.1 = 1 ∧ A.getD 0 0 < 128) ∨ (A.take (hdP A).2.1 = hdR (if (hdP A).1 then 192 else 128) (hdP A).2.2.1 ∧ (hdP A).2.1 = (hdR 192 (hdP A).2.2.1).length ∧ ((hdP A).1 = false → bareB (innP A) = false)) := by
  unfold innP
  have hf := hA 0
  unfold hdP at e ⊢
  by_cases k0 : A.length = 0
  · rw [if_pos k0] at e; simp at e
  rw [if_neg k0] at e ⊢
  by_cases k1 : A.getD 0 0 < 128
  · rw [if_pos k1]; exact .inl ⟨rfl, rfl, rfl, k1⟩
  rw [if_neg k1] at e ⊢
  right
  have bare : ∀ {l : Bool} {s h : Nat}, (fin7 A l s h).2.2.2 = 0 → l = false → bareB ((A.drop s).take h) = false := fun {l s h} e hl => by
    unfold fin7 at e
    by_cases k : A.length < s + h
    · rw [if_pos k] at e; simp at e
    · rw [if_neg k] at e
      by_cases k2 : l = false ∧ bareB ((A.drop s).take h) = true
      · rw [if_pos k2] at e; simp at e
      · cases hb : bareB ((A.drop s).take h) with
        | false => rfl
        | true => exact absurd ⟨hl, hb⟩ k2
  by_cases k2 : A.getD 0 0 % 64 ≤ 55
  · rw [if_pos k2] at e ⊢
    have b := bare e
    obtain ⟨q, r⟩ := fin7_fits e
    rw [q]
    have hq : (A.getD 0 0 % 64).toNat ≤ 55 := by omega
    refine ⟨?_, ?_, fun h => b h⟩
    · show A.take 1 = _
      rw [take_one (by omega)]
      unfold hdR
      rw [if_pos hq]
      congr 1
      by_cases k3 : 192 ≤ A.getD 0 0
      · rw [decide_eq_true k3]; simp only [if_true]; omega
      · rw [decide_eq_false k3]; simp only [Bool.false_eq_true, if_false]; omega
    · show 1 = _
      unfold hdR
      rw [if_pos hq]; rfl
  rw [if_neg k2] at e ⊢
  by_cases k3 : A.length - 1 < (A.getD 0 0 % 64).toNat - 55
  · rw [if_pos k3] at e; simp at e
  rw [if_neg k3] at e ⊢
  by_cases k4 : (A.drop 1).getD 0 0 = 0 ∨ lenQ (A.drop 1) ((A.getD 0 0 % 64).toNat - 55) ≤ 55
  · rw [if_pos k4] at e; simp at e
  rw [if_neg k4] at e ⊢
  have b := bare e
  obtain ⟨q, r⟩ := fin7_fits e
  rw [q]
  obtain ⟨n, en⟩ : ∃ n, n = (A.getD 0 0 % 64).toNat - 55 := ⟨_, rfl⟩
  rw [← en] at b k3 k4 r ⊢
  have a0 : (A.drop 1).getD 0 0 ≠ 0 := fun x => k4 (.inl x)
  have a1 : ¬ lenQ (A.drop 1) n ≤ 55 := fun x => k4 (.inr x)
  have hB := byts_dropR hA 1
  have c0 := hB 0
  have n1 : 1 ≤ n := by omega
  obtain ⟨Ln, eL⟩ : ∃ Ln : Nat, Ln = (lenQ (A.drop 1) n).toNat := ⟨_, rfl⟩
  have nn := (lenQ_bound hB n).1
  have eL' : lenQ (A.drop 1) n = (Ln : Int) := by omega
  rw [← eL] at b r ⊢
  have low : ∀ m, 1 ≤ m → 256 ^ (m - 1) ≤ lenQ (A.drop 1) m := by
    intro m hm
    induction m with
    | zero => omega
    | succ m ihm =>
      rw [lenQ]
      have := hB m
      by_cases k : m = 0
      · subst k
        rw [lenQ, Nat.add_sub_cancel, Int.pow_zero]
        omega
      · have := ihm (by omega)
        have e2 : (256 : Int) ^ (m + 1 - 1) = 256 ^ (m - 1) * 256 := by
          rw [show m + 1 - 1 = m - 1 + 1 by omega, Int.pow_succ]
        rw [e2]
        omega
  have n3 : n ≤ 3 := by
    by_cases k : n ≤ 3
    · exact k
    · have h1 := low n n1
      have h2 : (256 : Int) ^ 3 ≤ 256 ^ (n - 1) := by
        have : (256 : Nat) ^ 3 ≤ 256 ^ (n - 1) := Nat.pow_le_pow_right (by decide) (by omega)
        have h3 : (((256 : Nat) ^ 3 : Nat) : Int) ≤ ((256 ^ (n - 1) : Nat) : Int) := Int.ofNat_le.2 this
        rw [Int.natCast_pow, Int.natCast_pow] at h3
        exact h3
      have : (256 : Int) ^ 3 = 16777216 := rfl
      omega
  have be : (beN Ln).length = n ∧ beN Ln = (A.drop 1).take n := by
    have ld : (A.drop 1).length = A.length - 1 := List.length_drop ..
    have b0 := hB 0
    have b1 := hB 1
    have b2 := hB 2
    obtain ⟨D, eD⟩ : ∃ D, D = A.drop 1 := ⟨_, rfl⟩
    rw [← eD] at a0 a1 eL' ld b0 b1 b2 ⊢
    have : n = 1 ∨ n = 2 ∨ n = 3 := by omega
    rcases this with h | h | h <;> rw [h] at eL' ⊢ <;> simp only [lenQ] at eL' <;> unfold beN
    · match D, ld, a0, b0, eL' with
      | [], ld, _, _, _ => simp at ld; omega
      | x :: D, _, a0, b0, eL' =>
        simp at eL' a0 b0
        rw [if_pos (by omega)]
        simp
        omega
    · match D, ld, a0, b0, b1, eL' with
      | [], ld, _, _, _, _ => simp at ld; omega
      | [_], ld, _, _, _, _ => simp at ld; omega
      | x :: y :: D, _, a0, b0, b1, eL' =>
        simp at eL' a0 b0 b1
        rw [if_neg (by omega), if_pos (by omega)]
        simp
        omega
    · match D, ld, a0, b0, b1, b2, eL' with
      | [], ld, _, _, _, _, _ => simp at ld; omega
      | [_], ld, _, _, _, _, _ => simp at ld; omega
      | [_, _], ld, _, _, _, _, _ => simp at ld; omega
      | x :: y :: z :: D, _, a0, b0, b1, b2, eL' =>
        simp at eL' a0 b0 b1 b2
        rw [if_neg (by omega), if_neg (by omega)]
        simp
        omega
  have hL : ¬ Ln ≤ 55 := by omega
  refine ⟨?_, ?_, fun h => b h⟩
  · show A.take (1 + n) = hdR (if decide (192 ≤ A.getD 0 0) = true then 192 else 128) Ln
    unfold hdR
    rw [if_neg hL, be.1, be.2]
    match A, k0 with
    | a :: A, _ =>
      rw [Nat.add_comm 1 n, List.take_succ_cons, List.drop_one, List.tail_cons]
      congr 1
      simp only [List.getD_cons_zero] at en k1 k2 hf ⊢
      by_cases k3 : 192 ≤ a
      · rw [decide_eq_true k3]; simp only [if_true]; omega
      · rw [decide_eq_false k3]; simp only [Bool.false_eq_true, if_false]; omega
  · show 1 + n = _
    unfold hdR
    rw [if_neg hL, List.length_cons, be.1]; omega
end Go.Proofs.Ytahekhamhdfkdaa

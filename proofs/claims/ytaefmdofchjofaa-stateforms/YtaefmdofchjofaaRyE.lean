import Derived.Test.YtaefmdofchjofaaRyC
import Derived.Test.YtaefmdofchjofaaRxL
/- Layer 7: Encode. -/
namespace Go.Proofs.Ytaefmdofchjofaa
open Go.RowKit Go.Sort
theorem ovr_all {L X : List Int} (h : L.length = X.length) : ovr L X.length X = X := by
  unfold ovr
  rw [Nat.sub_self, List.take_zero, List.nil_append, List.drop_of_length_le (by omega), List.append_nil]
theorem Rq.own {W : World} {B gr n : Nat} {L : List Int} (h : Rq W gr L) (hB : B ≤ gr) (hL : L.length = n) (hn : n < 1000000000) : OwnB B W (.slice (some ⟨gr, 0, none⟩) n n) L := by
  subst hL
  refine ⟨by simp, .inr ⟨gr, L.length, (L.map (Value.int .u8)).toArray, rfl, hB, h, Nat.le_refl _, by unfold maxLen; omega, by simp, ?_⟩⟩
  rw [Nat.mul_one]
  exact List.take_of_length_le (by simp)
theorem rq_made {w W : World} {n : Nat} (h : W.ownsRow w.heap.size 5 1 (.slice (some ⟨w.heap.size, 0, none⟩) n n) n (madeCells (Value.int .u8 0).cells (n * 1)).toList) : Rq W w.heap.size (List.replicate n 0) := by
  have r := own_row h
  have e : (madeCells (Value.int .u8 0).cells (n * 1)).toList = (List.replicate n (0 : Int)).map (Value.int .u8) := by
    rw [Nat.mul_one, List.map_replicate]
    exact toList_madeCells_one _ _
  rw [e] at r
  exact r
set_option maxRecDepth 100000 in
set_option maxHeartbeats 4000000 in
/-- The program's Encode, of any tree. -/
theorem Encode_any {t : Tr} {d q : Value} (hw : wtT t < 4194304) (w : World) (h : It w t d q) :
    Calls Try.prog 14 #[itV t d q] w fun e w' => ∃ v', e = .returned (.tuple #[v', .int .i64 (errT t)]) ∧ OwnB w.heap.size w' v' (encZ t) ∧ Below w.heap.size w w' := by
  have M1 : Hid (∀ W, Below w.heap.size w W → Calls Try.prog 32 #[.agg #[.bool t.l, d, q]] W fun e w' => e = .returned (.tuple #[.int .i64 (sizT t), .int .i64 (errT t)]) ∧ Below W.heap.size W w') := fun W B => Size_any hw W (It.keep B t h)
  obtain ⟨i0, hi, hz0, hz1, hz2⟩ := info_parts info_byte
  have HI := h
  obtain ⟨k1, k2, k3, k4, k5, k6, rfl, rfl⟩ := h.slices
  by_cases he : errT t = 0
  · have ho : oddT t = false := by
      cases e : oddT t with
      | false => rfl
      | true => unfold errT at he; rw [if_pos e] at he; cases he
    have hel := encT_len t
    have hsz : sizT t = ((encT t).length : Nat) := by unfold sizT; rw [if_pos he]
    have es : encZ t = encT t := by unfold encZ; rw [if_pos he]
    have PI : Hid (∀ W gr, Below w.heap.size w W → w.heap.size ≤ gr → Rq W gr (List.replicate (encT t).length 0) → Calls Try.prog 33 #[.slice (some ⟨gr, 0, none⟩) (encT t).length (encT t).length, .agg #[.bool t.l, .slice k1 k2 k3, .slice k4 k5 k6]] W fun e w' => (∃ v, e = .returned v) ∧ OwnB w.heap.size w' (.slice (some ⟨gr, 0, none⟩) (encT t).length (encT t).length) (encT t) ∧ W.grownBy w' (some gr)) := fun W gr B hg r => by
      refine (pitem_any t ho hw w HI W B (gr := gr) (m := (encT t).length) (n := (encT t).length) (L := List.replicate (encT t).length 0) hg (by simp) (Nat.le_refl _) (Nat.le_refl _) (by omega) r).mono ?_
      rintro e w' ⟨rfl, r2, g2⟩
      rw [ovr_all (by simp)] at r2
      exact ⟨⟨_, rfl⟩, r2.own hg rfl (by omega), g2⟩
    have hlen : ((encT t).length : Int) ≤ 16777216 := by omega
    rw [es, he]
    rw [he, hsz] at M1
    clear es he ho hel hsz hw HI h
    unfold itV
    generalize t.l = l at *
    generalize hEL : encT t = EX at *
    obtain ⟨n, hn⟩ : ∃ n, n = EX.length := ⟨_, rfl⟩
    rw [← hn] at PI M1 hlen
    have HEL : Hid (n = EX.length) := hn
    clear hn hEL
    go_enter Try.func14, Try.ntmps14
    refine wp_seq_k fun K h => ?_
    have H : Hid _ := h
    clear h
    go_wp2_with fail
    refine H.out _ _ ?_
    clear H K
    refine wp_world (fun W => Below w.heap.size w W ∧ Bx W w.heap.size l (.slice k1 k2 k3) (.slice k4 k5 k6)) ⟨(Below.refl _ _).alloc (Nat.le_refl _) _, ⟨by simp [go_sem], by simp [go_sem], by simp [go_sem]⟩⟩ ?_
    rintro W ⟨B, hX⟩
    have hX' := hX
    obtain ⟨x0, x1, x2⟩ := hX'
    refine wp_seq_k fun K h => ?_
    have H : Hid _ := h
    clear h
    go_wp2_with ((with_reducible refine (M1.out _ B).mono ?_); rintro e1 w1 ⟨rfl, hw1⟩)
    refine H.out _ _ ?_
    clear H K x0 x1 x2 M1
    replace B := B.trans (hw1.mono B.size)
    replace hX := hX.keep hw1
    clear hw1 W
    go_wp2_with (first
      | (at_make; refine wpList_make_full _ rfl _ _ 29 rfl w1.heap.size 5 i0 (.int .u8 0) 1 Try.underlying29 hi hz0 hz1 .i64 .i64 _ _ n rfl rfl rfl rfl (by rw [hz2]; omega) (by unfold maxLen; omega) (Nat.le_refl _) ?_; intro w2 hown hgrow; (have R2 : Rq w2 w1.heap.size (List.replicate n 0) := rq_made hown); (have BB : RowKit.Below w1.heap.size w1 w2 := ⟨hgrow.os, hgrow.tape, hgrow.output, hgrow.size, fun k hk => hgrow.block k hk (by simp)⟩); (have B2 : RowKit.Below w.heap.size w w2 := B.trans (BB.mono B.size)); (obtain ⟨x0, x1, x2⟩ := hX.keep BB))
      | (go_at_call 33; (with_reducible refine (PI.out _ w1.heap.size B2 B.size R2).mono ?_); rintro e3 w3 ⟨⟨v3, rfl⟩, o3, g3⟩))
    simp [bodyPost, results, Try.results14, go_sem]
    exact ⟨o3, below_of_grown B2 g3 fun r e => by have := Option.some.inj e; have := B.size; omega⟩
  · have es : encZ t = [] := by unfold encZ; rw [if_neg he]
    rw [es]
    clear es HI h hw
    unfold itV
    generalize t.l = l at *
    generalize errT t = y at *
    generalize sizT t = z at *
    have he' : (y == 0) = false := by simpa using he
    go_enter Try.func14, Try.ntmps14
    go_wp2_with ((with_reducible refine (M1.out _ ((Below.refl _ _).alloc (Nat.le_refl _) _)).mono ?_); rintro e1 w1 ⟨rfl, hw⟩; (have B1 : Below w.heap.size w w1 := ((Below.refl w.heap.size w).alloc (Nat.le_refl _) _).trans (hw.mono (by simp))))
    all_goals simp [bodyPost, results, Try.results14, go_sem]
    all_goals exact ⟨OwnB.nil _ _, B1⟩
end Go.Proofs.Ytaefmdofchjofaa

/- Layer 7: the bytes of a tree are bytes. -/
namespace Go.Proofs.Ytaefmdofchjofaa
open Go.RowKit Go.Sort
mutual
/-- All texts are bytes. -/
def ByT : Tr → Prop
  | .mk _ X ts => Bys X ∧ ByS ts
def ByS : List Tr → Prop
  | [] => True
  | t :: ts => ByT t ∧ ByS ts
end
end Go.Proofs.Ytaefmdofchjofaa

/- Layer 7: what is decoded is what was encoded. -/
namespace Go.Proofs.Ytaefmdofchjofaa
theorem take_one {A : List Int} (h : 1 ≤ A.length) : A.take 1 = [A.getD 0 0] := by
  match A, h with
  | a :: A, _ => simp
/-- The head is the one that is written. -/
theorem hd_inv {A : List Int} (hA : Byts A) (hl : A.length ≤ 16777216) (e : (hdP A).2.2.2 = 0) : ((hdP A).2.1 = 0 ∧ (hdP A).1 = false ∧ (hdP A).2.2.1 = 1 ∧ A.getD 0 0 < 128) ∨ (A.take (hdP A).2.1 = hdR (if (hdP A).1 then 192 else 128) (hdP A).2.2.1 ∧ (hdP A).2.1 = (hdR 192 (hdP A).2.2.1).length ∧ ((hdP A).1 = false → bareB (innP A) = false)) := by
  unfold innP
  have hf := hA 0
  unfold hdP at e ⊢
  by_cases k0 : A.length = 0
  · rw [if_pos k0] at e; simp at e
  rw [if_neg k0] at e ⊢
  by_cases k1 : A.getD 0 0 < 128
  · rw [if_pos k1]; exact .inl ⟨rfl, rfl, rfl, k1⟩
  rw [if_neg k1] at e ⊢
  right
  have bare : ∀ {l : Bool} {s h : Nat}, (fin7 A l s h).2.2.2 = 0 → l = false → bareB ((A.drop s).take h) = false := fun {l s h} e hl => by
    unfold fin7 at e
    by_cases k : A.length < s + h
    · rw [if_pos k] at e; simp at e
    · rw [if_neg k] at e
      by_cases k2 : l = false ∧ bareB ((A.drop s).take h) = true
      · rw [if_pos k2] at e; simp at e
      · cases hb : bareB ((A.drop s).take h) with
        | false => rfl
        | true => exact absurd ⟨hl, hb⟩ k2
  by_cases k2 : A.getD 0 0 % 64 ≤ 55
  · rw [if_pos k2] at e ⊢
    have b := bare e
    obtain ⟨q, r⟩ := fin7_fits e
    rw [q]
    have hq : (A.getD 0 0 % 64).toNat ≤ 55 := by omega
    refine ⟨?_, ?_, fun h => b h⟩
    · show A.take 1 = _
      rw [take_one (by omega)]
      unfold hdR
      rw [if_pos hq]
      congr 1
      by_cases k3 : 192 ≤ A.getD 0 0
      · rw [decide_eq_true k3]; simp only [if_true]; omega
      · rw [decide_eq_false k3]; simp only [Bool.false_eq_true, if_false]; omega
    · show 1 = _
      unfold hdR
      rw [if_pos hq]; rfl
  rw [if_neg k2] at e ⊢
  by_cases k3 : A.length - 1 < (A.getD 0 0 % 64).toNat - 55
  · rw [if_pos k3] at e; simp at e
  rw [if_neg k3] at e ⊢
  by_cases k4 : (A.drop 1).getD 0 0 = 0 ∨ lenQ (A.drop 1) ((A.getD 0 0 % 64).toNat - 55) ≤ 55
  · rw [if_pos k4] at e; simp at e
  rw [if_neg k4] at e ⊢
  have b := bare e
  obtain ⟨q, r⟩ := fin7_fits e
  rw [q]
  obtain ⟨n, en⟩ : ∃ n, n = (A.getD 0 0 % 64).toNat - 55 := ⟨_, rfl⟩
  rw [← en] at b k3 k4 r ⊢
  have a0 : (A.drop 1).getD 0 0 ≠ 0 := fun x => k4 (.inl x)
  have a1 : ¬ lenQ (A.drop 1) n ≤ 55 := fun x => k4 (.inr x)
  have hB := byts_dropR hA 1
  have c0 := hB 0
  have n1 : 1 ≤ n := by omega
  obtain ⟨Ln, eL⟩ : ∃ Ln : Nat, Ln = (lenQ (A.drop 1) n).toNat := ⟨_, rfl⟩
  have nn := (lenQ_bound hB n).1
  have eL' : lenQ (A.drop 1) n = (Ln : Int) := by omega
  rw [← eL] at b r ⊢
  have low : ∀ m, 1 ≤ m → 256 ^ (m - 1) ≤ lenQ (A.drop 1) m := by
    intro m hm
    induction m with
    | zero => omega
    | succ m ihm =>
      rw [lenQ]
      have := hB m
      by_cases k : m = 0
      · subst k
        rw [lenQ, Nat.add_sub_cancel, Int.pow_zero]
        omega
      · have := ihm (by omega)
        have e2 : (256 : Int) ^ (m + 1 - 1) = 256 ^ (m - 1) * 256 := by
          rw [show m + 1 - 1 = m - 1 + 1 by omega, Int.pow_succ]
        rw [e2]
        omega
  have n3 : n ≤ 3 := by
    by_cases k : n ≤ 3
    · exact k
    · have h1 := low n n1
      have h2 : (256 : Int) ^ 3 ≤ 256 ^ (n - 1) := by
        have : (256 : Nat) ^ 3 ≤ 256 ^ (n - 1) := Nat.pow_le_pow_right (by decide) (by omega)
        have h3 : (((256 : Nat) ^ 3 : Nat) : Int) ≤ ((256 ^ (n - 1) : Nat) : Int) := Int.ofNat_le.2 this
        rw [Int.natCast_pow, Int.natCast_pow] at h3
        exact h3
      have : (256 : Int) ^ 3 = 16777216 := rfl
      omega
  have be : (beN Ln).length = n ∧ beN Ln = (A.drop 1).take n := by
    have ld : (A.drop 1).length = A.length - 1 := List.length_drop ..
    have b0 := hB 0
    have b1 := hB 1
    have b2 := hB 2
    obtain ⟨D, eD⟩ : ∃ D, D = A.drop 1 := ⟨_, rfl⟩
    rw [← eD] at a0 a1 eL' ld b0 b1 b2 ⊢
    have : n = 1 ∨ n = 2 ∨ n = 3 := by omega
    rcases this with h | h | h <;> rw [h] at eL' ⊢ <;> simp only [lenQ] at eL' <;> unfold beN
    · match D, ld, a0, b0, eL' with
      | [], ld, _, _, _ => simp at ld; omega
      | x :: D, _, a0, b0, eL' =>
        simp at eL' a0 b0
        rw [if_pos (by omega)]
        simp
        omega
    · match D, ld, a0, b0, b1, eL' with
      | [], ld, _, _, _, _ => simp at ld; omega
      | [_], ld, _, _, _, _ => simp at ld; omega
      | x :: y :: D, _, a0, b0, b1, eL' =>
        simp at eL' a0 b0 b1
        rw [if_neg (by omega), if_pos (by omega)]
        simp
        omega
    · match D, ld, a0, b0, b1, b2, eL' with
      | [], ld, _, _, _, _, _ => simp at ld; omega
      | [_], ld, _, _, _, _, _ => simp at ld; omega
      | [_, _], ld, _, _, _, _, _ => simp at ld; omega
      | x :: y :: z :: D, _, a0, b0, b1, b2, eL' =>
        simp at eL' a0 b0 b1 b2
        rw [if_neg (by omega), if_neg (by omega)]
        simp
        omega
  have hL : ¬ Ln ≤ 55 := by omega
  refine ⟨?_, ?_, fun h => b h⟩
  · show A.take (1 + n) = hdR (if decide (192 ≤ A.getD 0 0) = true then 192 else 128) Ln
    unfold hdR
    rw [if_neg hL, be.1, be.2]
    match A, k0 with
    | a :: A, _ =>
      rw [Nat.add_comm 1 n, List.take_succ_cons, List.drop_one, List.tail_cons]
      congr 1
      simp only [List.getD_cons_zero] at en k1 k2 hf ⊢
      by_cases k3 : 192 ≤ a
      · rw [decide_eq_true k3]; simp only [if_true]; omega
      · rw [decide_eq_false k3]; simp only [Bool.false_eq_true, if_false]; omega
  · show 1 + n = _
    unfold hdR
    rw [if_neg hL, List.length_cons, be.1]; omega
theorem take_tot (A : List Int) : A.take (totP A) = A.take (hdP A).2.1 ++ innP A := by
  unfold totP innP
  rw [List.take_add]
theorem byts_takeR {l : List Int} (h : Byts l) (k : Nat) : Byts (l.take k) := fun i => by
  by_cases hi : i < k
  · have := h i
    simpa [List.getD, List.getElem?_take, hi] using this
  · simp [List.getD, List.getElem?_take, hi]
theorem byts_innP {A : List Int} (h : Byts A) : Byts (innP A) := byts_takeR (byts_dropR h _) _
theorem byts_bys {A : List Int} (h : Byts A) : Bys A := fun x hx => by
  obtain ⟨i, hi, rfl⟩ := List.mem_iff_getElem.1 hx
  have := h i
  simpa [List.getD, List.getElem?_eq_getElem hi] using this
/-- What is decoded is what was encoded. -/
theorem dec_inv : ∀ (N : Nat), (∀ (k : Nat) (A : List Int) (t : Tr), 2 * A.length + 1 ≤ N → Byts A → A.length ≤ 16777216 → k ≤ 1024 → dT k A = (0, t) → encT t = A.take (totP A) ∧ oddT t = false ∧ k + dpT t ≤ 1024 ∧ ByT t ∧ wtT t ≤ 2 * totP A) ∧
    (∀ (k : Nat) (A : List Int) (ts : List Tr), 2 * A.length + 2 ≤ N → Byts A → A.length ≤ 16777216 → k ≤ 1024 → dS k A = (0, ts) → encS ts = A ∧ oddS ts = false ∧ k + dpS ts ≤ 1024 ∧ ByS ts ∧ wtS ts ≤ 2 * A.length)
  | 0 => ⟨fun _ _ _ h => by omega, fun _ _ _ h => by omega⟩
  | N + 1 => by
    obtain ⟨ihT, ihS⟩ := dec_inv N
    refine ⟨fun k A t hN hA hl hk h => ?_, fun k A ts hN hA hl hk h => ?_⟩
    · have e := dT_ok (k := k) (A := A) (by rw [h])
      have tf := totP_fits e
      have il := innP_len e
      have tt := take_tot A
      have ef : totP A = (hdP A).2.1 + (hdP A).2.2.1 := rfl
      have hi := hd_inv hA hl e
      by_cases l : (hdP A).1 = false
      · rw [dT_text k e l] at h
        injection h with _ h
        subst h
        rw [encT, oddT, dpT, ByT, wtT, wtS, oddS, ByS]
        simp only [Bool.false_eq_true, if_false]
        refine ⟨?_, by simp [odd1], by omega, ⟨byts_bys (byts_innP hA), trivial⟩, by omega⟩
        rw [tt]
        unfold encX
        rcases hi with ⟨h1, h2, h3, h4⟩ | ⟨h1, h2, h3⟩
        · have b : bareB (innP A) = true := by
            unfold bareB
            rw [il, h3]
            have : (innP A).getD 0 0 = A.getD 0 0 := by
              unfold innP
              rw [h1, h3]
              simp [List.getD]
            rw [this, decide_eq_true h4]; rfl
          rw [if_pos b, h1]; rfl
        · rw [if_neg (by rw [h3 l]; decide), h1, l, il]; rfl
      · have l' : (hdP A).1 = true := by simpa using l
        by_cases d : 1024 ≤ k
        · rw [dT_deep e l' d] at h
          injection h with h _
          cases h
        · rw [dT_list e l' d] at h
          unfold listR at h
          cases hS : dS (k + 1) (innP A) with | mk e1 us => ?_
          rw [hS] at h
          simp only at h
          by_cases z : e1 = 0
          · rw [if_pos z] at h
            injection h with _ h
            subst h
            subst z
            have sz := hdP_size e l'
            obtain ⟨r1, r2, r3, r4, r5⟩ := ihS (k + 1) (innP A) us (by omega) (byts_innP hA) (by omega) (by omega) hS
            rw [encT, oddT, dpT, ByT, wtT]
            simp only [if_true]
            refine ⟨?_, by rw [r2]; simp [odd1], by omega, ⟨fun x hx => (by cases hx), r4⟩, by simp; omega⟩
            rw [tt, r1]
            rcases hi with ⟨h1, h2, h3, h4⟩ | ⟨h1, h2, h3⟩
            · rw [l'] at h2; cases h2
            · rw [h1, l', il]; rfl
          · rw [if_neg z] at h
            injection h with h _
            exact absurd h z
    · by_cases z : A.length = 0
      · rw [dS_nil k z] at h
        injection h with _ h
        subst h
        rw [encS, oddS, dpS, ByS, wtS]
        exact ⟨(List.eq_nil_of_length_eq_zero z).symm, rfl, by omega, trivial, by omega⟩
      · rw [dS_cons k z] at h
        unfold consR at h
        cases hT : dT k A with | mk e1 u => ?_
        cases hS : dS k (A.drop (totP A)) with | mk e2 us => ?_
        rw [hT, hS] at h
        simp only at h
        by_cases z1 : e1 = 0
        · rw [if_pos z1] at h
          by_cases z2 : e2 = 0
          · rw [if_pos z2] at h
            injection h with _ h
            subst h
            subst z1 z2
            have tf := totP_fits (dT_ok (k := k) (A := A) (by rw [hT]))
            have ld : (A.drop (totP A)).length = A.length - totP A := List.length_drop ..
            obtain ⟨q1, q2, q3, q4, q5⟩ := ihT k A u (by omega) hA hl hk hT
            obtain ⟨r1, r2, r3, r4, r5⟩ := ihS k (A.drop (totP A)) us (by omega) (byts_dropR hA _) (by omega) hk hS
            rw [encS, oddS, dpS, ByS, wtS]
            refine ⟨by rw [q1, r1, List.take_append_drop], by rw [q2, r2]; rfl, by omega, ⟨q4, r4⟩, by omega⟩
          · rw [if_neg z2] at h
            injection h with h _
            exact absurd h z2
        · rw [if_neg z1] at h
          injection h with h _
          exact absurd h z1
/-- The one item that bytes are: the error, the tree. -/
def decP (A : List Int) : Int × Tr := if 16777216 < A.length then (2, zT) else if (dT 0 A).1 ≠ 0 then ((dT 0 A).1, zT) else if totP A < A.length then (73, zT) else (0, (dT 0 A).2)
/-- What Decode takes is what Encode writes. -/
theorem decP_inv {A : List Int} {t : Tr} (hA : Byts A) (h : decP A = (0, t)) : encT t = A ∧ oddT t = false ∧ dpT t ≤ 1024 ∧ ByT t ∧ wtT t ≤ 2 * A.length ∧ A.length ≤ 16777216 := by
  unfold decP at h
  by_cases k1 : 16777216 < A.length
  · rw [if_pos k1] at h; injection h with h _; cases h
  rw [if_neg k1] at h
  by_cases k2 : (dT 0 A).1 ≠ 0
  · rw [if_pos k2] at h; injection h with h _; exact absurd h k2
  rw [if_neg k2] at h
  by_cases k3 : totP A < A.length
  · rw [if_pos k3] at h; injection h with h _; cases h
  rw [if_neg k3] at h
  injection h with _ h
  have z := Decidable.not_not.1 k2
  have tf := totP_fits (dT_ok z)
  obtain ⟨q1, q2, q3, q4, q5⟩ := (dec_inv (2 * A.length + 1)).1 0 A t (Nat.le_refl _) hA (by omega) (by omega) (Prod.ext z h)
  rw [show totP A = A.length by omega] at q1 q5
  rw [List.take_length] at q1
  exact ⟨q1, q2, by omega, q4, q5, by omega⟩
end Go.Proofs.Ytaefmdofchjofaa

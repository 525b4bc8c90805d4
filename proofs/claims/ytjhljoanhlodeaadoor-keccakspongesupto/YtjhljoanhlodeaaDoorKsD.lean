import Derived.Test.YtjhljoanhlodeaaDoorKsC
/- Layer 2: a sponge and the document's, side by side. -/
namespace Go.Proofs.YtjhljoanhlodeaaDoor
open Go.RowKit Go.Sort
/-- A sponge of the program, or none; o: its blocks. -/
def PP (W : World) (vp : Value) (e : Option (Int × List (BitVec 8))) (o : Nat → Prop) : Prop :=
  match e with
  | none => vp = .pointer none ∧ ∀ k, ¬ o k
  | some (k, X) => ∃ b, vp = .pointer (some ⟨b, 0, none⟩) ∧ (k = 0 ∨ k = 1) ∧ Sp W b k (absb (List.replicate 25 0) 0 X) X.length ∧ ∀ j, o j ↔ j = b
/-- One of the document's, or none. -/
def DD (W : World) (B : Nat) (vd : Value) (e : Option (Int × List (BitVec 8))) (o : Nat → Prop) : Prop :=
  match e with
  | none => vd = .pointer none ∧ ∀ k, ¬ o k
  | some (k, X) => ∃ b v, vd = .pointer (some ⟨b, 0, none⟩) ∧ (k = 0 ∨ k = 1) ∧ Dp W B b k v X ∧ ∀ j, o j ↔ j = b ∨ v.ownBlock = some j
def lenE : Option (Int × List (BitVec 8)) → Nat
  | none => 0
  | some (_, X) => X.length
noncomputable def sumE : Option (Int × List (BitVec 8)) → List (BitVec 8)
  | none => List.replicate 32 0
  | some (k, X) => digL k X
theorem sumE_len : ∀ e, (sumE e).length = 32
  | none => by simp [sumE]
  | some (k, X) => digL_len k X
def wrE (Z : List (BitVec 8)) : Option (Int × List (BitVec 8)) → Option (Int × List (BitVec 8))
  | none => none
  | some (k, X) => some (k, X ++ Z)
def rsE : Option (Int × List (BitVec 8)) → Option (Int × List (BitVec 8))
  | none => none
  | some (k, _) => some (k, [])
def nwE (k : Int) : Option (Int × List (BitVec 8)) := if k = 0 ∨ k = 1 then some (k, []) else none
def nwN (k : Int) : Int := if k = 0 ∨ k = 1 then 0 else 1
theorem lenE_wr (Z : List (BitVec 8)) : ∀ e, lenE (wrE Z e) ≤ lenE e + Z.length
  | none => by simp [wrE, lenE]
  | some (k, X) => by simp [wrE, lenE]
theorem lenE_rs : ∀ e, lenE (rsE e) = 0
  | none => rfl
  | some (_, _) => rfl
theorem lenE_nw (k : Int) : lenE (nwE k) = 0 := by unfold nwE; split <;> rfl
theorem PP.same {W W' : World} {vp : Value} {e : Option (Int × List (BitVec 8))} {o : Nat → Prop} (h : PP W vp e o) (hs : ∀ k, o k → W'.heap[k]? = W.heap[k]?) : PP W' vp e o := by
  match e, h with
  | none, h => exact h
  | some (k, X), ⟨b, h1, h2, h3, h4⟩ => exact ⟨b, h1, h2, h3.same (hs b ((h4 b).2 rfl)), h4⟩
theorem PP.lt {W : World} {vp : Value} {e : Option (Int × List (BitVec 8))} {o : Nat → Prop} (h : PP W vp e o) {k : Nat} (hk : o k) : k < W.heap.size := by
  match e, h with
  | none, h => exact absurd hk (h.2 k)
  | some (q, X), ⟨b, h1, h2, h3, h4⟩ => obtain rfl := (h4 k).1 hk; exact h3.lt
theorem DD.same {W W' : World} {B : Nat} {vd : Value} {e : Option (Int × List (BitVec 8))} {o : Nat → Prop} (h : DD W B vd e o) (hs : ∀ k, o k → W'.heap[k]? = W.heap[k]?) : DD W' B vd e o := by
  match e, h with
  | none, h => exact h
  | some (k, X), ⟨b, v, h1, h2, h3, h4⟩ => exact ⟨b, v, h1, h2, h3.same (hs b ((h4 b).2 (.inl rfl))) (fun j hj => hs j ((h4 j).2 (.inr hj))), h4⟩
theorem DD.lt {W : World} {B : Nat} {vd : Value} {e : Option (Int × List (BitVec 8))} {o : Nat → Prop} (h : DD W B vd e o) {k : Nat} (hk : o k) : k < W.heap.size := by
  match e, h with
  | none, h => exact absurd hk (h.2 k)
  | some (q, X), ⟨b, v, h1, h2, h3, h4⟩ =>
    rcases (h4 k).1 hk with rfl | hv
    · exact h3.lt
    · exact (h3.own.row.lt k hv).2
theorem Own.base {B B' : Nat} {W : World} {v : Value} {X : List (BitVec 8)} (h : Own B W v X) (hB : B' ≤ B) : Own B' W v X := by
  refine ⟨h.1, ?_⟩
  rcases h.2 with h | ⟨g, cap, cur, rfl, hb, r⟩
  · exact .inl h
  · exact .inr ⟨g, cap, cur, rfl, by omega, r⟩
theorem Dp.base {W : World} {B B' bd : Nat} {k : Int} {v : Value} {X : List (BitVec 8)} (h : Dp W B bd k v X) (hB : B' ≤ B) : Dp W B' bd k v X := ⟨h.kind, h.all, h.f0, h.f1, h.own.base hB, h.ne⟩
theorem P_sum {W : World} {vp : Value} {e : Option (Int × List (BitVec 8))} {o : Nat → Prop} (h : PP W vp e o) (hl : lenE e < 1073741824) (ht : Tab W 2 turnsN) (hm : Lns W 0 marksN) :
    Calls Tryd.prog 5 #[vp] W fun r w' => r = .returned (.agg (byts (sumE e)).toArray) ∧ Below W.heap.size W w' := by
  match e, h with
  | none, h => obtain ⟨rfl, _⟩ := h; exact sumS_nil W
  | some (k, X), ⟨b, h1, h2, h3, h4⟩ => subst h1; exact ssum_any hl W h3 ht hm
theorem P_len {W : World} {vp : Value} {e : Option (Int × List (BitVec 8))} {o : Nat → Prop} (h : PP W vp e o) :
    Calls Tryd.prog 7 #[vp] W fun r w' => r = .returned (.int .i64 (lenE e : Int)) ∧ Below W.heap.size W w' := by
  match e, h with
  | none, h => obtain ⟨rfl, _⟩ := h; exact (lenS_nil W).mono fun r w' ⟨h1, h2⟩ => ⟨h1, by rw [h2]; exact Below.refl _ _⟩
  | some (k, X), ⟨b, h1, h2, h3, h4⟩ => subst h1; exact (len_any W h3.2.2.2.1).mono fun r w' ⟨h1, h2⟩ => ⟨h1, by rw [h2]; exact Below.refl _ _⟩
theorem P_write {W : World} {vp : Value} {e : Option (Int × List (BitVec 8))} {o : Nat → Prop} {a : Option Addr} {g p c : Nat} {Z : List (BitVec 8)} (h : PP W vp e o) (hl : lenE e + Z.length < 1073741824) (hc : Z.length ≤ c) (ha : At a g p Z) (ng : ¬ o g) (nt : ¬ o 2) (nm : ¬ o 0) (hZ : Byo W g p Z) (ht : Tab W 2 turnsN) (hm : Lns W 0 marksN) :
    Calls Tryd.prog 14 #[vp, .slice a Z.length c] W fun r w' => r = .returned (.tuple #[]) ∧ PP w' vp (wrE Z e) o ∧ Chg o W w' := by
  match e, h with
  | none, h => obtain ⟨rfl, h2⟩ := h; exact (write_nil _ W).mono fun r w' ⟨q1, q2⟩ => ⟨q1, ⟨rfl, h2⟩, by rw [q2]; exact Chg.refl _ _⟩
  | some (k, X), ⟨b, h1, h2, h3, h4⟩ =>
    subst h1
    have ob := (h4 b).2 rfl
    refine (write_any (fun e => ng (by rw [e]; exact ob)) (fun e => nt (by rw [e]; exact ob)) (fun e => nm (by rw [e]; exact ob)) hl hc ha W h3 hZ ht hm).mono fun r w' ⟨q1, q2, q3⟩ => ⟨q1, ⟨b, rfl, h2, ?_, h4⟩, (Chg.of_off q3).mono fun j hj => (h4 j).2 hj⟩
    rw [absb_app, Nat.zero_add, List.length_append]
    exact q2
theorem P_reset {W : World} {vp : Value} {e : Option (Int × List (BitVec 8))} {o : Nat → Prop} (h : PP W vp e o) :
    Calls Tryd.prog 17 #[vp] W fun r w' => r = .returned (.tuple #[]) ∧ PP w' vp (rsE e) o ∧ Chg o W w' := by
  match e, h with
  | none, h => obtain ⟨rfl, h2⟩ := h; exact (reset_nil W).mono fun r w' ⟨q1, q2⟩ => ⟨q1, ⟨rfl, h2⟩, by rw [q2]; exact Chg.refl _ _⟩
  | some (k, X), ⟨b, h1, h2, h3, h4⟩ =>
    subst h1
    exact (reset_any W h3).mono fun r w' ⟨q1, q2, q3⟩ => ⟨q1, ⟨b, rfl, h2, q2, h4⟩, (Chg.of_off q3).mono fun j hj => (h4 j).2 hj⟩
theorem P_copy {W : World} {vp : Value} {e : Option (Int × List (BitVec 8))} {o : Nat → Prop} (h : PP W vp e o) :
    Calls Tryd.prog 19 #[vp] W fun r w' => ∃ vp' o', r = .returned vp' ∧ PP w' vp' e o' ∧ (∀ k, o' k → W.heap.size ≤ k) ∧ Below W.heap.size W w' := by
  match e, h with
  | none, h => obtain ⟨rfl, h2⟩ := h; exact (copyS_nil W).mono fun r w' ⟨q1, q2⟩ => ⟨_, o, q1, ⟨rfl, h2⟩, fun k hk => absurd hk (h2 k), by rw [q2]; exact Below.refl _ _⟩
  | some (k, X), ⟨b, h1, h2, h3, h4⟩ =>
    subst h1
    exact (copyS_any W h3).mono fun r w' ⟨q1, q2, q3⟩ => ⟨_, fun j => j = W.heap.size, q1, ⟨_, rfl, h2, q2, fun j => Iff.rfl⟩, fun j hj => Nat.le_of_eq hj.symm, q3⟩
theorem P_new (k : Int) (W : World) : Calls Tryd.prog 10 #[.int .i64 k] W fun r w' => ∃ vp' o', r = .returned (.tuple #[vp', .int .i64 (nwN k)]) ∧ PP w' vp' (nwE k) o' ∧ (∀ k, o' k → W.heap.size ≤ k) ∧ Below W.heap.size W w' := by
  unfold nwE nwN
  by_cases h : k = 0 ∨ k = 1
  · rw [if_pos h, if_pos h]
    rcases h with rfl | rfl
    · exact (new0_any W).mono fun r w' ⟨g, q1, q2, q3, q4⟩ => ⟨_, fun j => j = g, q1, ⟨g, rfl, .inl rfl, q3, fun j => Iff.rfl⟩, fun j hj => by rw [hj]; exact q2, q4⟩
    · exact (new1_any W).mono fun r w' ⟨g, q1, q2, q3, q4⟩ => ⟨_, fun j => j = g, q1, ⟨g, rfl, .inr rfl, q3, fun j => Iff.rfl⟩, fun j hj => by rw [hj]; exact q2, q4⟩
  · rw [if_neg h, if_neg h]
    exact (new_bad (fun e => h (.inl e)) (fun e => h (.inr e)) W).mono fun r w' ⟨q1, q2⟩ => ⟨_, fun _ => False, q1, ⟨rfl, fun _ => id⟩, fun _ hk => hk.elim, by rw [q2]; exact Below.refl _ _⟩
theorem D_sum {W : World} {B : Nat} {vd : Value} {e : Option (Int × List (BitVec 8))} {o : Nat → Prop} (h : DD W B vd e o) (hl : lenE e < 1073741824) (ht : Tab W 3 turnsN) (hm : Lns W 1 marksN) :
    Calls Tryd.prog 6 #[vd] W fun r w' => r = .returned (.agg (byts (sumE e)).toArray) ∧ Below W.heap.size W w' := by
  match e, h with
  | none, h => obtain ⟨rfl, _⟩ := h; exact rsumS_nil W
  | some (k, X), ⟨b, v, h1, h2, h3, h4⟩ => subst h1; exact rsumS_any h2 hl W h3 ht hm
theorem D_len {W : World} {B : Nat} {vd : Value} {e : Option (Int × List (BitVec 8))} {o : Nat → Prop} (h : DD W B vd e o) :
    Calls Tryd.prog 8 #[vd] W fun r w' => r = .returned (.int .i64 (lenE e : Int)) ∧ Below W.heap.size W w' := by
  match e, h with
  | none, h => obtain ⟨rfl, _⟩ := h; exact (rlen_nil W).mono fun r w' ⟨h1, h2⟩ => ⟨h1, by rw [h2]; exact Below.refl _ _⟩
  | some (k, X), ⟨b, v, h1, h2, h3, h4⟩ => subst h1; exact (rlen_any W h3).mono fun r w' ⟨h1, h2⟩ => ⟨h1, by rw [h2]; exact Below.refl _ _⟩
theorem D_write {W : World} {B : Nat} {vd : Value} {e : Option (Int × List (BitVec 8))} {o : Nat → Prop} {a : Option Addr} {g p c : Nat} {Z : List (BitVec 8)} (h : DD W B vd e o) (hB : B ≤ W.heap.size) (hl : lenE e + Z.length < 1073741824) (ha : At a g p Z) (hnc : a = none → c = 0) (hZ : Byo W g p Z) :
    Calls Tryd.prog 15 #[vd, .slice a Z.length c] W fun r w' => r = .returned (.tuple #[]) ∧ ∃ o', DD w' B vd (wrE Z e) o' ∧ Chg o W w' ∧ ∀ k, o' k → o k ∨ W.heap.size ≤ k := by
  match e, h with
  | none, h => obtain ⟨rfl, h2⟩ := h; exact (rwrite_nil _ W).mono fun r w' ⟨q1, q2⟩ => ⟨q1, o, ⟨rfl, h2⟩, by rw [q2]; exact Chg.refl _ _, fun k hk => .inl hk⟩
  | some (k, X), ⟨b, v, h1, h2, h3, h4⟩ =>
    subst h1
    refine (rwrite_any hl ha hnc W hB h3 hZ).mono fun r w' ⟨q1, v', q2, q3, q4⟩ => ⟨q1, fun j => j = b ∨ v'.ownBlock = some j, ⟨b, v', rfl, h2, q2, fun j => Iff.rfl⟩, q3.mono fun j hj => (h4 j).2 hj, fun j hj => ?_⟩
    rcases hj with hj | hj
    · exact .inl ((h4 j).2 (.inl hj))
    · rcases q4 with e | e
      · exact .inl ((h4 j).2 (.inr (by rw [← e]; exact hj)))
      · right; rw [e] at hj; exact Nat.le_of_eq (Option.some.inj hj)
theorem D_reset {W : World} {B : Nat} {vd : Value} {e : Option (Int × List (BitVec 8))} {o : Nat → Prop} (h : DD W B vd e o) :
    Calls Tryd.prog 18 #[vd] W fun r w' => r = .returned (.tuple #[]) ∧ ∃ o', DD w' B vd (rsE e) o' ∧ Chg o W w' ∧ ∀ k, o' k → o k ∨ W.heap.size ≤ k := by
  match e, h with
  | none, h => obtain ⟨rfl, h2⟩ := h; exact (rreset_nil W).mono fun r w' ⟨q1, q2⟩ => ⟨q1, o, ⟨rfl, h2⟩, by rw [q2]; exact Chg.refl _ _, fun k hk => .inl hk⟩
  | some (k, X), ⟨b, v, h1, h2, h3, h4⟩ =>
    subst h1
    refine (rreset_any W h3).mono fun r w' ⟨q1, q2, q3⟩ => ⟨q1, fun j => j = b ∨ Value.ownBlock (.slice none 0 0) = some j, ⟨b, _, rfl, h2, q2, fun j => Iff.rfl⟩, q3.mono fun j hj => (h4 j).2 (.inl hj), fun j hj => ?_⟩
    rcases hj with hj | hj
    · exact .inl ((h4 j).2 (.inl hj))
    · cases hj
theorem D_copy {W : World} {B : Nat} {vd : Value} {e : Option (Int × List (BitVec 8))} {o : Nat → Prop} (h : DD W B vd e o) (hB : B ≤ W.heap.size) (hl : lenE e < 1073741824) :
    Calls Tryd.prog 20 #[vd] W fun r w' => ∃ vd' o', r = .returned vd' ∧ DD w' B vd' e o' ∧ (∀ k, o' k → W.heap.size ≤ k) ∧ Below W.heap.size W w' := by
  match e, h with
  | none, h => obtain ⟨rfl, h2⟩ := h; exact (rcopy_nil W).mono fun r w' ⟨q1, q2⟩ => ⟨_, o, q1, ⟨rfl, h2⟩, fun k hk => absurd hk (h2 k), by rw [q2]; exact Below.refl _ _⟩
  | some (k, X), ⟨b, v, h1, h2, h3, h4⟩ =>
    subst h1
    refine (rcopy_any hl W h3).mono fun r w' ⟨b', v', q1, q2, q3, q4⟩ => ⟨_, fun j => j = b' ∨ v'.ownBlock = some j, q1, ⟨b', v', rfl, h2, q3.base hB, fun j => Iff.rfl⟩, fun j hj => ?_, q4⟩
    rcases hj with hj | hj
    · rw [hj]; exact q2
    · exact (q3.own.row.lt j hj).1
theorem D_new (k : Int) (W : World) {B : Nat} (hB : B ≤ W.heap.size) : Calls Tryd.prog 11 #[.int .i64 k] W fun r w' => ∃ vd' o', r = .returned (.tuple #[vd', .int .i64 (nwN k)]) ∧ DD w' B vd' (nwE k) o' ∧ (∀ k, o' k → W.heap.size ≤ k) ∧ Below W.heap.size W w' := by
  unfold nwE nwN
  by_cases h : k = 0 ∨ k = 1
  · rw [if_pos h, if_pos h]
    refine (rnew_any h W).mono fun r w' ⟨q1, q2, q3⟩ => ⟨_, fun j => j = W.heap.size ∨ Value.ownBlock (.slice none 0 0) = some j, q1, ⟨_, _, rfl, h, q2.base hB, fun j => Iff.rfl⟩, fun j hj => ?_, q3⟩
    rcases hj with hj | hj
    · rw [hj]; exact Nat.le_refl _
    · cases hj
  · rw [if_neg h, if_neg h]
    exact (rnew_bad (fun e => h (.inl e)) (fun e => h (.inr e)) W).mono fun r w' ⟨q1, q2⟩ => ⟨_, fun _ => False, q1, ⟨rfl, fun _ => id⟩, fun _ hk => hk.elim, by rw [q2]; exact Below.refl _ _⟩
end Go.Proofs.YtjhljoanhlodeaaDoor

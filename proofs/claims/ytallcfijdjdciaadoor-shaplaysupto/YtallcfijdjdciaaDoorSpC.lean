import Derived.Test.YtallcfijdjdciaaDoorSpB
/- Layer 3: three pairs of hashers. -/
namespace Go.Proofs.YtallcfijdjdciaaDoor
open Go.RowKit Go.Sort
/-- A hasher of the program; o: its blocks. -/
def PP (W : World) (vp : Value) (X : List (BitVec 8)) (o : Nat → Prop) : Prop := ∃ b, vp = .pointer (some ⟨b, 0, none⟩) ∧ Tx W b X ∧ ∀ j, o j ↔ j = b
/-- One of the document's. -/
def DD (W : World) (B : Nat) (vd : Value) (X : List (BitVec 8)) (o : Nat → Prop) : Prop := ∃ b v, vd = .pointer (some ⟨b, 0, none⟩) ∧ Dh W B b v X ∧ ∀ j, o j ↔ j = b ∨ v.ownBlock = some j
theorem PP.same {W W' : World} {vp : Value} {e : List (BitVec 8)} {o : Nat → Prop} (h : PP W vp e o) (hs : ∀ k, o k → W'.heap[k]? = W.heap[k]?) : PP W' vp e o := by
  obtain ⟨b, h1, h3, h4⟩ := h
  exact ⟨b, h1, h3.same (hs b ((h4 b).2 rfl)), h4⟩
theorem PP.lt {W : World} {vp : Value} {e : List (BitVec 8)} {o : Nat → Prop} (h : PP W vp e o) {k : Nat} (hk : o k) : k < W.heap.size := by
  obtain ⟨b, h1, h3, h4⟩ := h
  obtain rfl := (h4 k).1 hk; exact h3.lt
theorem DD.same {W W' : World} {B : Nat} {vd : Value} {e : List (BitVec 8)} {o : Nat → Prop} (h : DD W B vd e o) (hs : ∀ k, o k → W'.heap[k]? = W.heap[k]?) : DD W' B vd e o := by
  obtain ⟨b, v, h1, h3, h4⟩ := h
  exact ⟨b, v, h1, h3.same (hs b ((h4 b).2 (.inl rfl))) (fun j hj => hs j ((h4 j).2 (.inr hj))), h4⟩
theorem DD.lt {W : World} {B : Nat} {vd : Value} {e : List (BitVec 8)} {o : Nat → Prop} (h : DD W B vd e o) {k : Nat} (hk : o k) : k < W.heap.size := by
  obtain ⟨b, v, h1, h3, h4⟩ := h
  rcases (h4 k).1 hk with rfl | hv
  · exact h3.lt
  · exact (World.ownsRow.lt h3.own k hv).2
theorem P_sum {W : World} {vp : Value} {e : List (BitVec 8)} {o : Nat → Prop} (h : PP W vp e o) (hl : e.length < 1073740000) (hf : Wds W 0 0 hN) (hk : Wds W 1 0 kN) :
    Calls Tryd.prog 10 #[vp] W fun r w' => r = .returned (.agg (byts (shaL e)).toArray) ∧ Below W.heap.size W w' := by
  obtain ⟨b, rfl, h3, _⟩ := h
  exact ssum_any hl W h3 hf hk
theorem P_len {W : World} {vp : Value} {e : List (BitVec 8)} {o : Nat → Prop} (h : PP W vp e o) :
    Calls Tryd.prog 12 #[vp] W fun r w' => r = .returned (.int .i64 (e.length : Int)) ∧ Below W.heap.size W w' := by
  obtain ⟨b, rfl, h3, _⟩ := h
  exact (len_any W h3).mono fun r w' ⟨h1, h2⟩ => ⟨h1, by rw [h2]; exact Below.refl _ _⟩
theorem P_write {W : World} {vp : Value} {e : List (BitVec 8)} {o : Nat → Prop} {a : Option Addr} {g p c : Nat} {Z : List (BitVec 8)} (h : PP W vp e o) (hl : e.length + Z.length < 1073741824) (hc : Z.length ≤ c) (ha : At a g p Z) (ng : ¬ o g) (nt : ¬ o 0) (nm : ¬ o 1) (hZ : Byo W g p Z) (hf : Wds W 0 0 hN) (hk : Wds W 1 0 kN) :
    Calls Tryd.prog 16 #[vp, .slice a Z.length c] W fun r w' => r = .returned (.tuple #[]) ∧ PP w' vp (e ++ Z) o ∧ Chg o W w' := by
  obtain ⟨b, rfl, h3, h4⟩ := h
  have ob := (h4 b).2 rfl
  exact (write_any (fun e => ng (by rw [e]; exact ob)) (fun e => nt (by rw [e]; exact ob)) (fun e => nm (by rw [e]; exact ob)) hl hc ha W h3 hZ hf hk).mono fun r w' ⟨q1, q2, q3⟩ => ⟨q1, ⟨b, rfl, q2, h4⟩, (Chg.of_off q3).mono fun j hj => (h4 j).2 hj⟩
theorem P_reset {W : World} {vp : Value} {e : List (BitVec 8)} {o : Nat → Prop} (h : PP W vp e o) :
    Calls Tryd.prog 19 #[vp] W fun r w' => r = .returned (.tuple #[]) ∧ PP w' vp [] o ∧ Chg o W w' := by
  obtain ⟨b, rfl, h3, h4⟩ := h
  exact (hreset_any W h3).mono fun r w' ⟨q1, q2, q3⟩ => ⟨q1, ⟨b, rfl, q2, h4⟩, (Chg.of_off q3).mono fun j hj => (h4 j).2 hj⟩
theorem P_copy {W : World} {vp : Value} {e : List (BitVec 8)} {o : Nat → Prop} (h : PP W vp e o) :
    Calls Tryd.prog 7 #[vp] W fun r w' => ∃ b o', r = .returned (.pointer (some ⟨b, 0, none⟩)) ∧ PP w' (.pointer (some ⟨b, 0, none⟩)) e o' ∧ (∀ k, o' k → W.heap.size ≤ k) ∧ Below W.heap.size W w' := by
  obtain ⟨b, rfl, h3, h4⟩ := h
  exact (hcopy_any W h3).mono fun r w' ⟨q1, q2, q3⟩ => ⟨_, fun j => j = W.heap.size, q1, ⟨_, rfl, q2, fun j => Iff.rfl⟩, fun j hj => Nat.le_of_eq hj.symm, q3⟩
theorem D_sum {W : World} {B : Nat} {vd : Value} {e : List (BitVec 8)} {o : Nat → Prop} (h : DD W B vd e o) (hl : e.length < 1073740000) :
    Calls Tryd.prog 11 #[vd] W fun r w' => r = .returned (.agg (byts (shaL e)).toArray) ∧ Below W.heap.size W w' := by
  obtain ⟨b, v, rfl, h3, _⟩ := h
  exact dsum_any hl W h3
theorem D_len {W : World} {B : Nat} {vd : Value} {e : List (BitVec 8)} {o : Nat → Prop} (h : DD W B vd e o) :
    Calls Tryd.prog 13 #[vd] W fun r w' => r = .returned (.int .i64 (e.length : Int)) ∧ Below W.heap.size W w' := by
  obtain ⟨b, v, rfl, h3, _⟩ := h
  exact (dlen_any W h3).mono fun r w' ⟨h1, h2⟩ => ⟨h1, by rw [h2]; exact Below.refl _ _⟩
theorem D_write {W : World} {B : Nat} {vd : Value} {e : List (BitVec 8)} {o : Nat → Prop} {a : Option Addr} {g p c : Nat} {Z : List (BitVec 8)} (h : DD W B vd e o) (hB : B ≤ W.heap.size) (hl : e.length + Z.length < 1073741824) (hc : Z.length ≤ c) (ha : At a g p Z) (hZ : Byo W g p Z) :
    Calls Tryd.prog 17 #[vd, .slice a Z.length c] W fun r w' => r = .returned (.tuple #[]) ∧ ∃ o', DD w' B vd (e ++ Z) o' ∧ Chg o W w' ∧ ∀ k, o' k → o k ∨ W.heap.size ≤ k := by
  obtain ⟨b, v, rfl, h3, h4⟩ := h
  refine (dwrite_any hl hc ha W hB h3 hZ).mono fun r w' ⟨q1, v', q2, q3, q4⟩ => ⟨q1, fun j => j = b ∨ v'.ownBlock = some j, ⟨b, v', rfl, q2, fun j => Iff.rfl⟩, q3.mono fun j hj => (h4 j).2 (.inl hj), fun j hj => ?_⟩
  rcases hj with hj | hj
  · exact .inl ((h4 j).2 (.inl hj))
  · exact .inr (q4 j hj)
theorem D_reset {W : World} {B : Nat} {vd : Value} {e : List (BitVec 8)} {o : Nat → Prop} (h : DD W B vd e o) :
    Calls Tryd.prog 20 #[vd] W fun r w' => r = .returned (.tuple #[]) ∧ ∃ o', DD w' B vd [] o' ∧ Chg o W w' ∧ ∀ k, o' k → o k ∨ W.heap.size ≤ k := by
  obtain ⟨b, v, rfl, h3, h4⟩ := h
  refine (dreset_any W h3).mono fun r w' ⟨q1, q2, q3⟩ => ⟨q1, fun j => j = b ∨ Value.ownBlock (.slice none 0 0) = some j, ⟨b, _, rfl, q2, fun j => Iff.rfl⟩, q3.mono fun j hj => (h4 j).2 (.inl hj), fun j hj => ?_⟩
  rcases hj with hj | hj
  · exact .inl ((h4 j).2 (.inl hj))
  · cases hj
theorem D_copy {W : World} {B : Nat} {vd : Value} {e : List (BitVec 8)} {o : Nat → Prop} (h : DD W B vd e o) (hB : B ≤ W.heap.size) (hl : e.length < 1073741824) :
    Calls Tryd.prog 8 #[vd] W fun r w' => ∃ b o', r = .returned (.pointer (some ⟨b, 0, none⟩)) ∧ DD w' B (.pointer (some ⟨b, 0, none⟩)) e o' ∧ (∀ k, o' k → W.heap.size ≤ k) ∧ Below W.heap.size W w' := by
  obtain ⟨b, v, rfl, h3, h4⟩ := h
  refine (dcopy_any hl W h3).mono fun r w' ⟨b', v', q1, q2, q3, q4⟩ => ⟨b', fun j => j = b' ∨ v'.ownBlock = some j, q1, ⟨b', v', rfl, q3.base hB, fun j => Iff.rfl⟩, fun j hj => ?_, q4⟩
  rcases hj with hj | hj
  · rw [hj]; exact q2
  · exact (World.ownsRow.lt q3.own j hj).1
/-- Three pairs: what stands where, whose each block is. -/
structure St3 (w W : World) (bp bq : Nat) (vp vd : Nat → Value) (oP oD : Nat → Nat → Prop) (ev : Nat → List (BitVec 8)) (T : Nat) : Prop where
  below : Below w.heap.size w W
  p0 : w.heap.size ≤ bp
  q0 : w.heap.size ≤ bq
  plt : bp < W.heap.size
  qlt : bq < W.heap.size
  pq : bp ≠ bq
  cell : ∀ i, i < 3 → W.cell? ⟨bp, i, none⟩ = some (vp i) ∧ W.cell? ⟨bq, i, none⟩ = some (vd i)
  free : ∀ j, W.frozen? ⟨bp, j, none⟩ = false ∧ W.frozen? ⟨bq, j, none⟩ = false
  pp : ∀ i, i < 3 → PP W (vp i) (ev i) (oP i)
  dd : ∀ i, i < 3 → DD W w.heap.size (vd i) (ev i) (oD i)
  lowP : ∀ i, i < 3 → ∀ k, oP i k → w.heap.size ≤ k ∧ k ≠ bp ∧ k ≠ bq
  lowD : ∀ i, i < 3 → ∀ k, oD i k → w.heap.size ≤ k ∧ k ≠ bp ∧ k ≠ bq
  apPD : ∀ i j, i < 3 → j < 3 → ∀ k, oP i k → ¬ oD j k
  apP : ∀ i j, i < 3 → j < 3 → i ≠ j → ∀ k, oP i k → ¬ oP j k
  apD : ∀ i j, i < 3 → j < 3 → i ≠ j → ∀ k, oD i k → ¬ oD j k
  len : ∀ i, i < 3 → (ev i).length ≤ T
theorem St3.keep {w W W' : World} {bp bq : Nat} {vp vd : Nat → Value} {oP oD : Nat → Nat → Prop} {ev : Nat → List (BitVec 8)} {T : Nat} (h : St3 w W bp bq vp vd oP oD ev T) (hb : Below W.heap.size W W') : St3 w W' bp bq vp vd oP oD ev T where
  below := h.below.trans (hb.mono h.below.size)
  p0 := h.p0
  q0 := h.q0
  plt := Nat.lt_of_lt_of_le h.plt hb.size
  qlt := Nat.lt_of_lt_of_le h.qlt hb.size
  pq := h.pq
  cell := fun i hi => ⟨cell_keep hb (h.cell i hi).1, cell_keep hb (h.cell i hi).2⟩
  free := fun j => ⟨frozen_same (hb.block bp h.plt) (h.free j).1, frozen_same (hb.block bq h.qlt) (h.free j).2⟩
  pp := fun i hi => (h.pp i hi).same (fun k hk => hb.block k ((h.pp i hi).lt hk))
  dd := fun i hi => (h.dd i hi).same (fun k hk => hb.block k ((h.dd i hi).lt hk))
  lowP := h.lowP
  lowD := h.lowD
  apPD := h.apPD
  apP := h.apP
  apD := h.apD
  len := h.len
theorem St3.more {w W : World} {bp bq : Nat} {vp vd : Nat → Value} {oP oD : Nat → Nat → Prop} {ev : Nat → List (BitVec 8)} {T T' : Nat} (h : St3 w W bp bq vp vd oP oD ev T) (hT : T ≤ T') : St3 w W bp bq vp vd oP oD ev T' := { h with len := fun i hi => Nat.le_trans (h.len i hi) hT }
/-- One value put in a function's place. -/
def upN {α : Type} (f : Nat → α) (i : Nat) (x : α) : Nat → α := fun j => if j = i then x else f j
theorem upN_at {α : Type} (f : Nat → α) (i : Nat) (x : α) : upN f i x i = x := if_pos rfl
theorem upN_ne {α : Type} (f : Nat → α) {i j : Nat} (x : α) (h : j ≠ i) : upN f i x j = f j := if_neg h
/-- One pair is changed, or another is put in its place. -/
theorem St3.upd {w W W' : World} {bp bq : Nat} {vp vd : Nat → Value} {oP oD : Nat → Nat → Prop} {ev : Nat → List (BitVec 8)} {T T' : Nat} (h : St3 w W bp bq vp vd oP oD ev T) {i : Nat} (hi : i < 3) {S : Nat → Prop} (hc : Chg S W W') (hS : ∀ k, S k → oP i k ∨ oD i k ∨ k = bp ∨ k = bq ∨ W.heap.size ≤ k)
    {vp' vd' : Value} {oP' oD' : Nat → Prop} {e' : List (BitVec 8)} (hcell : ∀ j, j < 3 → W'.cell? ⟨bp, j, none⟩ = some (upN vp i vp' j) ∧ W'.cell? ⟨bq, j, none⟩ = some (upN vd i vd' j)) (hfree : ∀ j, W'.frozen? ⟨bp, j, none⟩ = false ∧ W'.frozen? ⟨bq, j, none⟩ = false)
    (hp : PP W' vp' e' oP') (hd : DD W' w.heap.size vd' e' oD') (nP : ∀ k, oP' k → oP i k ∨ W.heap.size ≤ k) (nD : ∀ k, oD' k → oD i k ∨ W.heap.size ≤ k) (nn : ∀ k, oP' k → ¬ oD' k) (hT : T ≤ T') (hl : e'.length ≤ T') :
    St3 w W' bp bq (upN vp i vp') (upN vd i vd') (upN oP i oP') (upN oD i oD') (upN ev i e') T' := by
  have b0 : w.heap.size ≤ W.heap.size := h.below.size
  have nSP : ∀ j, j < 3 → j ≠ i → ∀ k, oP j k → ¬ S k := fun j hj ne k hk s => by
    rcases hS k s with q | q | q | q | q
    · exact h.apP j i hj hi ne k hk q
    · exact h.apPD j i hj hi k hk q
    · exact (h.lowP j hj k hk).2.1 q
    · exact (h.lowP j hj k hk).2.2 q
    · have := (h.pp j hj).lt hk; omega
  have nSD : ∀ j, j < 3 → j ≠ i → ∀ k, oD j k → ¬ S k := fun j hj ne k hk s => by
    rcases hS k s with q | q | q | q | q
    · exact h.apPD i j hi hj k q hk
    · exact h.apD j i hj hi ne k hk q
    · exact (h.lowD j hj k hk).2.1 q
    · exact (h.lowD j hj k hk).2.2 q
    · have := (h.dd j hj).lt hk; omega
  refine ⟨?_, h.p0, h.q0, Nat.lt_of_lt_of_le h.plt hc.size, Nat.lt_of_lt_of_le h.qlt hc.size, h.pq, hcell, hfree, ?_, ?_, ?_, ?_, ?_, ?_, ?_, ?_⟩
  · refine h.below.trans (hc.below b0 (fun k hk => ?_))
    rcases hS k hk with q | q | q | q | q
    · exact (h.lowP i hi k q).1
    · exact (h.lowD i hi k q).1
    · rw [q]; exact h.p0
    · rw [q]; exact h.q0
    · omega
  · intro j hj
    by_cases e : j = i
    · subst e; rw [upN_at, upN_at, upN_at]; exact hp
    · rw [upN_ne _ _ e, upN_ne _ _ e, upN_ne _ _ e]
      exact (h.pp j hj).same (fun k hk => hc.block k ((h.pp j hj).lt hk) (nSP j hj e k hk))
  · intro j hj
    by_cases e : j = i
    · subst e; rw [upN_at, upN_at, upN_at]; exact hd
    · rw [upN_ne _ _ e, upN_ne _ _ e, upN_ne _ _ e]
      exact (h.dd j hj).same (fun k hk => hc.block k ((h.dd j hj).lt hk) (nSD j hj e k hk))
  · intro j hj k hk
    by_cases e : j = i
    · subst e; rw [upN_at] at hk
      rcases nP k hk with q | q
      · exact h.lowP j hj k q
      · exact ⟨by omega, by have := h.plt; omega, by have := h.qlt; omega⟩
    · rw [upN_ne _ _ e] at hk; exact h.lowP j hj k hk
  · intro j hj k hk
    by_cases e : j = i
    · subst e; rw [upN_at] at hk
      rcases nD k hk with q | q
      · exact h.lowD j hj k q
      · exact ⟨by omega, by have := h.plt; omega, by have := h.qlt; omega⟩
    · rw [upN_ne _ _ e] at hk; exact h.lowD j hj k hk
  · intro j l hj hl' k hk hk2
    by_cases e : j = i
    · subst e; rw [upN_at] at hk
      by_cases e2 : l = j
      · subst e2; rw [upN_at] at hk2; exact nn k hk hk2
      · rw [upN_ne _ _ e2] at hk2
        rcases nP k hk with q | q
        · exact h.apPD j l hj hl' k q hk2
        · have := (h.dd l hl').lt hk2; omega
    · rw [upN_ne _ _ e] at hk
      by_cases e2 : l = i
      · subst e2; rw [upN_at] at hk2
        rcases nD k hk2 with q | q
        · exact h.apPD j l hj hl' k hk q
        · have := (h.pp j hj).lt hk; omega
      · rw [upN_ne _ _ e2] at hk2; exact h.apPD j l hj hl' k hk hk2
  · intro j l hj hl' ne k hk hk2
    by_cases e : j = i
    · subst e; rw [upN_at] at hk
      rw [upN_ne _ _ (Ne.symm ne)] at hk2
      rcases nP k hk with q | q
      · exact h.apP j l hj hl' ne k q hk2
      · have := (h.pp l hl').lt hk2; omega
    · rw [upN_ne _ _ e] at hk
      by_cases e2 : l = i
      · subst e2; rw [upN_at] at hk2
        rcases nP k hk2 with q | q
        · exact h.apP j l hj hl' ne k hk q
        · have := (h.pp j hj).lt hk; omega
      · rw [upN_ne _ _ e2] at hk2; exact h.apP j l hj hl' ne k hk hk2
  · intro j l hj hl' ne k hk hk2
    by_cases e : j = i
    · subst e; rw [upN_at] at hk
      rw [upN_ne _ _ (Ne.symm ne)] at hk2
      rcases nD k hk with q | q
      · exact h.apD j l hj hl' ne k q hk2
      · have := (h.dd l hl').lt hk2; omega
    · rw [upN_ne _ _ e] at hk
      by_cases e2 : l = i
      · subst e2; rw [upN_at] at hk2
        rcases nD k hk2 with q | q
        · exact h.apD j l hj hl' ne k hk q
        · have := (h.dd j hj).lt hk; omega
      · rw [upN_ne _ _ e2] at hk2; exact h.apD j l hj hl' ne k hk hk2
  · intro j hj
    by_cases e : j = i
    · subst e; rw [upN_at]; exact hl
    · rw [upN_ne _ _ e]; exact Nat.le_trans (h.len j hj) hT
/-- A number's place among three. -/
def wh (k : Int) : Nat := (k % 3).toNat
theorem wh_lt (k : Int) : wh k < 3 := by unfold wh; omega
set_option maxRecDepth 100000 in
theorem which_any {k : Int} (h0 : -9223372036854775808 ≤ k) (h1 : k < 9223372036854775808) (w : World) : Calls Tryd.prog 6 #[.int .i64 k, .int .i64 3] w fun e w' => e = .returned (.int .i64 (wh k : Int)) ∧ w' = w := by
  obtain ⟨r, er⟩ : ∃ r, k.tmod 3 = r := ⟨_, rfl⟩
  have rb : -3 < r ∧ r < 3 ∧ (0 ≤ r → (wh k : Int) = r) ∧ (r < 0 → (wh k : Int) = r + 3) := by
    unfold wh
    by_cases hp : 0 ≤ k
    · rw [Int.tmod_eq_emod_of_nonneg hp] at er; omega
    · have e : k = -(-k) := by omega
      rw [e, Int.neg_tmod, Int.tmod_eq_emod_of_nonneg (by omega)] at er
      omega
  generalize wh k = m at *
  obtain ⟨r1, r2, r3, r4⟩ := rb
  by_cases hr : r < 0
  · have q := r4 hr
    have HQ : Hid ((m : Int) = r + 3) := q
    clear r3 r4 q
    go_enter Tryd.func6, Tryd.ntmps6
    go_wp2
    simp [bodyPost, results, Tryd.results6, go_sem]
    exact HQ.out.symm
  · have q := r3 (by omega)
    have HQ : Hid ((m : Int) = r) := q
    clear r3 r4 q
    go_enter Tryd.func6, Tryd.ntmps6
    go_wp2
    simp [bodyPost, results, Tryd.results6, go_sem]
    exact HQ.out.symm
end Go.Proofs.YtallcfijdjdciaaDoor

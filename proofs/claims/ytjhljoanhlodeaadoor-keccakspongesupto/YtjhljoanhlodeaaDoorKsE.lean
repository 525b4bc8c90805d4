import Derived.Test.YtjhljoanhlodeaaDoorKsD
/- Layer 2: three pairs of sponges. -/
namespace Go.Proofs.YtjhljoanhlodeaaDoor
open Go.RowKit Go.Sort
/-- Three pairs: what stands where, whose each block is. -/
structure St (w W : World) (ba : Nat) (vp vd : Nat → Value) (oP oD : Nat → Nat → Prop) (ev : Nat → Option (Int × List (BitVec 8))) (T : Nat) : Prop where
  below : Below w.heap.size w W
  ba0 : w.heap.size ≤ ba
  balt : ba < W.heap.size
  cell : ∀ i, i < 3 → W.cell? ⟨ba, i * 2, none⟩ = some (vp i) ∧ W.cell? ⟨ba, i * 2 + 1, none⟩ = some (vd i)
  free : ∀ j, W.frozen? ⟨ba, j, none⟩ = false
  pp : ∀ i, i < 3 → PP W (vp i) (ev i) (oP i)
  dd : ∀ i, i < 3 → DD W w.heap.size (vd i) (ev i) (oD i)
  lowP : ∀ i, i < 3 → ∀ k, oP i k → w.heap.size ≤ k ∧ k ≠ ba
  lowD : ∀ i, i < 3 → ∀ k, oD i k → w.heap.size ≤ k ∧ k ≠ ba
  apPD : ∀ i j, i < 3 → j < 3 → ∀ k, oP i k → ¬ oD j k
  apP : ∀ i j, i < 3 → j < 3 → i ≠ j → ∀ k, oP i k → ¬ oP j k
  apD : ∀ i j, i < 3 → j < 3 → i ≠ j → ∀ k, oD i k → ¬ oD j k
  len : ∀ i, i < 3 → lenE (ev i) ≤ T
theorem frozen_same {W W' : World} {b j : Nat} (e : W'.heap[b]? = W.heap[b]?) (h : W.frozen? ⟨b, j, none⟩ = false) : W'.frozen? ⟨b, j, none⟩ = false := by
  rw [World.frozen?_of_block (w := W) (a := ⟨b, j, none⟩) e]; exact h
theorem St.keep {w W W' : World} {ba : Nat} {vp vd : Nat → Value} {oP oD : Nat → Nat → Prop} {ev : Nat → Option (Int × List (BitVec 8))} {T : Nat} (h : St w W ba vp vd oP oD ev T) (hb : Below W.heap.size W W') : St w W' ba vp vd oP oD ev T where
  below := h.below.trans (hb.mono h.below.size)
  ba0 := h.ba0
  balt := Nat.lt_of_lt_of_le h.balt hb.size
  cell := fun i hi => ⟨cell_keep hb (h.cell i hi).1, cell_keep hb (h.cell i hi).2⟩
  free := fun j => frozen_same (hb.block ba h.balt) (h.free j)
  pp := fun i hi => (h.pp i hi).same (fun k hk => hb.block k ((h.pp i hi).lt hk))
  dd := fun i hi => (h.dd i hi).same (fun k hk => hb.block k ((h.dd i hi).lt hk))
  lowP := h.lowP
  lowD := h.lowD
  apPD := h.apPD
  apP := h.apP
  apD := h.apD
  len := h.len
theorem St.more {w W : World} {ba : Nat} {vp vd : Nat → Value} {oP oD : Nat → Nat → Prop} {ev : Nat → Option (Int × List (BitVec 8))} {T T' : Nat} (h : St w W ba vp vd oP oD ev T) (hT : T ≤ T') : St w W ba vp vd oP oD ev T' := { h with len := fun i hi => Nat.le_trans (h.len i hi) hT }
/-- One value put in a function's place. -/
def upN {α : Type} (f : Nat → α) (i : Nat) (x : α) : Nat → α := fun j => if j = i then x else f j
theorem upN_at {α : Type} (f : Nat → α) (i : Nat) (x : α) : upN f i x i = x := if_pos rfl
theorem upN_ne {α : Type} (f : Nat → α) {i j : Nat} (x : α) (h : j ≠ i) : upN f i x j = f j := if_neg h
/-- One pair is changed, or another is put in its place. -/
theorem St.upd {w W W' : World} {ba : Nat} {vp vd : Nat → Value} {oP oD : Nat → Nat → Prop} {ev : Nat → Option (Int × List (BitVec 8))} {T T' : Nat} (h : St w W ba vp vd oP oD ev T) {i : Nat} (hi : i < 3) {S : Nat → Prop} (hc : Chg S W W') (hS : ∀ k, S k → oP i k ∨ oD i k ∨ k = ba ∨ W.heap.size ≤ k)
    {vp' vd' : Value} {oP' oD' : Nat → Prop} {e' : Option (Int × List (BitVec 8))} (hcell : ∀ j, j < 3 → W'.cell? ⟨ba, j * 2, none⟩ = some (upN vp i vp' j) ∧ W'.cell? ⟨ba, j * 2 + 1, none⟩ = some (upN vd i vd' j)) (hfree : ∀ j, W'.frozen? ⟨ba, j, none⟩ = false)
    (hp : PP W' vp' e' oP') (hd : DD W' w.heap.size vd' e' oD') (nP : ∀ k, oP' k → oP i k ∨ W.heap.size ≤ k) (nD : ∀ k, oD' k → oD i k ∨ W.heap.size ≤ k) (nn : ∀ k, oP' k → ¬ oD' k) (hT : T ≤ T') (hl : lenE e' ≤ T') :
    St w W' ba (upN vp i vp') (upN vd i vd') (upN oP i oP') (upN oD i oD') (upN ev i e') T' := by
  have b0 : w.heap.size ≤ W.heap.size := h.below.size
  have nSP : ∀ j, j < 3 → j ≠ i → ∀ k, oP j k → ¬ S k := fun j hj ne k hk s => by
    rcases hS k s with q | q | q | q
    · exact h.apP j i hj hi ne k hk q
    · exact h.apPD j i hj hi k hk q
    · exact (h.lowP j hj k hk).2 q
    · have := (h.pp j hj).lt hk; omega
  have nSD : ∀ j, j < 3 → j ≠ i → ∀ k, oD j k → ¬ S k := fun j hj ne k hk s => by
    rcases hS k s with q | q | q | q
    · exact h.apPD i j hi hj k q hk
    · exact h.apD j i hj hi ne k hk q
    · exact (h.lowD j hj k hk).2 q
    · have := (h.dd j hj).lt hk; omega
  refine ⟨?_, h.ba0, Nat.lt_of_lt_of_le h.balt hc.size, hcell, hfree, ?_, ?_, ?_, ?_, ?_, ?_, ?_, ?_⟩
  · refine h.below.trans (hc.below b0 (fun k hk => ?_))
    rcases hS k hk with q | q | q | q
    · exact (h.lowP i hi k q).1
    · exact (h.lowD i hi k q).1
    · rw [q]; exact h.ba0
    · omega
  · intro j hj
    by_cases e : j = i
    · subst e; rw [upN_at, upN_at, upN_at]; exact hp
    · rw [upN_ne _ _ e, upN_ne _ _ e, upN_ne _ _ e]
      exact (h.pp j hj).same (fun k hk => hc.block k ((h.pp j hj).lt hk) (nSP j hj e k hk))
  · intro j hj
    by_cases e : j = i
    · subst e; rw [upN_at, upN_at, upN_at]; exact hd
    · rw [upN_ne _ _ e, upN_ne _ _ e, upN_ne _ _ e]
      exact (h.dd j hj).same (fun k hk => hc.block k ((h.dd j hj).lt hk) (nSD j hj e k hk))
  · intro j hj k hk
    by_cases e : j = i
    · subst e; rw [upN_at] at hk
      rcases nP k hk with q | q
      · exact h.lowP j hj k q
      · exact ⟨by omega, by have := h.balt; omega⟩
    · rw [upN_ne _ _ e] at hk; exact h.lowP j hj k hk
  · intro j hj k hk
    by_cases e : j = i
    · subst e; rw [upN_at] at hk
      rcases nD k hk with q | q
      · exact h.lowD j hj k q
      · exact ⟨by omega, by have := h.balt; omega⟩
    · rw [upN_ne _ _ e] at hk; exact h.lowD j hj k hk
  · intro j l hj hl' k hk hk2
    by_cases e : j = i
    · subst e; rw [upN_at] at hk
      by_cases e2 : l = j
      · subst e2; rw [upN_at] at hk2; exact nn k hk hk2
      · rw [upN_ne _ _ e2] at hk2
        rcases nP k hk with q | q
        · exact h.apPD j l hj hl' k q hk2
        · have := (h.dd l hl').lt hk2; omega
    · rw [upN_ne _ _ e] at hk
      by_cases e2 : l = i
      · subst e2; rw [upN_at] at hk2
        rcases nD k hk2 with q | q
        · exact h.apPD j l hj hl' k hk q
        · have := (h.pp j hj).lt hk; omega
      · rw [upN_ne _ _ e2] at hk2; exact h.apPD j l hj hl' k hk hk2
  · intro j l hj hl' ne k hk hk2
    by_cases e : j = i
    · subst e; rw [upN_at] at hk
      rw [upN_ne _ _ (Ne.symm ne)] at hk2
      rcases nP k hk with q | q
      · exact h.apP j l hj hl' ne k q hk2
      · have := (h.pp l hl').lt hk2; omega
    · rw [upN_ne _ _ e] at hk
      by_cases e2 : l = i
      · subst e2; rw [upN_at] at hk2
        rcases nP k hk2 with q | q
        · exact h.apP j l hj hl' ne k hk q
        · have := (h.pp j hj).lt hk; omega
      · rw [upN_ne _ _ e2] at hk2; exact h.apP j l hj hl' ne k hk hk2
  · intro j l hj hl' ne k hk hk2
    by_cases e : j = i
    · subst e; rw [upN_at] at hk
      rw [upN_ne _ _ (Ne.symm ne)] at hk2
      rcases nD k hk with q | q
      · exact h.apD j l hj hl' ne k q hk2
      · have := (h.dd l hl').lt hk2; omega
    · rw [upN_ne _ _ e] at hk
      by_cases e2 : l = i
      · subst e2; rw [upN_at] at hk2
        rcases nD k hk2 with q | q
        · exact h.apD j l hj hl' ne k hk q
        · have := (h.dd j hj).lt hk; omega
      · rw [upN_ne _ _ e2] at hk2; exact h.apD j l hj hl' ne k hk hk2
  · intro j hj
    by_cases e : j = i
    · subst e; rw [upN_at]; exact hl
    · rw [upN_ne _ _ e]; exact Nat.le_trans (h.len j hj) hT
/-- A number's place among three. -/
def wh (k : Int) : Nat := (k % 3).toNat
theorem wh_lt (k : Int) : wh k < 3 := by unfold wh; omega
set_option maxRecDepth 100000 in
theorem which_any {k : Int} (h0 : -9223372036854775808 ≤ k) (h1 : k < 9223372036854775808) (w : World) : Calls Tryd.prog 9 #[.int .i64 k] w fun e w' => e = .returned (.int .i64 (wh k : Int)) ∧ w' = w := by
  obtain ⟨r, er⟩ : ∃ r, k.tmod 3 = r := ⟨_, rfl⟩
  have rb : -3 < r ∧ r < 3 ∧ (0 ≤ r → (wh k : Int) = r) ∧ (r < 0 → (wh k : Int) = r + 3) := by
    unfold wh
    by_cases hp : 0 ≤ k
    · rw [Int.tmod_eq_emod_of_nonneg hp] at er; omega
    · have e : k = -(-k) := by omega
      rw [e, Int.neg_tmod, Int.tmod_eq_emod_of_nonneg (by omega)] at er
      omega
  generalize wh k = m at *
  obtain ⟨r1, r2, r3, r4⟩ := rb
  by_cases hr : r < 0
  · have q := r4 hr
    have HQ : Hid ((m : Int) = r + 3) := q
    clear r3 r4 q
    go_enter Tryd.func9, Tryd.ntmps9
    go_wp2
    simp [bodyPost, results, Tryd.results9, go_sem]
    exact HQ.out.symm
  · have q := r3 (by omega)
    have HQ : Hid ((m : Int) = r) := q
    clear r3 r4 q
    go_enter Tryd.func9, Tryd.ntmps9
    go_wp2
    simp [bodyPost, results, Tryd.results9, go_sem]
    exact HQ.out.symm
end Go.Proofs.YtjhljoanhlodeaaDoor

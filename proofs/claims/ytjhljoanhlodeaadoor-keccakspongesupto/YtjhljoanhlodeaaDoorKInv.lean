import Derived.Test.YtjhljoanhlodeaaDoorKBack
namespace Go.Proofs.YtjhljoanhlodeaaDoor
open Go.RowKit Go.Sort

theorem Sp.same {W W' : World} {b : Nat} {k : Int} {L : List (BitVec 64)} {t : Nat} (h : Sp W b k L t) (e : W'.heap[b]? = W.heap[b]?) : Sp W' b k L t :=
  ⟨h.1, by rw [World.cell?_of_block (w := W) (a := ⟨b, 0, none⟩) e]; exact h.2.1, fun i hi => by rw [World.cell?_of_block (w := W) (a := ⟨b, 1 + i, none⟩) e]; exact h.2.2.1 i hi, by rw [World.cell?_of_block (w := W) (a := ⟨b, 26, none⟩) e]; exact h.2.2.2.1, fun i hi => by rw [World.frozen?_of_block (w := W) (a := ⟨b, i, none⟩) e]; exact h.2.2.2.2 i hi⟩
theorem Byo.same {W W' : World} {b o : Nat} {X : List (BitVec 8)} (h : Byo W b o X) (e : W'.heap[b]? = W.heap[b]?) : Byo W' b o X := fun i hi => by rw [World.cell?_of_block (w := W) (a := ⟨b, o + i, none⟩) e]; exact h i hi
theorem own_same {W W' : World} {base : Nat} {e : TypeId} {size : Nat} {v : Value} {n : Nat} {xs : List Value} (h : W.ownsRow base e size v n xs) (hs : ∀ k, v.ownBlock = some k → W'.heap[k]? = W.heap[k]?) : W'.ownsRow base e size v n xs := by
  refine ⟨h.1, ?_⟩
  rcases h.2 with h | ⟨g, cap, cur, rfl, hb, hg, r⟩
  · exact .inl h
  · exact .inr ⟨g, cap, cur, rfl, hb, by rw [hs g rfl]; exact hg, r⟩

/-- What the loop over the cuts keeps. N: the blocks that were there; b0, b1: two sponges; pv: the slice of the parts PS. -/
structure Inv (w W : World) (b0 b1 : Nat) (pv : Value) (PS : List Part) (L0 L1 : List (BitVec 64)) (t0 t1 : Nat) : Prop where
  below : Below w.heap.size w W
  ge0 : w.heap.size ≤ b0
  ge1 : w.heap.size ≤ b1
  ne : b0 ≠ b1
  s0 : Sp W b0 0 L0 t0
  s1 : Sp W b1 1 L1 t1
  own : W.ownsRow w.heap.size 30 1 pv PS.length (PS.map Part.val)
  own0 : pv.ownBlock ≠ some b0
  own1 : pv.ownBlock ≠ some b1
  parts : ∀ p ∈ PS, p.ok W ∧ p.b < W.heap.size ∧ p.b ≠ b0 ∧ p.b ≠ b1 ∧ pv.ownBlock ≠ some p.b

theorem Inv.same {w W W' : World} {b0 b1 : Nat} {pv : Value} {PS : List Part} {L0 L1 : List (BitVec 64)} {t0 t1 : Nat} (h : Inv w W b0 b1 pv PS L0 L1 t0 t1) (hb : Below W.heap.size W W') : Inv w W' b0 b1 pv PS L0 L1 t0 t1 where
  below := h.below.trans (hb.mono h.below.size)
  ge0 := h.ge0
  ge1 := h.ge1
  ne := h.ne
  s0 := h.s0.keep hb
  s1 := h.s1.keep hb
  own := own_same h.own fun k hk => hb.block k (h.own.lt k hk).2
  own0 := h.own0
  own1 := h.own1
  parts := fun p hp => by
    obtain ⟨⟨q1, q2, q3⟩, q4, q5⟩ := h.parts p hp
    exact ⟨⟨q1, q2, q3.keep hb⟩, Nat.lt_of_lt_of_le q4 hb.size, q5⟩

/-- A part is put behind the others. -/
theorem Inv.push {w W W' : World} {b0 b1 : Nat} {pv pv' : Value} {PS : List Part} {L0 L1 : List (BitVec 64)} {t0 t1 : Nat} (h : Inv w W b0 b1 pv PS L0 L1 t0 t1) {p : Part} (hp : p.ok W) (lp : p.b < W.heap.size) (n0 : p.b ≠ b0) (n1 : p.b ≠ b1) (np : pv.ownBlock ≠ some p.b)
    (hown : W'.ownsRow w.heap.size 30 1 pv' (PS.length + 1) (PS.map Part.val ++ [p.val])) (hg : W.grownBy W' pv.ownBlock) (hblk : pv'.ownBlock = pv.ownBlock ∨ pv'.ownBlock = some W.heap.size) : Inv w W' b0 b1 pv' (PS ++ [p]) L0 L1 t0 t1 where
  below := h.below.grown hg h.below.size (fun k hk => (h.own.lt k hk).1)
  ge0 := h.ge0
  ge1 := h.ge1
  ne := h.ne
  s0 := h.s0.same (hg.block b0 h.s0.lt (fun e => h.own0 e.symm))
  s1 := h.s1.same (hg.block b1 h.s1.lt (fun e => h.own1 e.symm))
  own := by rw [List.length_append, List.map_append]; exact hown
  own0 := by
    rcases hblk with e | e
    · rw [e]; exact h.own0
    · rw [e]; intro e2; have := Option.some.inj e2; have := h.s0.lt; omega
  own1 := by
    rcases hblk with e | e
    · rw [e]; exact h.own1
    · rw [e]; intro e2; have := Option.some.inj e2; have := h.s1.lt; omega
  parts := fun q hq => by
    have key : ∀ q : Part, q.ok W → q.b < W.heap.size → q.b ≠ b0 → q.b ≠ b1 → pv.ownBlock ≠ some q.b → q.ok W' ∧ q.b < W'.heap.size ∧ q.b ≠ b0 ∧ q.b ≠ b1 ∧ pv'.ownBlock ≠ some q.b := by
      rintro q ⟨a1, a2, a3⟩ a4 a5 a6 a7
      refine ⟨⟨a1, a2, a3.same (hg.block q.b a4 (fun e => a7 e.symm))⟩, Nat.lt_of_lt_of_le a4 hg.size, a5, a6, ?_⟩
      rcases hblk with e | e
      · rw [e]; exact a7
      · rw [e]; intro e2; have := Option.some.inj e2; omega
    rcases List.mem_append.1 hq with hq | hq
    · obtain ⟨q1, q2, q3, q4, q5⟩ := h.parts q hq
      exact key q q1 q2 q3 q4 q5
    · obtain rfl := List.mem_singleton.1 hq
      exact key q hp lp n0 n1 np

end Go.Proofs.YtjhljoanhlodeaaDoor

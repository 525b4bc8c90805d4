import Derived.Test.YtghfilmgnfheiaaHxI
namespace Go.Proofs.Ytghfilmgnfheiaa
open Go.RowKit Go.Sort

/-- Two lists, each with what was appended to it. -/
structure Ap (B : Nat) (w wr : World) (v1 v2 c d : Value) (P1 Q1 P2 Q2 : List Int) : Prop where
  oc : OwnB B wr c (P1 ++ Q1)
  od : OwnB B wr d (P2 ++ Q2)
  ra : Rd wr v1 P1
  rb : Rd wr v2 P2
  pc : c.ownBlock = v1.ownBlock ∨ ∃ k, c.ownBlock = some k ∧ w.heap.size ≤ k
  pd : d.ownBlock = v2.ownBlock ∨ ∃ k, d.ownBlock = some k ∧ w.heap.size ≤ k
  ne : ∀ k, c.ownBlock = some k → d.ownBlock ≠ some k
  two : Two w wr v1.ownBlock v2.ownBlock
  l1 : ∀ k, v1.ownBlock = some k → k < w.heap.size
  l2 : ∀ k, v2.ownBlock = some k → k < w.heap.size
  dis : ∀ k, v1.ownBlock = some k → v2.ownBlock ≠ some k
theorem Two.swap {w w' : World} {r1 r2 : Option Nat} (h : Two w w' r1 r2) : Two w w' r2 r1 := ⟨h.os, h.tape, h.output, h.size, fun k hk h1 h2 => h.block k hk h2 h1⟩
theorem Ap.swap {B : Nat} {w wr : World} {v1 v2 c d : Value} {P1 Q1 P2 Q2 : List Int} (h : Ap B w wr v1 v2 c d P1 Q1 P2 Q2) : Ap B w wr v2 v1 d c P2 Q2 P1 Q1 :=
  ⟨h.od, h.oc, h.rb, h.ra, h.pd, h.pc, fun k hk e => h.ne k e hk, h.two.swap, h.l2, h.l1, fun k hk e => h.dis k e hk⟩
theorem Ap.keep {B : Nat} {w wr W' : World} {v1 v2 c d : Value} {P1 Q1 P2 Q2 : List Int} (h : Ap B w wr v1 v2 c d P1 Q1 P2 Q2) (hb : Below wr.heap.size wr W') : Ap B w W' v1 v2 c d P1 Q1 P2 Q2 :=
  ⟨h.oc.keep hb, h.od.keep hb, h.ra.keep hb, h.rb.keep hb, h.pc, h.pd, h.ne, h.two.grown (grown_of_below hb none) (fun k hk => by cases hk), h.l1, h.l2, h.dis⟩
theorem getD_app {P Q : List Int} {i : Nat} (h : i < P.length) : (P ++ Q).getD i 0 = P.getD i 0 := by
  rw [List.getD, List.getD, List.getElem?_append_left h]
theorem Rd.block {W : World} {v : Value} {X : List Int} (h : Rd W v X) (hX : X ≠ []) : ∃ g c, v = .slice (some ⟨g, 0, none⟩) X.length c ∧ v.ownBlock = some g ∧ ∀ i, i < X.length → W.cell? ⟨g, i, none⟩ = some (.int .u8 (X.getD i 0)) := by
  obtain ⟨a, g, c, rfl, h2, h3⟩ := h
  obtain rfl := h2 hX
  exact ⟨g, c, rfl, rfl, h3⟩
theorem Rd.kept {W W' : World} {v : Value} {X : List Int} {row : Option Nat} (h : Rd W v X) (hg : W.grownBy W' row) (hn : ∀ k, v.ownBlock = some k → row ≠ some k) : Rd W' v X := by
  by_cases hX : X = []
  · obtain ⟨a, g, c, h1, h2, h3⟩ := h
    subst hX
    exact ⟨a, g, c, h1, h2, fun i hi => absurd hi (Nat.not_lt_zero _)⟩
  · obtain ⟨g, c, h1, h2, h3⟩ := h.block hX
    exact ⟨_, g, c, h1, fun _ => rfl, fun i hi => hg.cell (h3 i hi) (fun e => hn g h2 e.symm)⟩
theorem Ap.put {B g cap : Nat} {w wr w' : World} {v1 v2 c d : Value} {P1 Q1 P2 Q2 : List Int} {u : Int} (h : Ap B w wr v1 v2 c d P1 Q1 P2 Q2)
    (ho : OwnB B w' (.slice (some ⟨g, 0, none⟩) ((P1 ++ Q1).length + 1) cap) ((P1 ++ Q1) ++ [u])) (hg : wr.grownBy w' c.ownBlock) (hp : c.ownBlock = some g ∨ (g = wr.heap.size ∧ wr.grownBy w' none)) :
    Ap B w w' v1 v2 (.slice (some ⟨g, 0, none⟩) ((P1 ++ Q1).length + 1) cap) d P1 (Q1 ++ [u]) P2 Q2 := by
  have e : P1 ++ (Q1 ++ [u]) = (P1 ++ Q1) ++ [u] := by simp
  refine ⟨by rw [e]; exact ho, World.ownsRow.kept h.od hg ?_, ?_, h.rb.kept hg ?_, ?_, h.pd, ?_, h.two.grown hg ?_, h.l1, h.l2, h.dis⟩
  · cases hd : d.ownBlock with
    | none => exact .inl rfl
    | some k => exact .inr fun e => h.ne k e.symm hd
  · rcases hp with hp | ⟨_, hp⟩
    · rcases h.pc with q | ⟨k, q, hk⟩
      · by_cases hX : P1 = []
        · obtain ⟨a, g', c', h1, h2, h3⟩ := h.ra
          subst hX
          exact ⟨a, g', c', h1, h2, fun i hi => absurd hi (Nat.not_lt_zero _)⟩
        · obtain ⟨g', c', h1, h2, h3⟩ := h.ra.block hX
          have eg : g' = g := by rw [q, h2] at hp; exact Option.some.inj hp
          subst eg
          refine ⟨_, g', c', h1, fun _ => rfl, fun i hi => ?_⟩
          rw [OwnB.cell ho (by simp; omega) (i := i) (by simp; omega), List.append_assoc, getD_app hi]
      · exact h.ra.kept hg fun k' hk' e => by
          have := h.l1 k' hk'
          rw [q] at e
          have := Option.some.inj e
          omega
    · exact h.ra.kept hp (fun _ _ e => by cases e)
  · intro k hk e
    rcases h.pc with q | ⟨k', q, hk'⟩
    · exact h.dis k (q ▸ e) hk
    · have := h.l2 k hk
      rw [q] at e
      have := Option.some.inj e
      omega
  · rcases hp with hp | ⟨hp, _⟩
    · rcases h.pc with q | ⟨k, q, hk⟩
      · exact .inl (by rw [← q, hp]; rfl)
      · rw [hp] at q
        exact .inr ⟨g, rfl, by rw [Option.some.inj q]; exact hk⟩
    · exact .inr ⟨g, rfl, by rw [hp]; exact h.two.size⟩
  · intro k hk e
    have ek : g = k := Option.some.inj hk
    subst ek
    rcases hp with hp | ⟨hp, _⟩
    · exact h.ne g hp e
    · have := (World.ownsRow.lt h.od g e).2
      omega
  · intro k hk
    rcases h.pc with q | ⟨k', q, hk'⟩
    · exact .inl q
    · rw [hk] at q
      exact .inr (.inr (by rw [Option.some.inj q]; exact hk'))
theorem Ap.begin {B : Nat} {w wr : World} {v1 v2 : Value} {P1 P2 : List Int} (h1 : OwnB B wr v1 P1) (h2 : OwnB B wr v2 P2) (two : Two w wr v1.ownBlock v2.ownBlock) (l1 : ∀ k, v1.ownBlock = some k → k < w.heap.size) (l2 : ∀ k, v2.ownBlock = some k → k < w.heap.size) (dis : ∀ k, v1.ownBlock = some k → v2.ownBlock ≠ some k) :
    Ap B w wr v1 v2 v1 v2 P1 [] P2 [] :=
  ⟨by rw [List.append_nil]; exact h1, by rw [List.append_nil]; exact h2, h1.rd, h2.rd, .inl rfl, .inl rfl, dis, two, l1, l2, dis⟩
end Go.Proofs.Ytghfilmgnfheiaa

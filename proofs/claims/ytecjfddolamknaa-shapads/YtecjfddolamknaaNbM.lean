import Derived.Test.YtecjfddolamknaaNbC
import Derived.Deep.AppendLies
/- Layer 11: lists that are alive at one time. -/
namespace Go.Proofs.Ytecjfddolamknaa
open Go.RowKit Go.Sort

/-- A slice that can be read. -/
def Rd (W : World) (v : Value) (X : List Int) : Prop := ∃ a g c, v = .slice a X.length c ∧ (X ≠ [] → a = some ⟨g, 0, none⟩) ∧ ∀ i, i < X.length → W.cell? ⟨g, i, none⟩ = some (.int .u8 (X.getD i 0))
theorem OwnB.rd {B : Nat} {W : World} {v : Value} {X : List Int} (h : OwnB B W v X) : Rd W v X := by
  rcases h.2 with ⟨rfl, h0⟩ | ⟨g, cap, cur, rfl, _⟩
  · have e : X = [] := List.length_eq_zero_iff.1 h0
    subst e
    exact ⟨_, 0, 0, rfl, fun h => absurd rfl h, fun i hi => absurd hi (Nat.not_lt_zero _)⟩
  · exact ⟨_, g, cap, rfl, fun _ => rfl, fun i hi => OwnB.cell h rfl hi⟩
theorem Rd.keep {W W' : World} {v : Value} {X : List Int} (h : Rd W v X) (hb : Below W.heap.size W W') : Rd W' v X := by
  obtain ⟨a, g, c, h1, h2, h3⟩ := h
  exact ⟨a, g, c, h1, h2, fun i hi => cell_keep hb (h3 i hi)⟩
theorem Rd.block {W : World} {v : Value} {X : List Int} (h : Rd W v X) (hX : X ≠ []) : ∃ g c, v = .slice (some ⟨g, 0, none⟩) X.length c ∧ v.ownBlock = some g ∧ ∀ i, i < X.length → W.cell? ⟨g, i, none⟩ = some (.int .u8 (X.getD i 0)) := by
  obtain ⟨a, g, c, rfl, h2, h3⟩ := h
  obtain rfl := h2 hX
  exact ⟨g, c, rfl, rfl, h3⟩
theorem Rd.kept {W W' : World} {v : Value} {X : List Int} {row : Option Nat} (h : Rd W v X) (hg : W.grownBy W' row) (hn : ∀ k, v.ownBlock = some k → row ≠ some k) : Rd W' v X := by
  by_cases hX : X = []
  · obtain ⟨a, g, c, h1, h2, h3⟩ := h
    subst hX
    exact ⟨a, g, c, h1, h2, fun i hi => absurd hi (Nat.not_lt_zero _)⟩
  · obtain ⟨g, c, h1, h2, h3⟩ := h.block hX
    exact ⟨_, g, c, h1, fun _ => rfl, fun i hi => hg.cell (h3 i hi) (fun e => hn g h2 e.symm)⟩
/-- One byte more: where the list comes to lie, and that its old place stays where it moves. -/
theorem run_append_two {B : Nat} {w : World} {v : Value} {X : List Int} {u : Int} {ty : TypeId} {ad : Addr} {c : Nat} (h : OwnB B w v X) (hl : X.length < 140737488355000) (hB : B ≤ w.heap.size) (hu : ∀ j x, [Value.int .u8 u][j]? = some x → w.cell? (ad.add j) = some x) :
    ∃ g cap w', (Builtin.append_ #[22, 22] ty #[v, .slice (some ad) 1 c]).run Try.prog w = .ok (.slice (some ⟨g, 0, none⟩) (X.length + 1) cap) w' ∧
      OwnB B w' (.slice (some ⟨g, 0, none⟩) (X.length + 1) cap) (X ++ [u]) ∧ w.grownBy w' v.ownBlock ∧ (v.ownBlock = some g ∨ (g = w.heap.size ∧ w.grownBy w' Option.none)) := by
  obtain ⟨i0, hi, hz0, hz1, hz2⟩ := info_parts info_byte
  have h1 : ∀ x ∈ [Value.int .u8 u], x.oneCell' = true := fun x hx => by simp at hx; subst hx; rfl
  have eo : ∀ {w' : World} {v' : Value}, w'.ownsRow B 5 1 v' (X.length + 1) (X.map (Value.int .u8) ++ [.int .u8 u]) → OwnB B w' v' (X ++ [u]) := fun {w'} {v'} h => by
    rw [OwnB, List.length_append, List.map_append]; exact h
  obtain ⟨v', w', hr, h2, h3, _, h5⟩ := run_append_own_at (P := Try.prog) w B 22 ty 5 i0 (.int .u8 0) 1 1 Try.underlying22 hi hz0 hz1 hz2 rfl (by decide) v X.length _ h ad 1 c [.int .u8 u] rfl hu h1 (by unfold maxLen; omega) (by omega) hB
  obtain ⟨g, cap, rfl, _, hlt⟩ := h2.form (by omega)
  refine ⟨g, cap, w', hr, eo h2, h3, ?_⟩
  rcases h.2 with ⟨rfl, h0⟩ | ⟨g0, cap0, cur, rfl, hb, hc, hle, h63, hs, ht⟩
  · right
    refine ⟨?_, h3⟩
    rcases h5 with h5 | h5
    · cases h5
    · exact Option.some.inj h5
  · by_cases hroom : X.length + 1 ≤ cap0
    · left
      obtain ⟨w2, hr2, _, _⟩ := run_append_fits (P := Try.prog) w B 22 ty 5 i0 1 Try.underlying22 hi hz1 g0 X.length cap0 _ h ad 1 c [.int .u8 u] rfl hu h1 hroom
      rw [hr] at hr2
      injection hr2 with e1 e2
      injection e1 with e3
      injection e3 with e4
      injection e4 with e5
      rw [e5]
      rfl
    · right
      have hr2 := run_append_grow (P := Try.prog) w 22 ty 5 i0 (.int .u8 0) Try.underlying22 hi hz0 ⟨g0, 0, none⟩ X.length cap0 (X.map (Value.int .u8)) (by rw [hz1]; simp) (World.ownsRow.cells h (g := g0) rfl) ad 1 c [.int .u8 u] (by rw [hz1]; rfl) hu (by omega) (by omega) (by rw [hz2]; exact growslice_fits (by omega) (by omega))
      rw [hr] at hr2
      injection hr2 with e1 e2
      injection e1 with e3
      injection e3 with e4
      injection e4 with e5
      refine ⟨e5, ?_⟩
      rw [e2]
      exact ⟨rfl, rfl, rfl, by simp, fun k hk _ => heap_alloc_old w.drew _ hk⟩
/-- A list, and what was appended to it since the world w. -/
structure Ap (B : Nat) (w wr : World) (v c : Value) (P Q : List Int) : Prop where
  oc : OwnB B wr c (P ++ Q)
  ra : Rd wr v P
  pc : c.ownBlock = v.ownBlock ∨ ∃ k, c.ownBlock = some k ∧ w.heap.size ≤ k
  gr : w.grownBy wr v.ownBlock
  l1 : ∀ k, v.ownBlock = some k → k < w.heap.size
theorem Ap.keep {B : Nat} {w wr W' : World} {v c : Value} {P Q : List Int} (h : Ap B w wr v c P Q) (hb : Below wr.heap.size wr W') : Ap B w W' v c P Q :=
  ⟨h.oc.keep hb, h.ra.keep hb, h.pc, h.gr.trans (grown_of_below hb _), h.l1⟩
theorem getD_app {P Q : List Int} {i : Nat} (h : i < P.length) : (P ++ Q).getD i 0 = P.getD i 0 := by
  rw [List.getD, List.getD, List.getElem?_append_left h]
theorem Ap.put {B g cap : Nat} {w wr w' : World} {v c : Value} {P Q : List Int} {u : Int} (h : Ap B w wr v c P Q)
    (ho : OwnB B w' (.slice (some ⟨g, 0, none⟩) ((P ++ Q).length + 1) cap) ((P ++ Q) ++ [u])) (hg : wr.grownBy w' c.ownBlock) (hp : c.ownBlock = some g ∨ (g = wr.heap.size ∧ wr.grownBy w' none)) :
    Ap B w w' v (.slice (some ⟨g, 0, none⟩) ((P ++ Q).length + 1) cap) P (Q ++ [u]) := by
  have e : P ++ (Q ++ [u]) = (P ++ Q) ++ [u] := by simp
  refine ⟨by rw [e]; exact ho, ?_, ?_, ?_, h.l1⟩
  · rcases hp with hp | ⟨_, hp⟩
    · rcases h.pc with q | ⟨k, q, hk⟩
      · by_cases hX : P = []
        · obtain ⟨a, g', c', h1, h2, h3⟩ := h.ra
          subst hX
          exact ⟨a, g', c', h1, h2, fun i hi => absurd hi (Nat.not_lt_zero _)⟩
        · obtain ⟨g', c', h1, h2, h3⟩ := h.ra.block hX
          have eg : g' = g := by rw [q, h2] at hp; exact Option.some.inj hp
          subst eg
          refine ⟨_, g', c', h1, fun _ => rfl, fun i hi => ?_⟩
          rw [OwnB.cell ho (by simp; omega) (i := i) (by simp; omega), List.append_assoc, getD_app hi]
      · exact h.ra.kept hg fun k' hk' e => by
          have := h.l1 k' hk'
          rw [q] at e
          have := Option.some.inj e
          omega
    · exact h.ra.kept hp (fun _ _ e => by cases e)
  · rcases hp with hp | ⟨hp, _⟩
    · rcases h.pc with q | ⟨k, q, hk⟩
      · exact .inl (by rw [← q, hp]; rfl)
      · rw [hp] at q
        exact .inr ⟨g, rfl, by rw [Option.some.inj q]; exact hk⟩
    · exact .inr ⟨g, rfl, by rw [hp]; exact h.gr.size⟩
  · refine ⟨hg.os.trans h.gr.os, hg.tape.trans h.gr.tape, hg.output.trans h.gr.output, Nat.le_trans h.gr.size hg.size, fun k hk hne => ?_⟩
    refine (hg.block k (Nat.lt_of_lt_of_le hk h.gr.size) (fun e => ?_)).trans (h.gr.block k hk hne)
    rcases h.pc with q | ⟨k', q, hk'⟩
    · exact hne (e.trans q)
    · rw [q] at e
      have := Option.some.inj e
      omega
theorem wpList_append_ap {ops : Array Oper} {rest : List Oper} {o : Oper} {a : Act} {Q : Exit → Act → World → Prop} {w wr : World} {B n : Nat} {v c : Value} {P1 Q1 : List Int} (u : Int) (hgd : o.guard = none) (s x : Operand)
    (ho : o.op = .call { callee := .builtin .append, args := #[s, x], argTypes := #[22, 22] }) (cc : Nat) (hs : a.eval s = c) (hx : a.eval x = .slice (some ⟨wr.heap.size, 0, none⟩) 1 cc)
    (h : Ap B w wr v c P1 Q1) (hn : P1.length + Q1.length = n) (hl : n < 140737488355000) (hB : B ≤ w.heap.size)
    (hK : ∀ g cap w', Ap B w w' v (.slice (some ⟨g, 0, none⟩) (n + 1) cap) P1 (Q1 ++ [u]) → wpList Try.prog ops Q rest (a.put o.dst (.slice (some ⟨g, 0, none⟩) (n + 1) cap)) w') :
    wpList Try.prog ops Q (o :: rest) a (wr.alloc (.cells #[.int .u8 u] 5)) := by
  have e : (P1 ++ Q1).length = n := by rw [List.length_append, hn]
  have hb : Below wr.heap.size wr (wr.alloc (.cells #[.int .u8 u] 5)) := (Below.refl _ _).alloc (Nat.le_refl _) _
  have h' := h.keep hb
  obtain ⟨g, cap, w', hr, h2, h3, h4⟩ := run_append_two (ty := o.type) (c := cc) (u := u) (ad := ⟨wr.heap.size, 0, none⟩) h'.oc (by omega) (by have := h.gr.size; simp; omega) (cell_one_new _ _ _)
  refine wpList_plain hgd fun K hK2 => ?_
  have h9 := h'.put h2 h3 h4
  rw [e] at h9 hr
  unfold Oper.wp execOp
  simp only [ho, resolve, invoke, builtin, Sem.run_bind, Sem.run_pure, Result.andThen_ok, List.map_toArray, List.map_cons, List.map_nil, hs, hx, hr]
  exact hK2 _ _ (hK g cap w' h9)
end Go.Proofs.Ytecjfddolamknaa

import Derived.Test.YtaefmdofchjofaaRyE
import Derived.Deep.AppendLies
import Derived.Great.BuildSlice
/- Layer 21: apart, same, copied, lent, still. -/
namespace Go.Proofs.Ytaefmdofchjofaa
open Go.RowKit Go.Sort

/-- A slice that can be read. -/
def Rd (W : World) (v : Value) (X : List Int) : Prop := ∃ a g c, v = .slice a X.length c ∧ (X ≠ [] → a = some ⟨g, 0, none⟩) ∧ ∀ i, i < X.length → W.cell? ⟨g, i, none⟩ = some (.int .u8 (X.getD i 0))
theorem OwnB.rd {B : Nat} {W : World} {v : Value} {X : List Int} (h : OwnB B W v X) : Rd W v X := by
  rcases h.2 with ⟨rfl, h0⟩ | ⟨g, cap, cur, rfl, _⟩
  · have e : X = [] := List.length_eq_zero_iff.1 h0
    subst e
    exact ⟨_, 0, 0, rfl, fun h => absurd rfl h, fun i hi => absurd hi (Nat.not_lt_zero _)⟩
  · exact ⟨_, g, cap, rfl, fun _ => rfl, fun i hi => OwnB.cell h rfl hi⟩
theorem Rd.keep {W W' : World} {v : Value} {X : List Int} (h : Rd W v X) (hb : Below W.heap.size W W') : Rd W' v X := by
  obtain ⟨a, g, c, h1, h2, h3⟩ := h
  exact ⟨a, g, c, h1, h2, fun i hi => cell_keep hb (h3 i hi)⟩
theorem Rd.block {W : World} {v : Value} {X : List Int} (h : Rd W v X) (hX : X ≠ []) : ∃ g c, v = .slice (some ⟨g, 0, none⟩) X.length c ∧ v.ownBlock = some g ∧ ∀ i, i < X.length → W.cell? ⟨g, i, none⟩ = some (.int .u8 (X.getD i 0)) := by
  obtain ⟨a, g, c, rfl, h2, h3⟩ := h
  obtain rfl := h2 hX
  exact ⟨g, c, rfl, rfl, h3⟩
theorem Rd.kept {W W' : World} {v : Value} {X : List Int} {row : Option Nat} (h : Rd W v X) (hg : W.grownBy W' row) (hn : ∀ k, v.ownBlock = some k → row ≠ some k) : Rd W' v X := by
  by_cases hX : X = []
  · obtain ⟨a, g, c, h1, h2, h3⟩ := h
    subst hX
    exact ⟨a, g, c, h1, h2, fun i hi => absurd hi (Nat.not_lt_zero _)⟩
  · obtain ⟨g, c, h1, h2, h3⟩ := h.block hX
    exact ⟨_, g, c, h1, fun _ => rfl, fun i hi => hg.cell (h3 i hi) (fun e => hn g h2 e.symm)⟩
/-- One byte more: where the list comes to lie, and that its old place stays where it moves. -/
theorem run_append_two {B : Nat} {w : World} {v : Value} {X : List Int} {u : Int} {ty : TypeId} {ad : Addr} {c : Nat} (h : OwnB B w v X) (hl : X.length < 140737488355000) (hB : B ≤ w.heap.size) (hu : ∀ j x, [Value.int .u8 u][j]? = some x → w.cell? (ad.add j) = some x) :
    ∃ g cap w', (Builtin.append_ #[29, 29] ty #[v, .slice (some ad) 1 c]).run Try.prog w = .ok (.slice (some ⟨g, 0, none⟩) (X.length + 1) cap) w' ∧
      OwnB B w' (.slice (some ⟨g, 0, none⟩) (X.length + 1) cap) (X ++ [u]) ∧ w.grownBy w' v.ownBlock ∧ (v.ownBlock = some g ∨ (g = w.heap.size ∧ w.grownBy w' Option.none)) := by
  obtain ⟨i0, hi, hz0, hz1, hz2⟩ := info_parts info_byte
  have h1 : ∀ x ∈ [Value.int .u8 u], x.oneCell' = true := fun x hx => by simp at hx; subst hx; rfl
  have eo : ∀ {w' : World} {v' : Value}, w'.ownsRow B 5 1 v' (X.length + 1) (X.map (Value.int .u8) ++ [.int .u8 u]) → OwnB B w' v' (X ++ [u]) := fun {w'} {v'} h => by
    rw [OwnB, List.length_append, List.map_append]; exact h
  obtain ⟨v', w', hr, h2, h3, _, h5⟩ := run_append_own_at (P := Try.prog) w B 29 ty 5 i0 (.int .u8 0) 1 1 Try.underlying29 hi hz0 hz1 hz2 rfl (by decide) v X.length _ h ad 1 c [.int .u8 u] rfl hu h1 (by unfold maxLen; omega) (by omega) hB
  obtain ⟨g, cap, rfl, _, hlt⟩ := h2.form (by omega)
  refine ⟨g, cap, w', hr, eo h2, h3, ?_⟩
  rcases h.2 with ⟨rfl, h0⟩ | ⟨g0, cap0, cur, rfl, hb, hc, hle, h63, hs, ht⟩
  · right
    refine ⟨?_, h3⟩
    rcases h5 with h5 | h5
    · cases h5
    · exact Option.some.inj h5
  · by_cases hroom : X.length + 1 ≤ cap0
    · left
      obtain ⟨w2, hr2, _, _⟩ := run_append_fits (P := Try.prog) w B 29 ty 5 i0 1 Try.underlying29 hi hz1 g0 X.length cap0 _ h ad 1 c [.int .u8 u] rfl hu h1 hroom
      rw [hr] at hr2
      have e1 := (Result.ok.inj hr2).1
      have e2 := (Result.ok.inj hr2).2
      have e5 : g = _ := congrArg Addr.block (Option.some.inj (Value.slice.inj e1).1)
      rw [e5]
      rfl
    · right
      have hr2 := run_append_grow (P := Try.prog) w 29 ty 5 i0 (.int .u8 0) Try.underlying29 hi hz0 ⟨g0, 0, none⟩ X.length cap0 (X.map (Value.int .u8)) (by rw [hz1]; simp) (World.ownsRow.cells h (g := g0) rfl) ad 1 c [.int .u8 u] (by rw [hz1]; rfl) hu (by omega) (by omega) (by rw [hz2]; exact growslice_fits (by omega) (by omega))
      rw [hr] at hr2
      have e1 := (Result.ok.inj hr2).1
      have e2 := (Result.ok.inj hr2).2
      have e5 : g = _ := congrArg Addr.block (Option.some.inj (Value.slice.inj e1).1)
      refine ⟨e5, ?_⟩
      rw [e2]
      exact ⟨rfl, rfl, rfl, by simp, fun k hk _ => by have e := heap_alloc_old w.drew; first | exact e _ hk | exact e _ _ hk⟩
/-- A list, and what was appended to it since the world w. -/
structure Ap (B : Nat) (w wr : World) (v c : Value) (P Q : List Int) : Prop where
  oc : OwnB B wr c (P ++ Q)
  ra : Rd wr v P
  pc : c.ownBlock = v.ownBlock ∨ ∃ k, c.ownBlock = some k ∧ w.heap.size ≤ k
  gr : w.grownBy wr v.ownBlock
  l1 : ∀ k, v.ownBlock = some k → k < w.heap.size
theorem Ap.keep {B : Nat} {w wr W' : World} {v c : Value} {P Q : List Int} (h : Ap B w wr v c P Q) (hb : Below wr.heap.size wr W') : Ap B w W' v c P Q :=
  ⟨h.oc.keep hb, h.ra.keep hb, h.pc, h.gr.trans (grown_of_below hb _), h.l1⟩
theorem getD_appX {P Q : List Int} {i : Nat} (h : i < P.length) : (P ++ Q).getD i 0 = P.getD i 0 := by
  rw [List.getD, List.getD, List.getElem?_append_left h]
theorem Ap.put {B g cap : Nat} {w wr w' : World} {v c : Value} {P Q : List Int} {u : Int} (h : Ap B w wr v c P Q)
    (ho : OwnB B w' (.slice (some ⟨g, 0, none⟩) ((P ++ Q).length + 1) cap) ((P ++ Q) ++ [u])) (hg : wr.grownBy w' c.ownBlock) (hp : c.ownBlock = some g ∨ (g = wr.heap.size ∧ wr.grownBy w' none)) :
    Ap B w w' v (.slice (some ⟨g, 0, none⟩) ((P ++ Q).length + 1) cap) P (Q ++ [u]) := by
  have e : P ++ (Q ++ [u]) = (P ++ Q) ++ [u] := by simp
  refine ⟨by rw [e]; exact ho, ?_, ?_, ?_, h.l1⟩
  · rcases hp with hp | ⟨_, hp⟩
    · rcases h.pc with q | ⟨k, q, hk⟩
      · by_cases hX : P = []
        · obtain ⟨a, g', c', h1, h2, h3⟩ := h.ra
          subst hX
          exact ⟨a, g', c', h1, h2, fun i hi => absurd hi (Nat.not_lt_zero _)⟩
        · obtain ⟨g', c', h1, h2, h3⟩ := h.ra.block hX
          have eg : g' = g := by rw [q, h2] at hp; exact Option.some.inj hp
          subst eg
          refine ⟨_, g', c', h1, fun _ => rfl, fun i hi => ?_⟩
          rw [OwnB.cell ho (by simp; omega) (i := i) (by simp; omega), List.append_assoc, getD_appX hi]
      · exact h.ra.kept hg fun k' hk' e => by
          have := h.l1 k' hk'
          rw [q] at e
          have := Option.some.inj e
          omega
    · exact h.ra.kept hp (fun _ _ e => by cases e)
  · rcases hp with hp | ⟨hp, _⟩
    · rcases h.pc with q | ⟨k, q, hk⟩
      · exact .inl (by rw [← q, hp]; rfl)
      · rw [hp] at q
        exact .inr ⟨g, rfl, by rw [Option.some.inj q]; exact hk⟩
    · exact .inr ⟨g, rfl, by rw [hp]; exact h.gr.size⟩
  · refine ⟨hg.os.trans h.gr.os, hg.tape.trans h.gr.tape, hg.output.trans h.gr.output, Nat.le_trans h.gr.size hg.size, fun k hk hne => ?_⟩
    refine (hg.block k (Nat.lt_of_lt_of_le hk h.gr.size) (fun e => ?_)).trans (h.gr.block k hk hne)
    rcases h.pc with q | ⟨k', q, hk'⟩
    · exact hne (e.trans q)
    · rw [q] at e
      have := Option.some.inj e
      omega
theorem wpList_append_ap {ops : Array Oper} {rest : List Oper} {o : Oper} {a : Act} {Q : Exit → Act → World → Prop} {w wr : World} {B n : Nat} {v c : Value} {P1 Q1 : List Int} (u : Int) (hgd : o.guard = none) (s x : Operand)
    (ho : o.op = .call { callee := .builtin .append, args := #[s, x], argTypes := #[29, 29] }) (cc : Nat) (hs : a.eval s = c) (hx : a.eval x = .slice (some ⟨wr.heap.size, 0, none⟩) 1 cc)
    (h : Ap B w wr v c P1 Q1) (hn : P1.length + Q1.length = n) (hl : n < 140737488355000) (hB : B ≤ w.heap.size)
    (hK : ∀ g cap w', Ap B w w' v (.slice (some ⟨g, 0, none⟩) (n + 1) cap) P1 (Q1 ++ [u]) → wpList Try.prog ops Q rest (a.put o.dst (.slice (some ⟨g, 0, none⟩) (n + 1) cap)) w') :
    wpList Try.prog ops Q (o :: rest) a (wr.alloc (.cells #[.int .u8 u] 5)) := by
  have e : (P1 ++ Q1).length = n := by rw [List.length_append, hn]
  have hb : Below wr.heap.size wr (wr.alloc (.cells #[.int .u8 u] 5)) := (Below.refl _ _).alloc (Nat.le_refl _) _
  have h' := h.keep hb
  obtain ⟨g, cap, w', hr, h2, h3, h4⟩ := run_append_two (ty := o.type) (c := cc) (u := u) (ad := ⟨wr.heap.size, 0, none⟩) h'.oc (by omega) (by have := h.gr.size; simp; omega) (cell_one_new _ _ _)
  refine wpList_plain hgd fun K hK2 => ?_
  have h9 := h'.put h2 h3 h4
  rw [e] at h9 hr
  unfold Oper.wp execOp
  simp only [ho, resolve, invoke, builtin, Sem.run_bind, Sem.run_pure, Result.andThen_ok, List.map_toArray, List.map_cons, List.map_nil, hs, hx, hr]
  exact hK2 _ _ (hK g cap w' h9)

/-- What is kept but for the blocks of n slices. -/
structure Many (w w' : World) (n : Nat) (V : Nat → Value) : Prop where
  os : w'.os = w.os
  tape : w'.tape = w.tape
  output : w'.output = w.output
  size : w.heap.size ≤ w'.heap.size
  block : ∀ k, k < w.heap.size → (∀ i, i < n → (V i).ownBlock ≠ some k) → w'.heap[k]? = w.heap[k]?
theorem Many.refl (w : World) (n : Nat) (V : Nat → Value) : Many w w n V := ⟨rfl, rfl, rfl, Nat.le_refl _, fun _ _ _ => rfl⟩
theorem Many.grown {w w1 w2 : World} {n i : Nat} {V : Nat → Value} (h : Many w w1 n V) (hi : i < n) (hg : w1.grownBy w2 (V i).ownBlock) : Many w w2 n V :=
  ⟨hg.os.trans h.os, hg.tape.trans h.tape, hg.output.trans h.output, Nat.le_trans h.size hg.size, fun k hk hn => (hg.block k (Nat.lt_of_lt_of_le hk h.size) (fun e => hn i hi e.symm)).trans (h.block k hk hn)⟩
/-- n slices in a list: all can be read, those from s on are the call's own. -/
structure Fam (B : Nat) (W : World) (gl n : Nat) (V : Nat → Value) (F : Nat → List Int) (s : Nat) : Prop where
  cell : ∀ i, i < n → W.cell? ⟨gl, i, none⟩ = some (V i)
  rd : ∀ i, i < n → Rd W (V i) (F i)
  own : ∀ i, s ≤ i → i < n → OwnB B W (V i) (F i)
  dis : ∀ i j k, i < n → j < n → i ≠ j → (V i).ownBlock = some k → (V j).ownBlock ≠ some k
  far : ∀ i k, i < n → (V i).ownBlock = some k → gl ≠ k
theorem Fam.step {B gl n s s' i : Nat} {W W' : World} {V : Nat → Value} {F : Nat → List Int} {Y : List Int} (h : Fam B W gl n V F s) (hi : i < n) (hg : W.grownBy W' (V i).ownBlock) (hr : Rd W' (V i) Y) (ho : s' ≤ i → OwnB B W' (V i) Y) (hs : s ≤ s') : Fam B W' gl n V (fun j => if j = i then Y else F j) s' where
  cell := fun j hj => hg.cell (h.cell j hj) (fun e => h.far i gl hi e.symm rfl)
  rd := fun j hj => by
    by_cases e : j = i
    · subst e; simpa using hr
    · simp only [if_neg e]
      exact (h.rd j hj).kept hg (fun k hk => h.dis j i k hj hi e hk)
  own := fun j h1 h2 => by
    by_cases e : j = i
    · subst e; simpa using ho h1
    · simp only [if_neg e]
      exact (h.own j (Nat.le_trans hs h1) h2).kept hg (fun k hk => h.dis j i k h2 hi e hk)
  dis := h.dis
  far := h.far
theorem Fam.congr {B gl n s : Nat} {W : World} {V : Nat → Value} {F G : Nat → List Int} (h : Fam B W gl n V F s) (e : ∀ i, i < n → F i = G i) : Fam B W gl n V G s :=
  ⟨h.cell, fun i hi => e i hi ▸ h.rd i hi, fun i h1 h2 => e i h2 ▸ h.own i h1 h2, h.dis, h.far⟩
theorem rep_snocX (k : Nat) (x : Int) : List.replicate k x ++ [x] = List.replicate (k + 1) x := by rw [List.replicate_succ']

def nilS : Value := .slice none 0 0
def fillM (X : Nat → List Int) (j : Nat) : List Int := List.replicate (X j).length (j : Int)
theorem fillM_len (X : Nat → List Int) (j : Nat) : (fillM X j).length = (X j).length := by simp [fillM]
theorem fillM_at (X : Nat → List Int) (j k : Nat) (h : k < (X j).length) : (fillM X j).getD k 0 = (j : Int) := by
  rw [fillM, List.getD, List.getElem?_replicate, if_pos h]; rfl
/-- A list and the seventy bytes behind it. -/
def moreL (X : Nat → List Int) (j : Nat) : List Int := fillM X j ++ List.replicate 70 (125 + (j : Int))
theorem moreL_len (X : Nat → List Int) (j : Nat) : (moreL X j).length = (X j).length + 70 := by simp [moreL, fillM_len]
theorem moreL_lo (X : Nat → List Int) (j k : Nat) (h : k < (X j).length) : (moreL X j).getD k 0 = (j : Int) := by
  rw [moreL, getD_appX (by rw [fillM_len]; exact h), fillM_at X j k h]
theorem moreL_hi (X : Nat → List Int) (j k : Nat) (h : (X j).length ≤ k) (h2 : k < (X j).length + 70) : (moreL X j).getD k 0 = 125 + (j : Int) := by
  rw [moreL, List.getD, List.getElem?_append_right (by rw [fillM_len]; exact h), fillM_len, List.getElem?_replicate, if_pos (by omega)]; rfl
/-- The longer lists so far, in a list of the call's own. -/
structure Mo (w W : World) (n : Nat) (V : Nat → Value) (G : Nat → List Int) (mv : Value) (UL : List Value) : Prop where
  own : W.ownsRow w.heap.size 29 1 mv UL.length UL
  rd : ∀ j, j < UL.length → Rd W (UL.getD j nilS) (G j)
  dis : ∀ j k, j < UL.length → (UL.getD j nilS).ownBlock = some k → k < W.heap.size ∧ mv.ownBlock ≠ some k ∧ ∀ q, q < n → q ≠ j → (V q).ownBlock ≠ some k
theorem row_keptX {B : Nat} {W W' : World} {t : TypeId} {s n : Nat} {v : Value} {X : List Value} {row : Option Nat} (h : W.ownsRow B t s v n X) (hg : W.grownBy W' row) (hn : ∀ k, v.ownBlock = some k → row ≠ some k) : W'.ownsRow B t s v n X :=
  World.ownsRow.kept h hg (by
    cases hd : v.ownBlock with
    | none => exact .inl rfl
    | some k => exact .inr fun e => hn k hd e.symm)
theorem Mo.nil (w W : World) (n : Nat) (V : Nat → Value) (G : Nat → List Int) : Mo w W n V G nilS [] :=
  ⟨⟨rfl, .inl ⟨rfl, rfl⟩⟩, fun _ h => absurd h (Nat.not_lt_zero _), fun _ _ h => absurd h (Nat.not_lt_zero _)⟩
theorem Mo.ge {w W : World} {n k : Nat} {V : Nat → Value} {G : Nat → List Int} {mv : Value} {UL : List Value} (h : Mo w W n V G mv UL) (e : mv.ownBlock = some k) : w.heap.size ≤ k ∧ k < W.heap.size := h.own.lt k e
theorem Mo.grown {w W W' : World} {n i : Nat} {V : Nat → Value} {G : Nat → List Int} {mv : Value} {UL : List Value} (h : Mo w W n V G mv UL) (hi : i < n) (hu : UL.length ≤ i) (hlt : ∀ k, (V i).ownBlock = some k → k < w.heap.size) (hg : W.grownBy W' (V i).ownBlock) : Mo w W' n V G mv UL where
  own := row_keptX h.own hg (fun k hk e => by have := (h.ge hk).1; have := hlt k e; omega)
  rd := fun j hj => (h.rd j hj).kept hg (fun k hk e => (h.dis j k hj hk).2.2 i hi (by omega) e)
  dis := fun j k hj hk => ⟨Nat.lt_of_lt_of_le (h.dis j k hj hk).1 hg.size, (h.dis j k hj hk).2⟩
theorem Mo.below {w W W' : World} {n : Nat} {V : Nat → Value} {G : Nat → List Int} {mv : Value} {UL : List Value} (h : Mo w W n V G mv UL) (hb : Below W.heap.size W W') : Mo w W' n V G mv UL where
  own := row_keptX h.own (grown_of_below hb none) (fun _ _ e => by cases e)
  rd := fun j hj => (h.rd j hj).keep hb
  dis := fun j k hj hk => ⟨Nat.lt_of_lt_of_le (h.dis j k hj hk).1 hb.size, (h.dis j k hj hk).2⟩
theorem getD_l {UL : List Value} {x : Value} {j : Nat} (h : j < UL.length) : (UL ++ [x]).getD j nilS = UL.getD j nilS := by
  rw [List.getD, List.getD, List.getElem?_append_left h]
theorem getD_r {UL : List Value} {x : Value} : (UL ++ [x]).getD UL.length nilS = x := by
  rw [List.getD, List.getElem?_append_right (Nat.le_refl _), Nat.sub_self]; rfl
theorem Mo.push {w W W' : World} {n : Nat} {V : Nat → Value} {G : Nat → List Int} {mv v' x : Value} {UL : List Value} (h : Mo w W n V G mv UL)
    (hr : Rd W x (G UL.length)) (hx : ∀ k, x.ownBlock = some k → k < W.heap.size ∧ mv.ownBlock ≠ some k ∧ ∀ q, q < n → q ≠ UL.length → (V q).ownBlock ≠ some k)
    (hown : W'.ownsRow w.heap.size 29 1 v' (UL.length + 1) (UL ++ [x])) (hg : W.grownBy W' mv.ownBlock) (hb : v'.ownBlock = mv.ownBlock ∨ ∃ k, v'.ownBlock = some k ∧ W.heap.size ≤ k) : Mo w W' n V G v' (UL ++ [x]) where
  own := by rw [List.length_append]; exact hown
  rd := fun j hj => by
    rw [List.length_append, List.length_singleton] at hj
    by_cases e : j < UL.length
    · rw [getD_l e]
      exact (h.rd j e).kept hg (fun k hk => (h.dis j k e hk).2.1)
    · obtain rfl : j = UL.length := by omega
      rw [getD_r]
      exact hr.kept hg (fun k hk => (hx k hk).2.1)
  dis := fun j k hj hk => by
    rw [List.length_append, List.length_singleton] at hj
    have key : k < W.heap.size ∧ mv.ownBlock ≠ some k ∧ ∀ q, q < n → q ≠ j → (V q).ownBlock ≠ some k := by
      by_cases e : j < UL.length
      · rw [getD_l e] at hk
        exact h.dis j k e hk
      · obtain rfl : j = UL.length := by omega
        rw [getD_r] at hk
        exact hx k hk
    refine ⟨Nat.lt_of_lt_of_le key.1 hg.size, fun e => ?_, key.2.2⟩
    rcases hb with q | ⟨k', q, hk'⟩
    · exact key.2.1 (q ▸ e)
    · rw [q] at e
      have := Option.some.inj e
      have := key.1
      omega
theorem Fam.other {B gl n s K0 : Nat} {W W' : World} {V : Nat → Value} {F : Nat → List Int} {row : Option Nat} (h : Fam B W gl n V F s) (hl : ∀ i k, i < n → (V i).ownBlock = some k → k < K0) (hgl : gl < K0) (hg : W.grownBy W' row) (hr : ∀ k, row = some k → K0 ≤ k) : Fam B W' gl n V F s where
  cell := fun i hi => hg.cell (h.cell i hi) (fun e => by have := hr gl e.symm; omega)
  rd := fun i hi => (h.rd i hi).kept hg (fun k hk e => by have := hr k e; have := hl i k hi hk; omega)
  own := fun i h1 h2 => (h.own i h1 h2).kept hg (fun k hk e => by have := hr k e; have := hl i k h2 hk; omega)
  dis := h.dis
  far := h.far
theorem Many.other {w W W' : World} {n : Nat} {V : Nat → Value} {row : Option Nat} (h : Many w W n V) (hg : W.grownBy W' row) (hr : ∀ k, row = some k → w.heap.size ≤ k) : Many w W' n V :=
  ⟨hg.os.trans h.os, hg.tape.trans h.tape, hg.output.trans h.output, Nat.le_trans h.size hg.size, fun k hk hn => (hg.block k (Nat.lt_of_lt_of_le hk h.size) (fun e => by have := hr k e.symm; omega)).trans (h.block k hk hn)⟩
theorem info_slX : ∃ i1, Try.prog.info? 29 = some i1 ∧ i1.zero = some (.slice none 0 0) ∧ i1.size = 1 ∧ i1.bytes = 24 := by
  have hi : (Try.prog.info? 29).map (fun i => (i.zero, i.size, i.bytes)) = some (some (.slice none 0 0), 1, 24) := by kernel_rfl
  cases hq : Try.prog.info? 29 with
  | none => rw [hq] at hi; cases hi
  | some ie =>
    rw [hq] at hi
    simp only [Option.map_some, Option.some.injEq, Prod.mk.injEq] at hi
    exact ⟨ie, rfl, hi.1, hi.2.1, hi.2.2⟩
set_option maxRecDepth 100000 in
set_option maxHeartbeats 8000000 in
theorem apm_any {B gl n cl : Nat} {V : Nat → Value} {X : Nat → List Int} (hn : n ≤ 4) (hX : ∀ i, i < n → (X i).length < 140737488354000) (w : World) (hB : B ≤ w.heap.size) (hgl : gl < w.heap.size) (h : Fam B w gl n V X 0) (hlt : ∀ i k, i < n → (V i).ownBlock = some k → k < w.heap.size) :
    Calls Try.prog 13 #[.slice (some ⟨gl, 0, none⟩) n cl] w fun e w' => e = .returned (.bool true) ∧ Many w w' n V := by
  obtain ⟨i1, hi1⟩ := info_slX
  have HZ : Hid (Try.prog.info? 29 = some i1 ∧ i1.zero = some (.slice none 0 0) ∧ i1.size = 1 ∧ i1.bytes = 24) := hi1
  have n4 : (n : Int) ≤ 4 := by omega
  have HX : Hid ((∀ i, i < n → (X i).length < 140737488354000) ∧ n ≤ 4 ∧ B ≤ w.heap.size ∧ (∀ i k, i < n → (V i).ownBlock = some k → k < w.heap.size) ∧ gl < w.heap.size) := ⟨hX, hn, hB, hlt, hgl⟩
  have HI : Hid (Fam B w gl n V X 0) := h
  clear hX hB h hn hlt hgl hi1
  go_enter Try.func13, Try.ntmps13
  go_wp2_with fail
  go_loopg [3, 4] n (fun k iv kv wr => ∃ i : Nat, k = n - i ∧ i ≤ n ∧ iv = .int .i64 (i : Int) ∧ Fam B wr gl n V (fun j => if j < i then fillM X j else X j) 0 ∧ Many w wr n V)
  case atStart => exact ⟨0, rfl, Nat.zero_le _, rfl, HI.out.congr (fun i _ => by simp), Many.refl _ _ _⟩
  case round =>
    clear HI
    obtain ⟨i, hk, hi9, rfl, hF, hM⟩ := hrel
    have HK : Hid (gk = n - i) := hk
    have HF : Hid (Fam B wr gl n V (fun j => if j < i then fillM X j else X j) 0 ∧ Many w wr n V) := ⟨hF, hM⟩
    clear hk hF hM
    by_cases h8 : i < n
    · have hlt : (i : Int) < (n : Int) := by omega
      have o0 := HF.out.1.own i (Nat.zero_le _) h8
      simp only [Nat.lt_irrefl, if_false] at o0
      obtain ⟨a, g, c, ev, hc, haz, _, _, hob, _⟩ := o0.lies
      have cc0 := HF.out.1.cell i h8
      rw [ev] at cc0
      obtain ⟨L, eL⟩ : ∃ L, L = (X i).length := ⟨_, rfl⟩
      rw [← eL] at ev cc0
      have HL : Hid ((X i).length = L ∧ L < 140737488354000 ∧ V i = .slice a L c ∧ Az a g 0 (X i)) := ⟨eL.symm, by rw [eL]; exact HX.out.1 i h8, ev, haz⟩
      have l1 : (L : Int) < 140737488354000 := by have := HL.out.2.1; omega
      have HJ : Hid (i < n) := h8
      clear o0 haz hob hc ev eL cc0 h8
      go_wp2_with fail
      go_loopg [4] L (fun k kv wq => ∃ j : Nat, k = L - j ∧ j ≤ L ∧ kv = .int .i64 (j : Int) ∧ Fam B wq gl n V (fun q => if q < i then fillM X q else if q = i then partw (fillM X i) (X i) j else X q) 0 ∧ Many w wq n V)
      case atStart => exact ⟨0, rfl, Nat.zero_le _, rfl, HF.out.1.congr (fun q _ => by by_cases e : q = i <;> simp [e, partw_zero]), HF.out.2⟩
      case round =>
        clear HF
        obtain ⟨j, hk, hj9, rfl, hF, hM⟩ := hrel
        have HK2 : Hid (gk = L - j) := hk
        have HF : Hid (Fam B wr gl n V (fun q => if q < i then fillM X q else if q = i then partw (fillM X i) (X i) j else X q) 0 ∧ Many w wr n V) := ⟨hF, hM⟩
        clear hk hF hM
        have cc := HF.out.1.cell i HJ.out
        rw [HL.out.2.2.1] at cc
        by_cases h9 : j < L
        · have hlt2 : (j : Int) < (L : Int) := by omega
          have i4 : (i : Int) < 4 := by omega
          have em : (i : Int) % 125 = (i : Int) := by omega
          obtain rfl := HL.out.2.2.2.cons (by rw [HL.out.1]; omega)
          have oo := HF.out.1.own i (Nat.zero_le _) HJ.out
          simp only [Nat.lt_irrefl, if_false, if_true] at oo
          rw [HL.out.2.2.1] at oo
          have lf : (fillM X i).length = (X i).length := fillM_len X i
          have lp : (partw (fillM X i) (X i) j).length = L := by rw [partw_len lf, HL.out.1]
          have cQ := oo.cell lp h9
          have fQ := oo.free lp j
          have HS := oo.set lp j ((i : Int))
          have e1 := fillM_at X i j (by rw [HL.out.1]; exact h9)
          rw [← e1, partw_set lf (by rw [HL.out.1]; exact h9), e1] at HS
          have HS' : Hid _ := HS
          have HF2 : Hid (Fam B (wr.setCell ⟨g, j, none⟩ (.int .u8 ((i : Int)))) gl n V (fun q => if q < i then fillM X q else if q = i then partw (fillM X i) (X i) (j + 1) else X q) 0 ∧ Many w (wr.setCell ⟨g, j, none⟩ (.int .u8 ((i : Int)))) n V) := by
            have ob : (V i).ownBlock = some g := by rw [HL.out.2.2.1]; rfl
            have ow : OwnB B (wr.setCell ⟨g, j, none⟩ (.int .u8 ((i : Int)))) (V i) (partw (fillM X i) (X i) (j + 1)) := by rw [HL.out.2.2.1]; exact HS'.out.1
            refine ⟨(HF.out.1.step HJ.out (by rw [ob]; exact HS'.out.2) ow.rd (fun _ => ow) (Nat.le_refl _)).congr (fun q _ => ?_), HF.out.2.grown HJ.out (by rw [ob]; exact HS'.out.2)⟩
            by_cases e : q = i
            · subst e; simp
            · simp [e]
          clear HS HS' HF oo lf lp e1
          generalize (partw (fillM X i) (X i) j).getD j 0 = y at *
          go_wp2
          go_roundg (L - (j + 1))
          case measure => have := HK2.out; omega
          case rel => exact ⟨j + 1, rfl, by omega, by go_num, HF2.out⟩
        · obtain rfl : L = j := by omega
          have HF2 : Hid (Fam B wr gl n V (fun q => if q < i + 1 then fillM X q else X q) 0 ∧ Many w wr n V) := by
            refine ⟨HF.out.1.congr (fun q _ => ?_), HF.out.2⟩
            by_cases e : q = i
            · subst e
              have ep := partw_all (P := fillM X q) (X := X q) (fillM_len X q)
              rw [HL.out.1] at ep
              simp [ep]
            · by_cases e2 : q < i
              · simp [e2, show q < i + 1 by omega]
              · simp [e, e2, show ¬ q < i + 1 by omega]
          clear HF h9
          go_wp2
          go_roundg (n - (i + 1))
          case measure => have := HK.out; have := HJ.out; omega
          case rel => exact ⟨i + 1, rfl, by have := HJ.out; omega, by go_num, HF2.out⟩
    · obtain rfl : n = i := by omega
      have HF2 : Hid (Fam B wr gl n V (fillM X) 0 ∧ Many w wr n V) := ⟨HF.out.1.congr (fun q hq => by simp [hq]), HF.out.2⟩
      clear HF HK h8 hi9
      go_wp2_with fail
      go_loopg [5, 6, 7, 8] n (fun k mv iv lv kv wr => ∃ (i : Nat) (UL : List Value), k = n - i ∧ i ≤ n ∧ UL.length = i ∧ iv = .int .i64 (i : Int) ∧ Fam B wr gl n V (fillM X) i ∧ Many w wr n V ∧ Mo w wr n V (moreL X) mv UL)
      case atStart => exact ⟨0, [], rfl, Nat.zero_le _, rfl, rfl, HF2.out.1, HF2.out.2, Mo.nil _ _ _ _ _⟩
      case round =>
        clear HF2
        obtain ⟨i, UL, hk, hi9, hu, rfl, hF, hM, hO⟩ := hrel
        have HK : Hid (gk = n - i) := hk
        have HF : Hid (Fam B wr gl n V (fillM X) i ∧ Many w wr n V ∧ Mo w wr n V (moreL X) u5 UL ∧ UL.length = i) := ⟨hF, hM, hO, hu⟩
        clear hk hF hM hO hu
        by_cases h8 : i < n
        · have hlt : (i : Int) < (n : Int) := by omega
          have i4 : (i : Int) < 4 := by omega
          have em : (i : Int) % 125 = (i : Int) := by omega
          have o0 := HF.out.1.own i (Nat.le_refl _) h8
          obtain ⟨a, g, c, ev, hc, haz, _, hob, _, _⟩ := o0.lies
          have cc := HF.out.1.cell i h8
          rw [ev] at cc
          obtain ⟨L, eL⟩ : ∃ L, L = (fillM X i).length := ⟨_, rfl⟩
          rw [← eL] at ev cc
          have HL : Hid ((fillM X i).length = L ∧ L < 140737488354000 ∧ V i = .slice a L c) := ⟨eL.symm, by rw [eL, fillM_len]; exact HX.out.1 i h8, ev⟩
          have HJ : Hid (i < n) := h8
          obtain ⟨W0, HP, HF0, HBW⟩ : ∃ W0, Hid (Ap B W0 wr (.slice a L c) (.slice a L c) (fillM X i) (List.replicate 0 (125 + (i : Int)))) ∧ Hid (Fam B W0 gl n V (fillM X) i ∧ Many w W0 n V ∧ Mo w W0 n V (moreL X) u5 UL ∧ UL.length = i) ∧ Hid (B ≤ W0.heap.size) := by
            rw [ev] at o0
            exact ⟨wr, ⟨by rw [List.replicate_zero, List.append_nil]; exact o0, o0.rd, .inl rfl, World.grownBy.refl _ _, fun k hk => (o0.lt k hk).2⟩, HF.out, Nat.le_trans HX.out.2.2.1 HF.out.2.1.size⟩
          clear o0 haz hob hc ev eL h8 HF
          go_wp2_with fail
          clear cc
          go_loopg [7, 8] 70 (fun k mv kv wq => ∃ j : Nat, k = 70 - j ∧ j ≤ 70 ∧ kv = .int .i64 (j : Int) ∧ Ap B W0 wq (.slice a L c) mv (fillM X i) (List.replicate j (125 + (i : Int))))
          case atStart => exact ⟨0, rfl, Nat.zero_le _, rfl, HP.out⟩
          case round =>
            clear HP
            obtain ⟨j, hk, hj9, rfl, ap⟩ := hrel
            have HK2 : Hid (gk = 70 - j) := hk
            have HA : Hid _ := ap
            clear hk ap
            by_cases h9 : j < 70
            · have hlt2 : (j : Int) < 70 := by omega
              go_wp2_with (at_builtin; (refine wpList_append_ap (n := L + j) (125 + (i : Int)) rfl _ _ rfl _ rfl rfl HA.out (by rw [HL.out.1, List.length_replicate]) (by have := HL.out.2.1; omega) HBW.out ?_); (intro g2 c2 w2 HA2); (have HE : Hid _ := HA2); (clear HA2))
              go_roundg (70 - (j + 1))
              case measure => have := HK2.out; omega
              case rel => exact ⟨j + 1, rfl, by omega, by go_num, by rw [← rep_snocX j]; exact HE.out⟩
            · obtain rfl : j = 70 := by omega
              have l9 : (fillM X i ++ List.replicate 70 (125 + (i : Int))).length = L + 70 := by rw [List.length_append, HL.out.1]; simp
              obtain ⟨g3, c3, e6, _, _⟩ := World.ownsRow.form HA.out.oc (by omega)
              rw [l9] at e6
              subst e6
              have HF : Hid (Fam B wr gl n V (fillM X) (i + 1) ∧ Many w wr n V ∧ Mo w wr n V (moreL X) u5 UL ∧ UL.length = i) := by
                have ra : Rd wr (V i) (fillM X i) := by rw [HL.out.2.2]; exact HA.out.ra
                have gr : W0.grownBy wr (V i).ownBlock := by rw [HL.out.2.2]; exact HA.out.gr
                refine ⟨(HF0.out.1.step HJ.out gr ra (fun h => absurd h (by omega)) (by omega)).congr (fun q _ => ?_), HF0.out.2.1.grown HJ.out gr, HF0.out.2.2.1.grown HJ.out (by rw [HF0.out.2.2.2]; exact Nat.le_refl _) (fun k hk => HX.out.2.2.2.1 i k HJ.out hk) gr, HF0.out.2.2.2⟩
                by_cases e : q = i
                · subst e; simp
                · simp [e]
              have HG : Hid (Rd wr (.slice (some ⟨g3, 0, none⟩) (L + 70) c3) (moreL X i) ∧ ∀ k, (Value.slice (some ⟨g3, 0, none⟩) (L + 70) c3).ownBlock = some k → k < wr.heap.size ∧ u5.ownBlock ≠ some k ∧ ∀ q, q < n → q ≠ i → (V q).ownBlock ≠ some k) := by
                refine ⟨HA.out.oc.rd, fun k hk => ⟨(World.ownsRow.lt HA.out.oc k hk).2, ?_⟩⟩
                rcases HA.out.pc with q | ⟨k', q, hk'⟩
                · rw [q, ← HL.out.2.2] at hk
                  have h1 := HX.out.2.2.2.1 i k HJ.out hk
                  exact ⟨fun e => by have := (HF0.out.2.2.1.ge e).1; omega, fun q hq hne e => HF0.out.1.dis q i k hq HJ.out hne e hk⟩
                · rw [q] at hk
                  obtain rfl := Option.some.inj hk
                  exact ⟨fun e => by have := (HF0.out.2.2.1.ge e).2; omega, fun q hq _ e => by have := HX.out.2.2.2.1 q _ hq e; have := HF0.out.2.1.size; omega⟩
              clear HA HF0 l9 h9 hj9
              go_wp2_with ((at_builtin; go_loud (refine wpList_append_own_at _ rfl _ _ 43 rfl w.heap.size 29 i1 (.slice none 0 0) 1 24 Try.underlying43 HZ.out.1 HZ.out.2.1 HZ.out.2.2.1 HZ.out.2.2.2 rfl (by decide) u5 _ _ rfl (HF.out.2.2.1.own.alloc _) ⟨wr.heap.size, 0, none⟩ 1 1 [.slice (some ⟨g3, 0, none⟩) (L + 70) c3] rfl rfl (cell_one_new _ _ _) (fun u hu => by simp at hu; subst hu; rfl) (by unfold maxLen; have := HF.out.2.2.2; have := HX.out.2.1; have := HJ.out; omega) (by have := HF.out.2.2.2; have := HX.out.2.1; have := HJ.out; omega) (by have := HF.out.2.1.size; simp; omega) ?_); intro v' w8 hown hgrow hnil hblk))
              have HF8 : Hid (Fam B w8 gl n V (fillM X) (i + 1) ∧ Many w w8 n V ∧ Mo w w8 n V (moreL X) v' (UL ++ [.slice (some ⟨g3, 0, none⟩) (L + 70) c3]) ∧ (UL ++ [Value.slice (some ⟨g3, 0, none⟩) (L + 70) c3]).length = i + 1) := by
                have hb0 : Below wr.heap.size wr (wr.alloc (.cells #[.slice (some ⟨g3, 0, none⟩) (L + 70) c3] 29)) := (Below.refl _ _).alloc (Nat.le_refl _) _
                have ms := HF.out.2.2.1.below hb0
                have hr : ∀ k, u5.ownBlock = some k → w.heap.size ≤ k := fun k hk => (ms.ge hk).1
                have f1 := HF.out.1.other HX.out.2.2.2.1 HX.out.2.2.2.2 (grown_of_below hb0 none) (fun k e => by cases e)
                have m1 := HF.out.2.1.other (grown_of_below hb0 none) (fun k e => by cases e)
                refine ⟨f1.other HX.out.2.2.2.1 HX.out.2.2.2.2 hgrow hr, m1.other hgrow hr, ms.push ?_ ?_ hown hgrow ?_, by rw [List.length_append, HF.out.2.2.2]; rfl⟩
                · rw [HF.out.2.2.2]; exact HG.out.1.keep hb0
                · intro k hk
                  have := HG.out.2 k hk
                  rw [HF.out.2.2.2]
                  exact ⟨Nat.lt_of_lt_of_le this.1 hb0.size, this.2⟩
                · rcases hblk with q | q
                  · exact .inl q
                  · exact .inr ⟨_, q, Nat.le_refl _⟩
              clear hown hgrow hnil hblk HF HG
              go_wp2
              go_roundg (n - (i + 1))
              case measure => have := HK.out; have := HJ.out; omega
              case rel => exact ⟨i + 1, _, rfl, by have := HJ.out; omega, HF8.out.2.2.2, by go_num, HF8.out.1, HF8.out.2.1, HF8.out.2.2.1⟩
        · obtain rfl : n = i := by omega
          clear HK h8 hi9
          go_wp2_with fail
          go_loopg [9, 10, 11] n (fun k iv nv kv wq => ∃ i : Nat, k = n - i ∧ i ≤ n ∧ iv = .int .i64 (i : Int) ∧ wq = wr)
          case atStart => exact ⟨0, rfl, Nat.zero_le _, rfl, rfl⟩
          case round =>
            obtain ⟨i, hk, hi9, rfl, rfl⟩ := hrel
            have HK : Hid (gk = n - i) := hk
            clear hk
            by_cases h8 : i < n
            · have hlt : (i : Int) < (n : Int) := by omega
              have i4 : (i : Int) < 4 := by omega
              have em : (i : Int) % 125 = (i : Int) := by omega
              have HJ : Hid (i < n) := h8
              have hul : UL.length = n := HF.out.2.2.2
              obtain ⟨gm, cm, em5, _, _⟩ := HF.out.2.2.1.own.form (by omega)
              have cM : wr.cell? ⟨gm, i, none⟩ = some (UL.getD i nilS) := by
                have h := World.ownsRow.cells HF.out.2.2.1.own (g := gm) (by rw [em5]; rfl) i (UL.getD i nilS) (by rw [List.getD, List.getElem?_eq_getElem (by omega)]; rfl)
                rw [Addr.add_lit, Nat.zero_add] at h
                exact h
              rw [hul] at em5
              subst em5
              obtain ⟨L, eL⟩ : ∃ L, L = (X i).length := ⟨_, rfl⟩
              have HLL : Hid ((X i).length = L) := eL.symm
              have rm := HF.out.2.2.1.rd i (by rw [hul]; exact h8)
              obtain ⟨gu, cu, evu, _, hcu⟩ := rm.block (fun e => by have := moreL_len X i; rw [e] at this; simp at this)
              rw [moreL_len, ← eL] at evu hcu
              rw [evu] at cM
              have HCU : Hid (∀ k, k < L + 70 → wr.cell? ⟨gu, k, none⟩ = some (.int .u8 ((moreL X i).getD k 0))) := hcu
              have rd := HF.out.1.rd i h8
              obtain ⟨a, g, c, ev, hv, hcell⟩ := rd
              rw [fillM_len, ← eL] at ev hcell
              have cL := HF.out.1.cell i h8
              rw [ev] at cL
              have HCA : Hid (∀ k, k < L → a = some ⟨g, 0, none⟩ ∧ wr.cell? ⟨g, k, none⟩ = some (.int .u8 ((fillM X i).getD k 0))) := fun k hk => ⟨hv (fun e => by have := fillM_len X i; rw [e, ← eL] at this; simp at this; omega), hcell k hk⟩
              have lL : (L : Int) < 140737488354000 := by have := HX.out.1 i h8; rw [HLL.out] at this; omega
              clear ev hv hcell hcu evu rm h8 eL hul
              go_wp2_with fail
              go_loopg [11] (L + 70) (fun k kv wq => ∃ j : Nat, k = L + 70 - j ∧ j ≤ L + 70 ∧ kv = .int .i64 (j : Int) ∧ wq = wr)
              case atStart => exact ⟨0, rfl, Nat.zero_le _, rfl, rfl⟩
              case round =>
                obtain ⟨j, hk, hj9, rfl, rfl⟩ := hrel
                have HK2 : Hid (gk = L + 70 - j) := hk
                clear hk
                by_cases h9 : j < L
                · have hlt2 : (j : Int) < (L : Int) := by omega
                  have hlt3 : (j : Int) < (L : Int) + 70 := by omega
                  have hge : ¬ ((L : Int) ≤ (j : Int)) := by omega
                  obtain ⟨rfl, xq⟩ := HCA.out j h9
                  have xm := HCU.out j (by omega)
                  rw [fillM_at X i j (by rw [HLL.out]; exact h9)] at xq
                  rw [moreL_lo X i j (by rw [HLL.out]; exact h9)] at xm
                  go_wp2
                  go_roundg (L + 70 - (j + 1))
                  case measure => have := HK2.out; omega
                  case rel => exact ⟨j + 1, rfl, by omega, by go_num, rfl⟩
                · by_cases h7 : j < L + 70
                  · have hlt2 : ¬ (j : Int) < (L : Int) := by omega
                    have hge : (L : Int) ≤ (j : Int) := by omega
                    have hlt3 : (j : Int) < (L : Int) + 70 := by omega
                    have xm := HCU.out j (by omega)
                    rw [moreL_hi X i j (by rw [HLL.out]; omega) (by rw [HLL.out]; omega)] at xm
                    clear h9
                    go_wp2
                    go_roundg (L + 70 - (j + 1))
                    case measure => have := HK2.out; omega
                    case rel => exact ⟨j + 1, rfl, by omega, by go_num, rfl⟩
                  · obtain rfl : j = L + 70 := by omega
                    clear h9 h7
                    go_wp2
                    go_roundg (n - (i + 1))
                    case measure => have := HK.out; have := HJ.out; omega
                    case rel => exact ⟨i + 1, rfl, by have := HJ.out; omega, by go_num, rfl⟩
            · obtain rfl : n = i := by omega
              clear h8 hi9 HK
              go_wp2
              simp [bodyPost, results, Try.results13, go_sem]
              exact HF.out.2.1
set_option maxRecDepth 100000 in
set_option maxHeartbeats 4000000 in
theorem esame_anyX {a a' : Option Addr} {b o c b' o' c' : Nat} {X Z : List Int} (hl : X.length < 281474976710656) (ha : Az a b o X) (ha' : Az a' b' o' Z) (w : World) (hz : Bz w b o X) (hz' : Bz w b' o' Z) :
    Calls Try.prog 9 #[.slice a X.length c, .slice a' Z.length c'] w fun e w' => e = .returned (.bool (decide (X = Z))) ∧ Below w.heap.size w w' := by
  by_cases hn : X.length = Z.length
  case neg =>
    have ne : decide (X = Z) = false := decide_eq_false fun e => hn (by rw [e])
    rw [ne]
    have hn' : ¬ ((X.length : Int) = (Z.length : Int)) := by omega
    clear hl ha ha' hz hz' hn ne
    go_enter Try.func9, Try.ntmps9
    go_wp2
    simp [bodyPost, results, Try.results9, go_sem]
    exact Below.refl _ _
  rw [← hn]
  have HH : Hid (Az a b o X ∧ Az a' b' o' Z ∧ X.length = Z.length) := ⟨ha, ha', hn⟩
  have KL : Hid (∀ W, Below w.heap.size w W → Bz W b o X ∧ Bz W b' o' Z) := fun W B => ⟨hz.keep B, hz'.keep B⟩
  have n1 : (X.length : Int) < 281474976710656 := by omega
  clear hl ha ha' hz hz' hn
  go_enter Try.func9, Try.ntmps9
  go_wp2_with fail
  go_loopg [5] X.length (fun k iv wr => ∃ i : Nat, k = X.length - i ∧ i ≤ X.length ∧ iv = .int .i64 i ∧ X.take i = Z.take i ∧ Below w.heap.size w wr)
  case atStart => exact ⟨0, rfl, Nat.zero_le _, rfl, rfl, Below.refl _ _⟩
  case round =>
    obtain ⟨i, hk, hi, rfl, ht, B⟩ := hrel
    have HK : Hid (gk = X.length - i ∧ X.take i = Z.take i) := ⟨hk, ht⟩
    clear hk ht
    by_cases h8 : i = X.length
    · subst h8
      have HT : Hid (X = Z) := by
        have := HK.out.2
        rw [List.take_length, HH.out.2.2, List.take_length] at this
        exact this
      clear HH KL HK
      go_wp2
      simp [bodyPost, results, Try.results9, go_sem]
      exact ⟨HT.out, B⟩
    · have hlt : i < X.length := by omega
      have hlt' : (i : Int) < (X.length : Int) := by omega
      obtain ⟨g1, g2⟩ := KL.out wr B
      have c1 := g1 i hlt
      have c2 := g2 i (by rw [← HH.out.2.2]; exact hlt)
      obtain rfl := HH.out.1.cons (by omega)
      obtain rfl := HH.out.2.1.cons (by rw [← HH.out.2.2]; omega)
      clear g1 g2
      by_cases hx : X.getD i 0 = Z.getD i 0
      · have NX : Hid (X.take (i + 1) = Z.take (i + 1)) := take_same hlt (by rw [← HH.out.2.2]; exact hlt) HK.out.2 hx
        rw [← hx] at c2
        generalize X.getD i 0 = x at *
        have c1' : ∀ n, (wr.drewN n).cell? ⟨b, o + i, none⟩ = some (.int .u8 x) := fun _ => c1
        have c2' : ∀ n, (wr.drewN n).cell? ⟨b', o' + i, none⟩ = some (.int .u8 x) := fun _ => c2
        go_wp2_with fail
        refine wp_region_quiet_lit (by kernel_rfl) (by kernel_rfl) ?_
        repeat (first | go_big_quiet_skip | (go_big_quiet_want; go_big_quiet_op; go_big_quiet_on))
        refine wpQuiet_nil ?_
        rintro w' ⟨n, rfl⟩
        have BN : Hid (Below w.heap.size w (wr.drewN n)) := ⟨B.os, B.tape, B.output, B.size, B.block⟩
        clear c1 c2 c1' c2' B
        generalize wr.drewN n = w2 at *
        go_wp2
        go_roundg (X.length - (i + 1))
        case measure => have := HK.out; omega
        case rel => exact ⟨i + 1, rfl, by omega, by go_num, NX.out, BN.out⟩
      · have NX : Hid (X ≠ Z) := fun e => hx (by rw [e])
        generalize X.getD i 0 = x at *
        generalize Z.getD i 0 = z at *
        have c1' : ∀ n, (wr.drewN n).cell? ⟨b, o + i, none⟩ = some (.int .u8 x) := fun _ => c1
        have c2' : ∀ n, (wr.drewN n).cell? ⟨b', o' + i, none⟩ = some (.int .u8 z) := fun _ => c2
        have HB : Hid ((x != z) = true) := bne_iff_ne.2 hx
        clear hx
        go_wp2_with fail
        refine wp_region_quiet_lit (by kernel_rfl) (by kernel_rfl) ?_
        repeat (first | go_big_quiet_skip | (go_big_quiet_want; go_big_quiet_op; go_big_quiet_on))
        refine wpQuiet_nil ?_
        rintro w' ⟨n, rfl⟩
        have BN : Hid (Below w.heap.size w (wr.drewN n)) := ⟨B.os, B.tape, B.output, B.size, B.block⟩
        clear c1 c2 c1' c2' B
        generalize wr.drewN n = w2 at *
        rw [HB.out]
        go_wp2
        simp [bodyPost, results, Try.results9, go_sem]
        exact ⟨NX.out, BN.out⟩
set_option maxRecDepth 100000 in
set_option maxHeartbeats 4000000 in
theorem ecopied_anyX {a : Option Addr} {bd od cd : Nat} {X : List Int} (hl : X.length < 140737488355000) (ha : Az a bd od X) (w : World) (hX : Bz w bd od X) :
    Calls Try.prog 12 #[.slice a X.length cd] w fun e w' => ∃ v, e = .returned v ∧ OwnB w.heap.size w' v X ∧ Below w.heap.size w w' := by
  have hl' : (X.length : Int) < 140737488355000 := by omega
  obtain ⟨i0, hi, hz0, hz1, hz2⟩ := info_parts info_byte
  have HA : Hid (Az a bd od X ∧ Bz w bd od X ∧ X.length < 140737488355000) := ⟨ha, hX, hl⟩
  clear ha hX hl
  go_enter Try.func12, Try.ntmps12
  go_wp2_with fail
  go_loopg [3, 4] X.length (fun k lv iv wr => ∃ i : Nat, k = X.length - i ∧ i ≤ X.length ∧ iv = .int .i64 i ∧ OwnB w.heap.size wr lv (X.take i) ∧ Below w.heap.size w wr)
  case atStart => exact ⟨0, rfl, Nat.zero_le _, rfl, OwnB.nil _ _, Below.refl _ _⟩
  case round =>
    obtain ⟨i, hk, hi9, rfl, hown, B⟩ := hrel
    have HK : Hid (gk = X.length - i) := hk
    have HF : Hid (OwnB w.heap.size wr u3 (X.take i) ∧ Below w.heap.size w wr) := ⟨hown, B⟩
    clear hk hown B
    by_cases h8 : i = X.length
    · subst h8
      have HR : Hid (X.take X.length = X) := List.take_length
      go_wp2
      simp [bodyPost, results, Try.results12, go_sem]
      exact ⟨by have h := HF.out.1; rw [HR.out] at h; exact h, HF.out.2⟩
    · have hlt : i < X.length := by omega
      have hlt' : (i : Int) < (X.length : Int) := by omega
      have ea : a = some ⟨bd, od, none⟩ := HA.out.1.cons (by omega)
      subst ea
      have gx : wr.cell? ⟨bd, od + i, none⟩ = some (.int .u8 (X.getD i 0)) := by
        have h := HA.out.2.1 i (by omega)
        rw [HF.out.2.cell (p := ⟨bd, od + i, none⟩) (World.block_lt_of_cell? w _ h)]; exact h
      have NX : Hid (X.take (i + 1) = X.take i ++ [X.getD i 0]) := take_snocI hlt
      have LR : Hid ((X.take i).length = i ∧ i < 140737488355000) := ⟨by rw [List.length_take]; omega, by have := HA.out; omega⟩
      generalize X.getD i 0 = x at *
      go_wp2_with ((at_builtin; go_loud (refine wpList_append_own_at _ rfl _ _ 29 rfl w.heap.size 5 i0 (.int .u8 0) 1 1 Try.underlying29 hi hz0 hz1 hz2 rfl (by decide) u3 _ _ rfl (HF.out.1.alloc _).row ⟨wr.heap.size, 0, none⟩ 1 1 [.int .u8 x] rfl rfl (cell_one_new _ _ _) (fun u hu => by simp at hu; subst hu; rfl) (by unfold maxLen; have := LR.out; omega) (by have := LR.out; omega) (by have := HF.out.2.size; simp; omega) ?_); intro v' w3 hown' hgrow3 hnil3 hblk))
      have HO : Hid (OwnB w.heap.size w3 v' (X.take (i + 1)) ∧ Below w.heap.size w w3) := by
        refine ⟨?_, ?_⟩
        · rw [NX.out, OwnB, List.length_append, List.map_append]
          exact hown'
        · exact (HF.out.2.alloc HF.out.2.size _).grown hgrow3 (by have := HF.out.2.size; simp; omega) (fun k hk => (HF.out.1.row.lt k hk).1)
      clear hown' hgrow3 hnil3 hblk
      go_roundg (X.length - (i + 1))
      case measure => have := HK.out; omega
      case rel => exact ⟨i + 1, rfl, by omega, by go_num, HO.out⟩
def lentEX (X : List Int) : List Int := X ++ List.replicate 70 165
theorem lentX_len (X : List Int) : (lentEX X).length = X.length + 70 := by simp [lentEX]
theorem lentX_at (X : List Int) {i : Nat} (h : i < X.length) : (lentEX X).getD i 0 = X.getD i 0 := by
  rw [lentEX, getD_appX h]
theorem lentX_past (X : List Int) {i : Nat} (h : X.length ≤ i) (h2 : i < X.length + 70) : (lentEX X).getD i 0 = 165 := by
  rw [lentEX, List.getD, List.getElem?_append_right h, List.getElem?_replicate, if_pos (by omega)]; rfl
set_option maxRecDepth 100000 in
set_option maxHeartbeats 4000000 in
theorem elent_anyX {a : Option Addr} {bd od cd : Nat} {X : List Int} (hl : X.length ≤ 140737488351232) (ha : Az a bd od X) (w : World) (hX : Bz w bd od X) :
    Calls Try.prog 6 #[.slice a X.length cd] w fun e w' => ∃ g cap, e = .returned (.slice (some ⟨g, 0, none⟩) X.length cap) ∧ OwnB w.heap.size w' (.slice (some ⟨g, 0, none⟩) (X.length + 70) cap) (lentEX X) ∧ Below w.heap.size w w' := by
  have hc := ecopied_anyX (cd := cd) (by omega) ha w hX
  obtain ⟨i0, hi, hz0, hz1, hz2⟩ := info_parts info_byte
  obtain ⟨m, em⟩ : ∃ m, m = X.length := ⟨_, rfl⟩
  have HA : Hid (X.length = m ∧ m ≤ 140737488351232) := ⟨em.symm, by omega⟩
  rw [← em] at hc ⊢
  clear ha hX hl em
  go_enter Try.func6, Try.ntmps6
  go_wp2_with fail
  with_reducible refine hc.mono ?_
  rintro e w1 ⟨v1, rfl, o1, B1⟩
  clear hc
  go_wp2_with fail
  go_loopg [3, 4] 70 (fun k lv iv wr => ∃ i : Nat, k = 70 - i ∧ i ≤ 70 ∧ iv = .int .i64 i ∧ OwnB w.heap.size wr lv (X ++ List.replicate i 165) ∧ Below w.heap.size w wr)
  case atStart => exact ⟨0, rfl, by decide, rfl, by simpa using o1, B1⟩
  case round =>
    clear o1 B1
    obtain ⟨i, hk, hi9, rfl, hown, B⟩ := hrel
    have HK : Hid (gk = 70 - i) := hk
    by_cases h8 : i = 70
    · subst h8
      have el : (X ++ List.replicate 70 165).length = m + 70 := by rw [List.length_append, HA.out.1, List.length_replicate]
      have h9 : OwnB w.heap.size wr u3 (lentEX X) := hown
      obtain ⟨g, cap, e3, hb, hlt⟩ := World.ownsRow.form hown (by omega)
      have e3' : u3 = .slice (some ⟨g, 0, none⟩) (m + 70) cap := by rw [e3, el]
      have hcap : m + 70 ≤ cap := by
        obtain ⟨a', g', c', e4, h4, _⟩ := h9.lies
        rw [e3'] at e4
        injection e4 with _ _ e5
        rw [lentX_len, HA.out.1] at h4
        omega
      subst e3'
      have HF : Hid (OwnB w.heap.size wr (.slice (some ⟨g, 0, none⟩) (m + 70) cap) (lentEX X) ∧ Below w.heap.size w wr) := ⟨h9, B⟩
      clear hown h9 B e3 hb hlt hk el
      have c1 : (m : Int) ≤ (cap : Int) := by omega
      have c2 : (m : Int) + 70 ≤ (cap : Int) := by omega
      go_wp2
      simp [bodyPost, results, Try.results6, go_sem]
      exact ⟨g, cap, ⟨rfl, rfl⟩, HF.out⟩
    · have HF : Hid (OwnB w.heap.size wr u3 (X ++ List.replicate i 165) ∧ Below w.heap.size w wr) := ⟨hown, B⟩
      clear hown B hk
      have hlt' : (i : Int) < 70 := by omega
      have LR : Hid ((X ++ List.replicate i (165 : Int)).length = m + i ∧ m + i < 140737488355000) := ⟨by rw [List.length_append, HA.out.1, List.length_replicate], by have := HA.out; omega⟩
      go_wp2_with ((at_builtin; (refine wpList_append_own_at _ rfl _ _ 29 rfl w.heap.size 5 i0 (.int .u8 0) 1 1 Try.underlying29 hi hz0 hz1 hz2 rfl (by decide) u3 _ _ rfl (HF.out.1.alloc _).row ⟨wr.heap.size, 0, none⟩ 1 1 [.int .u8 165] rfl rfl (cell_one_new _ _ _) (fun u hu => by simp at hu; subst hu; rfl) (by unfold maxLen; have := LR.out; omega) (by have := LR.out; omega) (by have := HF.out.2.size; simp; omega) ?_); intro v' w3 hown' hgrow3 hnil3 hblk))
      have HO : Hid (OwnB w.heap.size w3 v' (X ++ List.replicate (i + 1) 165) ∧ Below w.heap.size w w3) := by
        refine ⟨?_, ?_⟩
        · rw [← rep_snocX, ← List.append_assoc, OwnB, List.length_append, List.map_append]
          exact hown'
        · exact (HF.out.2.alloc HF.out.2.size _).grown hgrow3 (by have := HF.out.2.size; simp; omega) (fun k hk => (HF.out.1.row.lt k hk).1)
      clear hown' hgrow3 hnil3 hblk
      go_roundg (70 - (i + 1))
      case measure => have := HK.out; omega
      case rel => exact ⟨i + 1, rfl, by omega, by go_num, HO.out⟩
set_option maxRecDepth 100000 in
set_option maxHeartbeats 4000000 in
theorem estill_anyX {a : Option Addr} {g cap bd od cd : Nat} {X : List Int} (hl : X.length < 140737488355328) (ha : Az a bd od X) (w : World) (hc : X.length + 70 ≤ cap) (hG : Bz w g 0 (lentEX X)) (hX : Bz w bd od X) :
    Calls Try.prog 11 #[.slice (some ⟨g, 0, none⟩) X.length cap, .slice a X.length cd] w fun e w' => e = .returned (.bool true) ∧ Below w.heap.size w w' := by
  have hl' : (X.length : Int) < 140737488355328 := by omega
  have hc1 : (X.length : Int) + 70 ≤ (cap : Int) := by omega
  have HA : Hid (Az a bd od X ∧ Bz w bd od X ∧ X.length < 140737488355328 ∧ Bz w g 0 (lentEX X)) := ⟨ha, hX, hl, hG⟩
  clear ha hX hl hG
  go_enter Try.func11, Try.ntmps11
  go_wp2_with fail
  go_loopg [6] (X.length + 70) (fun k iv wr => ∃ i : Nat, k = X.length + 70 - i ∧ i ≤ X.length + 70 ∧ iv = .int .i64 i ∧ Below w.heap.size w wr)
  case atStart => exact ⟨0, rfl, by omega, rfl, Below.refl _ _⟩
  case round =>
    obtain ⟨i, hk, hi, rfl, B⟩ := hrel
    have HK : Hid (gk = X.length + 70 - i) := hk
    have HF : Hid (Below w.heap.size w wr) := B
    clear hk B
    by_cases h8 : i = X.length + 70
    · subst h8
      go_wp2
      simp [bodyPost, results, Try.results11, go_sem]
      exact HF.out
    · have ii : i < X.length + 70 := by omega
      have gg := HA.out.2.2.2 i (by rw [lentX_len]; omega)
      rw [Nat.zero_add] at gg
      rw [← HF.out.cell (p := ⟨g, i, none⟩) (World.block_lt_of_cell? w _ gg)] at gg
      by_cases h9 : i < X.length
      · obtain rfl := HA.out.1.cons (by omega)
        have gx := HA.out.2.1 i h9
        rw [← HF.out.cell (p := ⟨bd, od + i, none⟩) (World.block_lt_of_cell? w _ gx)] at gx
        rw [lentX_at X h9] at gg
        generalize X.getD i 0 = x at *
        have hi2 : (i : Int) < (X.length : Int) := by omega
        have hi3 : (i : Int) < (X.length : Int) + 70 := by omega
        go_wp2_with fail
        have gG := fun d os => cell_regrown gg d os
        have gX := fun d os => cell_regrown gx d os
        have hi4 : ¬ ((X.length : Int) ≤ (i : Int)) := by omega
        refine wp_region_quiet_below (by kernel_rfl) (by kernel_rfl) ?_
        repeat (first | go_big_quiet_skip | (go_big_quiet_want; go_big_quiet_op; go_big_quiet_on))
        refine wpQuiet_nil ?_
        rintro w1 ⟨p, rfl⟩
        have hb := below_regrown wr p.d p.os
        generalize grow (redrawn wr p.d) p.os = w1 at *
        have H1 : Hid (Below w.heap.size w w1) := HF.out.trans (hb.mono HF.out.size)
        clear hb
        go_wp2
        go_roundg (X.length + 70 - (i + 1))
        case measure => have := HK.out; omega
        case rel => exact ⟨i + 1, rfl, by omega, by go_num, H1.out⟩
      · rw [lentX_past X (by omega) ii] at gg
        have hi2 : (X.length : Int) ≤ (i : Int) := by omega
        have hi3 : (i : Int) < (X.length : Int) + 70 := by omega
        go_wp2_with fail
        have gG := fun d os => cell_regrown gg d os
        refine wp_region_quiet_below (by kernel_rfl) (by kernel_rfl) ?_
        repeat (first | go_big_quiet_skip | (go_big_quiet_want; go_big_quiet_op; go_big_quiet_on))
        refine wpQuiet_nil ?_
        rintro w1 ⟨p, rfl⟩
        have hb := below_regrown wr p.d p.os
        generalize grow (redrawn wr p.d) p.os = w1 at *
        have H1 : Hid (Below w.heap.size w w1) := HF.out.trans (hb.mono HF.out.size)
        clear hb
        go_wp2
        go_roundg (X.length + 70 - (i + 1))
        case measure => have := HK.out; omega
        case rel => exact ⟨i + 1, rfl, by omega, by go_num, H1.out⟩
end Go.Proofs.Ytaefmdofchjofaa

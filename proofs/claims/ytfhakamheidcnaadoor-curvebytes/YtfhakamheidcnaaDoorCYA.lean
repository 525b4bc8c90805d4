import Derived.Test.YtfhakamheidcnaaDoorUbA
import Derived.Deep.AppendLies
import Derived.Deep.RegionHeld
namespace Go.Proofs.YtfhakamheidcnaaDoor
open Go.RowKit Go.Sort
def capOf : Value → Nat
  | .slice _ _ k => k
  | _ => 0

/-- A slice that can be read. -/
def Rd (W : World) (v : Value) (X : List Int) : Prop := ∃ a g c, v = .slice a X.length c ∧ (X ≠ [] → a = some ⟨g, 0, none⟩) ∧ ∀ i, i < X.length → W.cell? ⟨g, i, none⟩ = some (.int .u8 (X.getD i 0))
theorem OwnB.rd {B : Nat} {W : World} {v : Value} {X : List Int} (h : OwnB B W v X) : Rd W v X := by
  rcases h.2 with ⟨rfl, h0⟩ | ⟨g, cap, cur, rfl, _⟩
  · have e : X = [] := List.length_eq_zero_iff.1 h0
    subst e
    exact ⟨_, 0, 0, rfl, fun h => absurd rfl h, fun i hi => absurd hi (Nat.not_lt_zero _)⟩
  · exact ⟨_, g, cap, rfl, fun _ => rfl, fun i hi => OwnB.cell h rfl hi⟩
theorem Rd.keep {W W' : World} {v : Value} {X : List Int} (h : Rd W v X) (hb : Below W.heap.size W W') : Rd W' v X := by
  obtain ⟨a, g, c, h1, h2, h3⟩ := h
  exact ⟨a, g, c, h1, h2, fun i hi => cell_keep hb (h3 i hi)⟩
set_option maxHeartbeats 2000000 in
/-- Two lists of the same bytes. -/
theorem same5_yes {v1 v2 : Value} {X : List Int} (hl : X.length < 1073741824) (w : World) (h1 : Rd w v1 X) (h2 : Rd w v2 X) :
    Calls Tryd.prog 8 #[v1, v2] w fun e w' => e = .returned (.bool true) ∧ Below w.heap.size w w' := by
  obtain ⟨a1, g1, c1, rfl, ha1, hx1⟩ := h1
  obtain ⟨a2, g2, c2, rfl, ha2, hx2⟩ := h2
  have HX : Hid ((X ≠ [] → a1 = some ⟨g1, 0, none⟩) ∧ (X ≠ [] → a2 = some ⟨g2, 0, none⟩)) := ⟨ha1, ha2⟩
  clear ha1 ha2
  go_enter Tryd.func8, Tryd.ntmps8
  go_wp2_with fail
  go_loopg [5] X.length (fun k iv wr => ∃ i : Nat, k = X.length - i ∧ i ≤ X.length ∧ iv = .int .i64 i ∧ Below w.heap.size w wr ∧ (∀ i, i < X.length → wr.cell? ⟨g1, i, none⟩ = some (.int .u8 (X.getD i 0))) ∧ (∀ i, i < X.length → wr.cell? ⟨g2, i, none⟩ = some (.int .u8 (X.getD i 0))))
  case atStart => exact ⟨0, rfl, Nat.zero_le _, rfl, Below.refl _ _, hx1, hx2⟩
  case round =>
    clear hx1 hx2
    obtain ⟨i, hk, hi, rfl, B, ha, hb⟩ := hrel
    have HK : Hid (gk = X.length - i) := hk
    have HH : Hid ((∀ i, i < X.length → wr.cell? ⟨g1, i, none⟩ = some (.int .u8 (X.getD i 0))) ∧ (∀ i, i < X.length → wr.cell? ⟨g2, i, none⟩ = some (.int .u8 (X.getD i 0)))) := ⟨ha, hb⟩
    clear hk ha hb
    by_cases h8 : i = X.length
    · subst h8
      go_wp2
      go_ret
      exact ⟨rfl, B⟩
    · have hi' : (i : Int) < X.length := by omega
      have hi2 : (i : Int) < 1073741824 := by omega
      have ne : X ≠ [] := fun e => by rw [e] at hi'; simp at hi'; omega
      obtain rfl := HX.out.1 ne
      obtain rfl := HX.out.2 ne
      have gx := HH.out.1 i (by omega)
      have gy := HH.out.2 i (by omega)
      generalize X.getD i 0 = x at *
      go_wp2
      go_region
      go_wp2
      go_roundg (X.length - (i + 1))
      case measure => have := HK.out; omega
      case rel => exact ⟨i + 1, rfl, by omega, by rw [Int.natCast_add]; rfl, B.drew, HH.out.1, HH.out.2⟩
/-- What is kept but for two blocks. -/
structure Two (w w' : World) (r1 r2 : Option Nat) : Prop where
  os : w'.os = w.os
  tape : w'.tape = w.tape
  output : w'.output = w.output
  size : w.heap.size ≤ w'.heap.size
  block : ∀ k, k < w.heap.size → some k ≠ r1 → some k ≠ r2 → w'.heap[k]? = w.heap[k]?
theorem Two.refl (w : World) (r1 r2 : Option Nat) : Two w w r1 r2 := ⟨rfl, rfl, rfl, Nat.le_refl _, fun _ _ _ _ => rfl⟩
theorem Two.grown {w w1 w2 : World} {r1 r2 row : Option Nat} (h : Two w w1 r1 r2) (hg : w1.grownBy w2 row) (hr : ∀ k, row = some k → row = r1 ∨ row = r2 ∨ w.heap.size ≤ k) : Two w w2 r1 r2 :=
  ⟨hg.os.trans h.os, hg.tape.trans h.tape, hg.output.trans h.output, Nat.le_trans h.size hg.size, fun k hk h1 h2 => (hg.block k (Nat.lt_of_lt_of_le hk h.size) (fun e => by
    rcases hr k e.symm with a | a | a
    · exact h1 (e.trans a)
    · exact h2 (e.trans a)
    · omega)).trans (h.block k hk h1 h2)⟩
theorem Two.below {w w' : World} {r1 r2 : Option Nat} {B : Nat} (h : Two w w' r1 r2) (hB : B ≤ w.heap.size) (h1 : ∀ k, r1 = some k → B ≤ k) (h2 : ∀ k, r2 = some k → B ≤ k) : Below B w w' :=
  ⟨h.os, h.tape, h.output, h.size, fun k hk => h.block k (by omega) (fun e => by have := h1 k e.symm; omega) (fun e => by have := h2 k e.symm; omega)⟩
/-- One byte more: where the list comes to lie, and that its old place stays where it moves. -/
theorem run_append_two {B : Nat} {w : World} {v : Value} {X : List Int} {u : Int} {ty : TypeId} {ad : Addr} {c : Nat} (h : OwnB B w v X) (hl : X.length < 1073741824) (hB : B ≤ w.heap.size) (hu : ∀ j x, [Value.int .u8 u][j]? = some x → w.cell? (ad.add j) = some x) :
    ∃ g cap w', (Builtin.append_ #[27, 27] ty #[v, .slice (some ad) 1 c]).run Tryd.prog w = .ok (.slice (some ⟨g, 0, none⟩) (X.length + 1) cap) w' ∧
      OwnB B w' (.slice (some ⟨g, 0, none⟩) (X.length + 1) cap) (X ++ [u]) ∧ w.grownBy w' v.ownBlock ∧ ((v.ownBlock = some g ∧ capOf v = cap) ∨ (g = w.heap.size ∧ w.grownBy w' Option.none)) := by
  obtain ⟨i0, hi, hz0, hz1, hz2⟩ := info_parts info_byte
  have h1 : ∀ x ∈ [Value.int .u8 u], x.oneCell' = true := fun x hx => by simp at hx; subst hx; rfl
  have eo : ∀ {w' : World} {v' : Value}, w'.ownsRow B 5 1 v' (X.length + 1) (X.map (Value.int .u8) ++ [.int .u8 u]) → OwnB B w' v' (X ++ [u]) := fun {w'} {v'} h => by
    rw [OwnB, List.length_append, List.map_append]; exact h
  obtain ⟨v', w', hr, h2, h3, _, h5⟩ := run_append_own_at (P := Tryd.prog) w B 27 ty 5 i0 (.int .u8 0) 1 1 Tryd.underlying27 hi hz0 hz1 hz2 rfl (by decide) v X.length _ h ad 1 c [.int .u8 u] rfl hu h1 (by unfold maxLen; omega) (by omega) hB
  obtain ⟨g, cap, rfl, _, hlt⟩ := h2.form (by omega)
  refine ⟨g, cap, w', hr, eo h2, h3, ?_⟩
  rcases h.2 with ⟨rfl, h0⟩ | ⟨g0, cap0, cur, rfl, hb, hc, hle, h63, hs, ht⟩
  · right
    refine ⟨?_, h3⟩
    rcases h5 with h5 | h5
    · cases h5
    · exact Option.some.inj h5
  · by_cases hroom : X.length + 1 ≤ cap0
    · left
      obtain ⟨w2, hr2, _, _⟩ := run_append_fits (P := Tryd.prog) w B 27 ty 5 i0 1 Tryd.underlying27 hi hz1 g0 X.length cap0 _ h ad 1 c [.int .u8 u] rfl hu h1 hroom
      rw [hr] at hr2
      injection hr2 with e1 e2
      injection e1 with e3 e3b e3c
      injection e3 with e4
      injection e4 with e5
      refine ⟨by rw [e5]; rfl, ?_⟩
      show cap0 = cap
      exact e3c.symm
    · right
      have hr2 := run_append_grow (P := Tryd.prog) w 27 ty 5 i0 (.int .u8 0) Tryd.underlying27 hi hz0 ⟨g0, 0, none⟩ X.length cap0 (X.map (Value.int .u8)) (by rw [hz1]; simp) (World.ownsRow.cells h (g := g0) rfl) ad 1 c [.int .u8 u] (by rw [hz1]; rfl) hu (by omega) (by omega) (by rw [hz2]; exact growslice_fits (by omega) (by omega))
      rw [hr] at hr2
      injection hr2 with e1 e2
      injection e1 with e3
      injection e3 with e4
      injection e4 with e5
      refine ⟨e5, ?_⟩
      rw [e2]
      exact ⟨rfl, rfl, rfl, by simp, fun k hk _ => heap_alloc_old w.drew _ hk⟩
theorem wpList_append_two {ops : Array Oper} {rest : List Oper} {o : Oper} {a : Act} {Q : Exit → Act → World → Prop} {w : World} (hgd : o.guard = Option.none) (s x : Operand)
    (ho : o.op = .call { callee := .builtin .append, args := #[s, x], argTypes := #[27, 27] }) (B : Nat) (v : Value) (X : List Int) (u : Int) (ad : Addr) (c : Nat) (hs : a.eval s = v) (hx : a.eval x = .slice (some ad) 1 c)
    (h : OwnB B w v X) (hl : X.length < 1073741824) (hB : B ≤ w.heap.size) (hu : ∀ j y, [Value.int .u8 u][j]? = some y → w.cell? (ad.add j) = some y)
    (hK0 : ∀ g cap w', OwnB B w' (.slice (some ⟨g, 0, none⟩) (X.length + 1) cap) (X ++ [u]) → w.grownBy w' v.ownBlock → ((v.ownBlock = some g ∧ capOf v = cap) ∨ (g = w.heap.size ∧ w.grownBy w' Option.none)) → wpList Tryd.prog ops Q rest (a.put o.dst (.slice (some ⟨g, 0, none⟩) (X.length + 1) cap)) w') :
    wpList Tryd.prog ops Q (o :: rest) a w := by
  refine wpList_plain hgd fun K hK => ?_
  obtain ⟨g, cap, w', hr, h2, h3, h4⟩ := run_append_two (ty := o.type) (c := c) h hl hB hu
  unfold Oper.wp execOp
  simp only [ho, resolve, invoke, builtin, Sem.run_bind, Sem.run_pure, Result.andThen_ok, List.map_toArray, List.map_cons, List.map_nil, hs, hx, hr]
  exact hK _ _ (hK0 g cap w' h2 h3 h4)

/-- Two lists, each with what was appended to it. -/
structure Ap (B : Nat) (w wr : World) (v1 v2 c d : Value) (P1 Q1 P2 Q2 : List Int) : Prop where
  oc : OwnB B wr c (P1 ++ Q1)
  od : OwnB B wr d (P2 ++ Q2)
  ra : OwnB B wr v1 P1
  rb : OwnB B wr v2 P2
  pc : c.ownBlock = v1.ownBlock ∨ ∃ k, c.ownBlock = some k ∧ w.heap.size ≤ k
  pd : d.ownBlock = v2.ownBlock ∨ ∃ k, d.ownBlock = some k ∧ w.heap.size ≤ k
  ne : ∀ k, c.ownBlock = some k → d.ownBlock ≠ some k
  two : Two w wr v1.ownBlock v2.ownBlock
  l1 : ∀ k, v1.ownBlock = some k → k < w.heap.size
  l2 : ∀ k, v2.ownBlock = some k → k < w.heap.size
  dis : ∀ k, v1.ownBlock = some k → v2.ownBlock ≠ some k
  kc : c.ownBlock = v1.ownBlock → capOf c = capOf v1
  kd : d.ownBlock = v2.ownBlock → capOf d = capOf v2
theorem Two.swap {w w' : World} {r1 r2 : Option Nat} (h : Two w w' r1 r2) : Two w w' r2 r1 := ⟨h.os, h.tape, h.output, h.size, fun k hk h1 h2 => h.block k hk h2 h1⟩
theorem Ap.swap {B : Nat} {w wr : World} {v1 v2 c d : Value} {P1 Q1 P2 Q2 : List Int} (h : Ap B w wr v1 v2 c d P1 Q1 P2 Q2) : Ap B w wr v2 v1 d c P2 Q2 P1 Q1 :=
  ⟨h.od, h.oc, h.rb, h.ra, h.pd, h.pc, fun k hk e => h.ne k e hk, h.two.swap, h.l2, h.l1, fun k hk e => h.dis k e hk, h.kd, h.kc⟩
theorem Ap.keep {B : Nat} {w wr W' : World} {v1 v2 c d : Value} {P1 Q1 P2 Q2 : List Int} (h : Ap B w wr v1 v2 c d P1 Q1 P2 Q2) (hb : Below wr.heap.size wr W') : Ap B w W' v1 v2 c d P1 Q1 P2 Q2 :=
  ⟨h.oc.keep hb, h.od.keep hb, h.ra.keep hb, h.rb.keep hb, h.pc, h.pd, h.ne, h.two.grown (grown_of_below hb none) (fun k hk => by cases hk), h.l1, h.l2, h.dis, h.kc, h.kd⟩
theorem Rd.block {W : World} {v : Value} {X : List Int} (h : Rd W v X) (hX : X ≠ []) : ∃ g c, v = .slice (some ⟨g, 0, none⟩) X.length c ∧ v.ownBlock = some g ∧ ∀ i, i < X.length → W.cell? ⟨g, i, none⟩ = some (.int .u8 (X.getD i 0)) := by
  obtain ⟨a, g, c, rfl, h2, h3⟩ := h
  obtain rfl := h2 hX
  exact ⟨g, c, rfl, rfl, h3⟩
theorem Rd.kept {W W' : World} {v : Value} {X : List Int} {row : Option Nat} (h : Rd W v X) (hg : W.grownBy W' row) (hn : ∀ k, v.ownBlock = some k → row ≠ some k) : Rd W' v X := by
  by_cases hX : X = []
  · obtain ⟨a, g, c, h1, h2, h3⟩ := h
    subst hX
    exact ⟨a, g, c, h1, h2, fun i hi => absurd hi (Nat.not_lt_zero _)⟩
  · obtain ⟨g, c, h1, h2, h3⟩ := h.block hX
    exact ⟨_, g, c, h1, fun _ => rfl, fun i hi => hg.cell (h3 i hi) (fun e => hn g h2 e.symm)⟩
theorem Ap.put {B g cap : Nat} {w wr w' : World} {v1 v2 c d : Value} {P1 Q1 P2 Q2 : List Int} {u : Int} (h : Ap B w wr v1 v2 c d P1 Q1 P2 Q2)
    (ho : OwnB B w' (.slice (some ⟨g, 0, none⟩) ((P1 ++ Q1).length + 1) cap) ((P1 ++ Q1) ++ [u])) (hg : wr.grownBy w' c.ownBlock) (hpp : (c.ownBlock = some g ∧ capOf c = cap) ∨ (g = wr.heap.size ∧ wr.grownBy w' none)) :
    Ap B w w' v1 v2 (.slice (some ⟨g, 0, none⟩) ((P1 ++ Q1).length + 1) cap) d P1 (Q1 ++ [u]) P2 Q2 := by
  have e : P1 ++ (Q1 ++ [u]) = (P1 ++ Q1) ++ [u] := by simp
  have hp : c.ownBlock = some g ∨ (g = wr.heap.size ∧ wr.grownBy w' none) := hpp.imp_left And.left
  have ra' : OwnB B w' v1 P1 := by
    rcases hpp with ⟨hp1, hp2⟩ | ⟨_, hp⟩
    · rcases h.pc with q | ⟨k, q, hk⟩
      · have e1 : v1.ownBlock = some g := by rw [← q]; exact hp1
        have kc := h.kc q
        refine ⟨h.ra.1, ?_⟩
        rcases h.ra.2 with ⟨e2, _⟩ | ⟨g1, cap1, cur, e2, hb, hc, hle, hm, hs, ht⟩
        · rw [e2] at e1; cases e1
        · have e3 : g1 = g := by rw [e2] at e1; exact Option.some.inj e1
          have e4 : cap1 = cap := by
            rw [e2] at kc
            exact (show capOf c = cap1 from kc).symm.trans hp2
          rcases ho.2 with ⟨e5, _⟩ | ⟨g2, cap2, cur2, e5, hb2, hc2, hle2, hm2, hs2, ht2⟩
          · cases e5
          · injection e5 with e6 _ e7
            injection e6 with e8
            injection e8 with e9
            have h9 : g2 = g1 := by omega
            have h10 : cap2 = cap1 := by omega
            subst h9 h10
            refine .inr ⟨_, _, cur2, e2, hb2, hc2, hle, hm2, hs2, ?_⟩
            have := congrArg (List.take P1.length) ht2
            rw [List.take_take, List.append_assoc, List.map_append, List.take_left' (by rw [List.length_map])] at this
            rw [← this]
            congr 1
            rw [List.length_append]
            omega
      · refine World.ownsRow.kept h.ra hg ?_
        cases hd : v1.ownBlock with
        | none => exact .inl rfl
        | some k' =>
          refine .inr fun e => ?_
          have := h.l1 k' hd
          rw [q] at e
          have := Option.some.inj e
          omega
    · exact World.ownsRow.kept h.ra hp (by cases v1.ownBlock <;> simp)
  refine ⟨by rw [e]; exact ho, World.ownsRow.kept h.od hg ?_, ra', World.ownsRow.kept h.rb hg ?_, ?_, h.pd, ?_, h.two.grown hg ?_, h.l1, h.l2, h.dis, ?_, h.kd⟩
  · cases hd : d.ownBlock with
    | none => exact .inl rfl
    | some k => exact .inr fun e => h.ne k e.symm hd
  · cases hd : v2.ownBlock with
    | none => exact .inl rfl
    | some k =>
      refine .inr fun e => ?_
      rcases h.pc with q | ⟨k', q, hk'⟩
      · exact h.dis k (by rw [← q]; exact e.symm) hd
      · have := h.l2 k hd
        rw [q] at e
        have := Option.some.inj e
        omega
  · rcases hp with hp | ⟨hp, _⟩
    · rcases h.pc with q | ⟨k, q, hk⟩
      · exact .inl (by rw [← q, hp]; rfl)
      · rw [hp] at q
        exact .inr ⟨g, rfl, by rw [Option.some.inj q]; exact hk⟩
    · exact .inr ⟨g, rfl, by rw [hp]; exact h.two.size⟩
  · intro k hk e
    have ek : g = k := Option.some.inj hk
    subst ek
    rcases hp with hp | ⟨hp, _⟩
    · exact h.ne g hp e
    · have := (World.ownsRow.lt h.od g e).2
      omega
  · intro k hk
    rcases h.pc with q | ⟨k', q, hk'⟩
    · exact .inl q
    · rw [hk] at q
      exact .inr (.inr (by rw [Option.some.inj q]; exact hk'))
  · intro q'
    have q2 : v1.ownBlock = some g := q'.symm
    rcases hpp with ⟨hp1, hp2⟩ | ⟨hp1, _⟩
    · rcases h.pc with q | ⟨k, q, hk⟩
      · show cap = capOf v1
        rw [← hp2]
        exact h.kc q
      · have := h.l1 g q2
        rw [hp1] at q
        have := Option.some.inj q
        omega
    · have := h.l1 g q2
      have := h.two.size
      omega
theorem Ap.begin {B : Nat} {w wr : World} {v1 v2 : Value} {P1 P2 : List Int} (h1 : OwnB B wr v1 P1) (h2 : OwnB B wr v2 P2) (two : Two w wr v1.ownBlock v2.ownBlock) (l1 : ∀ k, v1.ownBlock = some k → k < w.heap.size) (l2 : ∀ k, v2.ownBlock = some k → k < w.heap.size) (dis : ∀ k, v1.ownBlock = some k → v2.ownBlock ≠ some k) :
    Ap B w wr v1 v2 v1 v2 P1 [] P2 [] :=
  ⟨by rw [List.append_nil]; exact h1, by rw [List.append_nil]; exact h2, h1, h2, .inl rfl, .inl rfl, dis, two, l1, l2, dis, fun _ => rfl, fun _ => rfl⟩

theorem rep_getD {n i : Nat} {x : Int} (h : i < n) : (List.replicate n x).getD i 0 = x := by
  rw [List.getD, List.getElem?_replicate, if_pos h]; rfl
theorem app_getD {P : List Int} {n : Nat} {x : Int} (h : 0 < n) : (P ++ List.replicate n x).getD P.length 0 = x := by
  rw [List.getD, List.getElem?_append_right (Nat.le_refl _), Nat.sub_self, List.getElem?_replicate, if_pos h]; rfl
theorem OwnB.sliceC {B : Nat} {W : World} {v : Value} {X : List Int} (h : OwnB B W v X) : ∃ a g c, v = .slice a X.length c ∧ (X ≠ [] → a = some ⟨g, 0, none⟩) := by
  obtain ⟨a, g, c, h1, h2, _⟩ := h.rd
  exact ⟨a, g, c, h1, h2⟩
theorem OwnB.fill {B g n cap i : Nat} {W : World} {X : List Int} {x : Int} (hX : X.length = n) (hi : i < n) (h : OwnB B W (.slice (some ⟨g, 0, none⟩) n cap) (partw (List.replicate n x) X i)) :
    OwnB B (W.setCell ⟨g, i, none⟩ (.int .u8 x)) (.slice (some ⟨g, 0, none⟩) n cap) (partw (List.replicate n x) X (i + 1)) ∧ W.grownBy (W.setCell ⟨g, i, none⟩ (.int .u8 x)) (some g) := by
  have hl : (List.replicate n x).length = X.length := by rw [List.length_replicate, hX]
  have := h.set (by rw [partw_len hl, hX]) i x
  have e := partw_set (i := i) hl (by omega)
  rw [rep_getD hi] at e
  rw [e] at this
  exact this
theorem OwnB.full {B n : Nat} {W : World} {v : Value} {X : List Int} {x : Int} (hX : X.length = n) (h : OwnB B W v (partw (List.replicate n x) X n)) : OwnB B W v (List.replicate n x) := by
  have e := partw_all (P := List.replicate n x) (X := X) (by rw [List.length_replicate, hX])
  rw [hX] at e
  rw [e] at h
  exact h
theorem rep_snoc (k : Nat) (x : Int) : List.replicate k x ++ [x] = List.replicate (k + 1) x := by rw [List.replicate_succ']
theorem wpList_append_c {ops : Array Oper} {rest : List Oper} {o : Oper} {a : Act} {Q : Exit → Act → World → Prop} {w wr : World} {B n : Nat} {v1 v2 c d : Value} {P1 Q1 P2 Q2 : List Int} (u : Int) (hgd : o.guard = none) (s x : Operand)
    (ho : o.op = .call { callee := .builtin .append, args := #[s, x], argTypes := #[27, 27] }) (cc : Nat) (hs : a.eval s = c) (hx : a.eval x = .slice (some ⟨wr.heap.size, 0, none⟩) 1 cc)
    (h : Ap B w wr v1 v2 c d P1 Q1 P2 Q2) (hn : P1.length + Q1.length = n) (hl : n < 1073741824) (hB : B ≤ w.heap.size)
    (hK : ∀ g cap w', Ap B w w' v1 v2 (.slice (some ⟨g, 0, none⟩) (n + 1) cap) d P1 (Q1 ++ [u]) P2 Q2 → wpList Tryd.prog ops Q rest (a.put o.dst (.slice (some ⟨g, 0, none⟩) (n + 1) cap)) w') :
    wpList Tryd.prog ops Q (o :: rest) a (wr.alloc (.cells #[.int .u8 u] 5)) := by
  have e : (P1 ++ Q1).length = n := by rw [List.length_append, hn]
  have hb : Below wr.heap.size wr (wr.alloc (.cells #[.int .u8 u] 5)) := (Below.refl _ _).alloc (Nat.le_refl _) _
  have h' := h.keep hb
  refine wpList_append_two hgd s x ho B c (P1 ++ Q1) u ⟨wr.heap.size, 0, none⟩ cc hs hx h'.oc (by omega) (by have := h.two.size; simp; omega) (cell_one_new _ _ _) ?_
  intro g cap w' h1 h2 h3
  have := h'.put h1 h2 h3
  rw [e] at this ⊢
  exact hK g cap w' this
theorem wpList_append_d {ops : Array Oper} {rest : List Oper} {o : Oper} {a : Act} {Q : Exit → Act → World → Prop} {w wr : World} {B n : Nat} {v1 v2 c d : Value} {P1 Q1 P2 Q2 : List Int} (u : Int) (hgd : o.guard = none) (s x : Operand)
    (ho : o.op = .call { callee := .builtin .append, args := #[s, x], argTypes := #[27, 27] }) (cc : Nat) (hs : a.eval s = d) (hx : a.eval x = .slice (some ⟨wr.heap.size, 0, none⟩) 1 cc)
    (h : Ap B w wr v1 v2 c d P1 Q1 P2 Q2) (hn : P2.length + Q2.length = n) (hl : n < 1073741824) (hB : B ≤ w.heap.size)
    (hK : ∀ g cap w', Ap B w w' v1 v2 c (.slice (some ⟨g, 0, none⟩) (n + 1) cap) P1 Q1 P2 (Q2 ++ [u]) → wpList Tryd.prog ops Q rest (a.put o.dst (.slice (some ⟨g, 0, none⟩) (n + 1) cap)) w') :
    wpList Tryd.prog ops Q (o :: rest) a (wr.alloc (.cells #[.int .u8 u] 5)) :=
  wpList_append_c u hgd s x ho cc hs hx h.swap hn hl hB fun g cap w' h' => hK g cap w' h'.swap
set_option maxRecDepth 100000 in
set_option maxHeartbeats 8000000 in
theorem apart5_any {B : Nat} {v1 v2 : Value} {X1 X2 : List Int} (b1 : X1.length < 536870912) (b2 : X2.length < 536870912) (w : World) (h1 : OwnB B w v1 X1) (h2 : OwnB B w v2 X2) (hB : B ≤ w.heap.size) (dis : ∀ k, v1.ownBlock = some k → v2.ownBlock ≠ some k) :
    Calls Tryd.prog 10 #[v1, v2] w fun e w' => e = .returned (.bool true) ∧ Two w w' v1.ownBlock v2.ownBlock ∧ OwnB B w' v1 (List.replicate X1.length 1) ∧ OwnB B w' v2 (List.replicate X2.length 2) := by
  obtain ⟨a1, g1, c1, rfl, ha1⟩ := h1.sliceC
  obtain ⟨a2, g2, c2, rfl, ha2⟩ := h2.sliceC
  obtain ⟨n1, en1⟩ : ∃ n, n = X1.length := ⟨_, rfl⟩
  obtain ⟨n2, en2⟩ : ∃ n, n = X2.length := ⟨_, rfl⟩
  rw [← en1] at b1 h1 dis ⊢
  rw [← en2] at b2 h2 dis ⊢
  have HX : Hid ((X1 ≠ [] → a1 = some ⟨g1, 0, none⟩) ∧ (X2 ≠ [] → a2 = some ⟨g2, 0, none⟩) ∧ X1.length = n1 ∧ X2.length = n2) := ⟨ha1, ha2, en1.symm, en2.symm⟩
  have HN1 : Hid (n1 ≠ 0 → a1 = some ⟨g1, 0, none⟩) := fun h => ha1 (fun e => h (by rw [en1, e]; rfl))
  have HN2 : Hid (n2 ≠ 0 → a2 = some ⟨g2, 0, none⟩) := fun h => ha2 (fun e => h (by rw [en2, e]; rfl))
  have HI : Hid (OwnB B w (.slice a1 n1 c1) X1 ∧ OwnB B w (.slice a2 n2 c2) X2 ∧ B ≤ w.heap.size) := ⟨h1, h2, hB⟩
  have HD : Hid ((∀ k, (Value.slice a1 n1 c1).ownBlock = some k → (Value.slice a2 n2 c2).ownBlock ≠ some k) ∧ (∀ k, (Value.slice a1 n1 c1).ownBlock = some k → k < w.heap.size) ∧ (∀ k, (Value.slice a2 n2 c2).ownBlock = some k → k < w.heap.size)) :=
    ⟨dis, fun k hk => (World.ownsRow.lt h1 k hk).2, fun k hk => (World.ownsRow.lt h2 k hk).2⟩
  have c1' : (n1 : Int) < 536870912 := by omega
  have c2' : (n2 : Int) < 536870912 := by omega
  have HB : Hid (n1 < 536870912 ∧ n2 < 536870912) := ⟨b1, b2⟩
  clear ha1 ha2 h1 h2 hB dis en1 en2 b1 b2
  go_enter Tryd.func10, Tryd.ntmps10
  go_wp2_with fail
  go_loopg [5] n1 (fun k iv wr => ∃ i : Nat, k = n1 - i ∧ i ≤ n1 ∧ iv = .int .i64 (i : Int) ∧ OwnB B wr (.slice a1 n1 c1) (partw (List.replicate n1 1) X1 i) ∧ OwnB B wr (.slice a2 n2 c2) X2 ∧ Two w wr (Value.slice a1 n1 c1).ownBlock (Value.slice a2 n2 c2).ownBlock)
  case atStart => exact ⟨0, rfl, Nat.zero_le _, rfl, by rw [partw_zero]; exact HI.out.1, HI.out.2.1, Two.refl _ _ _⟩
  case round =>
    obtain ⟨i, hk, hi, rfl, o1, o2, two⟩ := hrel
    have HK : Hid (gk = n1 - i) := hk
    have HO : Hid (OwnB B wr (.slice a1 n1 c1) (partw (List.replicate n1 1) X1 i) ∧ OwnB B wr (.slice a2 n2 c2) X2 ∧ Two w wr (Value.slice a1 n1 c1).ownBlock (Value.slice a2 n2 c2).ownBlock) := ⟨o1, o2, two⟩
    clear hk o1 o2 two
    by_cases h8 : i < n1
    · have hlt : (i : Int) < (n1 : Int) := by omega
      have hlt' : i < n1 := by omega
      obtain rfl := HN1.out (by omega)
      have lp : (partw (List.replicate n1 1) X1 i).length = n1 := by rw [partw_len (by rw [List.length_replicate, HX.out.2.2.1]), HX.out.2.2.1]
      have cQ := HO.out.1.cell lp hlt'
      have fQ := HO.out.1.free lp i
      have HS' : Hid _ := OwnB.fill HX.out.2.2.1 hlt' HO.out.1
      clear lp
      go_wp2
      go_roundg (n1 - (i + 1))
      case measure => have := HK.out; omega
      case rel => exact ⟨i + 1, rfl, by omega, by rw [Int.natCast_add]; rfl, HS'.out.1, World.ownsRow.kept HO.out.2.1 HS'.out.2 (by
        cases hd : Value.ownBlock (Value.slice a2 n2 c2) with
        | none => exact .inl rfl
        | some k => exact .inr fun e => HD.out.1 k e.symm hd), HO.out.2.2.grown HS'.out.2 (fun k hk => .inl rfl)⟩
    obtain rfl : n1 = i := by omega
    have hlt : ¬ ((n1 : Int) < (n1 : Int)) := by omega
    clear HK
    have HO1 : Hid (OwnB B wr (.slice a1 n1 c1) (List.replicate n1 1) ∧ OwnB B wr (.slice a2 n2 c2) X2 ∧ Two w wr (Value.slice a1 n1 c1).ownBlock (Value.slice a2 n2 c2).ownBlock) := ⟨OwnB.full HX.out.2.2.1 HO.out.1, HO.out.2⟩
    clear HO hi
    go_wp2_with fail
    clear hlt
    have HW1 : Hid (OwnB B wr (.slice a1 n1 c1) (List.replicate n1 1) ∧ OwnB B wr (.slice a2 n2 c2) X2 ∧ Two w wr (Value.slice a1 n1 c1).ownBlock (Value.slice a2 n2 c2).ownBlock) := HO1.out
    clear HO1
    go_loopg [6] n2 (fun k iv wr => ∃ i : Nat, k = n2 - i ∧ i ≤ n2 ∧ iv = .int .i64 (i : Int) ∧ OwnB B wr (.slice a1 n1 c1) (List.replicate n1 1) ∧ OwnB B wr (.slice a2 n2 c2) (partw (List.replicate n2 2) X2 i) ∧ Two w wr (Value.slice a1 n1 c1).ownBlock (Value.slice a2 n2 c2).ownBlock)
    case atStart => exact ⟨0, rfl, Nat.zero_le _, rfl, HW1.out.1, by rw [partw_zero]; exact HW1.out.2.1, HW1.out.2.2⟩
    case round =>
      obtain ⟨i, hk, hi, rfl, o1, o2, two⟩ := hrel
      clear HW1
      have HK : Hid (gk = n2 - i) := hk
      have HO : Hid (OwnB B wr (.slice a1 n1 c1) (List.replicate n1 1) ∧ OwnB B wr (.slice a2 n2 c2) (partw (List.replicate n2 2) X2 i) ∧ Two w wr (Value.slice a1 n1 c1).ownBlock (Value.slice a2 n2 c2).ownBlock) := ⟨o1, o2, two⟩
      clear hk o1 o2 two
      by_cases h9 : i < n2
      · have hlt : (i : Int) < (n2 : Int) := by omega
        obtain rfl := HN2.out (by omega)
        have lp : (partw (List.replicate n2 2) X2 i).length = n2 := by rw [partw_len (by rw [List.length_replicate, HX.out.2.2.2]), HX.out.2.2.2]
        have cQ := HO.out.2.1.cell lp h9
        have fQ := HO.out.2.1.free lp i
        have HS' : Hid _ := OwnB.fill HX.out.2.2.2 h9 HO.out.2.1
        clear lp
        go_wp2
        go_roundg (n2 - (i + 1))
        case measure => have := HK.out; omega
        case rel => exact ⟨i + 1, rfl, by omega, by rw [Int.natCast_add]; rfl, World.ownsRow.kept HO.out.1 HS'.out.2 (by
          cases hd : Value.ownBlock (Value.slice a1 n1 c1) with
          | none => exact .inl rfl
          | some k => exact .inr fun e => HD.out.1 k hd e.symm), HS'.out.1, HO.out.2.2.grown HS'.out.2 (fun k hk => .inr (.inl rfl))⟩
      obtain rfl : n2 = i := by omega
      have hlt : ¬ ((n2 : Int) < (n2 : Int)) := by omega
      clear HK
      have HA : Hid (Ap B w wr (.slice a1 n1 c1) (.slice a2 n2 c2) (.slice a1 n1 c1) (.slice a2 n2 c2) (List.replicate n1 1) [] (List.replicate n2 2) []) := Ap.begin HO.out.1 (OwnB.full HX.out.2.2.2 HO.out.2.1) HO.out.2.2 HD.out.2.1 HD.out.2.2 HD.out.1
      have HB2 : Hid (B ≤ w.heap.size) := HI.out.2.2
      clear HO hi HI HX
      go_wp2_with first | (at_builtin; (refine wpList_append_c (n := n1) 3 rfl _ _ rfl _ rfl rfl HA.out (by simp) (by have := HB.out; omega) HB2.out ?_); (intro gc cc3 w3 HA3); (have HC : Hid _ := HA3); (clear HA3)) | (at_builtin; (refine wpList_append_d (n := n2) 4 rfl _ _ rfl _ rfl rfl HC.out (by simp) (by have := HB.out; omega) HB2.out ?_); (intro gd cd3 w4 HA4); (have HE : Hid _ := HA4); (clear HA4))
      have HG : Hid (Ap B w w4 (.slice a1 n1 c1) (.slice a2 n2 c2) (.slice (some ⟨gc, 0, none⟩) (n1 + 1) cc3) (.slice (some ⟨gd, 0, none⟩) (n2 + 1) cd3) (List.replicate n1 1) (List.replicate 1 3) (List.replicate n2 2) (List.replicate 1 4)) := HE.out
      clear HE HC HA hlt
      go_loopg [7, 8, 9] 99 (fun k cv dv iv wr => ∃ j : Nat, k = 99 - j ∧ j ≤ 99 ∧ iv = .int .i64 (j : Int) ∧ Ap B w wr (.slice a1 n1 c1) (.slice a2 n2 c2) cv dv (List.replicate n1 1) (List.replicate (j + 1) 3) (List.replicate n2 2) (List.replicate (j + 1) 4))
      case atStart => exact ⟨0, rfl, Nat.zero_le _, rfl, HG.out⟩
      case round =>
        clear HG
        obtain ⟨j, hk, hj, rfl, ap⟩ := hrel
        have HK : Hid (gk = 99 - j) := hk
        clear hk
        by_cases h10 : j < 99
        · have hlt : (j : Int) < 99 := by omega
          have HA : Hid _ := ap
          clear ap
          go_wp2_with first | (at_builtin; (refine wpList_append_c (n := n1 + 1 + j) 3 rfl _ _ rfl _ rfl rfl HA.out (by rw [List.length_replicate, List.length_replicate]; omega) (by have := HB.out; omega) HB2.out ?_); (intro gc2 cc2 w5 HA5); (have HC : Hid _ := HA5); (clear HA5)) | (at_builtin; (refine wpList_append_d (n := n2 + 1 + j) 4 rfl _ _ rfl _ rfl rfl HC.out (by rw [List.length_replicate, List.length_replicate]; omega) (by have := HB.out; omega) HB2.out ?_); (intro gd2 cd2 w6 HA6); (have HE : Hid _ := HA6); (clear HA6))
          go_roundg (99 - (j + 1))
          case measure => have := HK.out; omega
          case rel => exact ⟨j + 1, rfl, by omega, by rw [Int.natCast_add]; rfl, by rw [← rep_snoc (j + 1) 3, ← rep_snoc (j + 1) 4]; exact HE.out⟩
        obtain rfl : j = 99 := by omega
        have hlt : ¬ (((99 : Nat) : Int) < 99) := by omega
        clear HK h10 hj
        have l7 : (List.replicate n1 (1 : Int) ++ List.replicate (99 + 1) 3).length = n1 + 100 := by simp
        have l8 : (List.replicate n2 (2 : Int) ++ List.replicate (99 + 1) 4).length = n2 + 100 := by simp
        obtain ⟨gc2, cc2, rfl, _, _⟩ := World.ownsRow.form ap.oc (by omega)
        obtain ⟨gd2, cd2, rfl, _, _⟩ := World.ownsRow.form ap.od (by omega)
        rw [l7, l8] at ap
        have x7 := OwnB.cell ap.oc l7 (i := n1) (by omega)
        have x8 := OwnB.cell ap.od l8 (i := n2) (by omega)
        have y7 := app_getD (P := List.replicate n1 1) (n := 99 + 1) (x := 3) (by decide)
        have y8 := app_getD (P := List.replicate n2 2) (n := 99 + 1) (x := 4) (by decide)
        rw [List.length_replicate] at y7 y8
        rw [y7] at x7
        rw [y8] at x8
        rw [l7, l8]
        have HR : Hid (Rd wr (.slice a1 n1 c1) (List.replicate n1 1) ∧ Rd wr (.slice a2 n2 c2) (List.replicate n2 2) ∧ Two w wr (Value.slice a1 n1 c1).ownBlock (Value.slice a2 n2 c2).ownBlock) := ⟨ap.ra.rd, ap.rb.rd, ap.two⟩
        have HQ : Hid (OwnB B wr (.slice a1 n1 c1) (List.replicate n1 1) ∧ OwnB B wr (.slice a2 n2 c2) (List.replicate n2 2)) := ⟨ap.ra, ap.rb⟩
        clear ap l7 l8 y7 y8
        go_wp2_with fail
        clear hlt
        obtain ⟨W, HW⟩ : ∃ W, Hid (W = wr) := ⟨_, rfl⟩
        have HR' : Hid (Rd wr (.slice a1 n1 c1) (List.replicate n1 1)) := HR.out.1
        have HR2 : Hid (Rd wr (.slice a2 n2 c2) (List.replicate n2 2)) := HR.out.2.1
        go_loopg [10] n1 (fun k iv wq => ∃ i : Nat, k = n1 - i ∧ i ≤ n1 ∧ iv = .int .i64 (i : Int) ∧ wr = wq)
        case atStart => exact ⟨0, rfl, Nat.zero_le _, rfl, rfl⟩
        case round =>
          obtain ⟨i, hk, hi, rfl, rfl⟩ := hrel
          have HK : Hid (gk = n1 - i) := hk
          clear hk
          by_cases h11 : i < n1
          · have hlt : (i : Int) < (n1 : Int) := by omega
            obtain ⟨gq, cq, eq, _, hq⟩ := HR'.out.block (fun e => by have := congrArg List.length e; simp at this; omega)
            injection eq with e1 e2 e3
            subst e1
            have xq := hq i (by rw [List.length_replicate]; exact h11)
            rw [rep_getD h11] at xq
            clear hq e2 e3
            go_wp2
            go_roundg (n1 - (i + 1))
            case measure => have := HK.out; omega
            case rel => exact ⟨i + 1, rfl, by omega, by rw [Int.natCast_add]; rfl, rfl⟩
          obtain rfl : n1 = i := by omega
          have hlt : ¬ ((n1 : Int) < (n1 : Int)) := by omega
          clear HK h11 hi
          go_wp2_with fail
          clear hlt
          go_loopg [11] n2 (fun k iv wq => ∃ i : Nat, k = n2 - i ∧ i ≤ n2 ∧ iv = .int .i64 (i : Int) ∧ wr = wq)
          case atStart => exact ⟨0, rfl, Nat.zero_le _, rfl, rfl⟩
          case round =>
            obtain ⟨i, hk, hi, rfl, rfl⟩ := hrel
            have HK : Hid (gk = n2 - i) := hk
            clear hk
            by_cases h12 : i < n2
            · have hlt : (i : Int) < (n2 : Int) := by omega
              obtain ⟨gq, cq, eq, _, hq⟩ := HR2.out.block (fun e => by have := congrArg List.length e; simp at this; omega)
              injection eq with e1 e2 e3
              subst e1
              have xq := hq i (by rw [List.length_replicate]; exact h12)
              rw [rep_getD h12] at xq
              clear hq e2 e3
              go_wp2
              go_roundg (n2 - (i + 1))
              case measure => have := HK.out; omega
              case rel => exact ⟨i + 1, rfl, by omega, by rw [Int.natCast_add]; rfl, rfl⟩
            obtain rfl : n2 = i := by omega
            have hlt : ¬ ((n2 : Int) < (n2 : Int)) := by omega
            have k1 : (n1 : Int) < ((n1 + 100 : Nat) : Int) := by omega
            have k2 : (n2 : Int) < ((n2 + 100 : Nat) : Int) := by omega
            clear HK h12 hi
            go_wp2
            go_ret
            exact ⟨by simp, HR.out.2.2, HQ.out⟩
end Go.Proofs.YtfhakamheidcnaaDoor

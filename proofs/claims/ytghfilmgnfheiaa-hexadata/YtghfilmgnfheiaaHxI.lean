import Derived.Test.YtghfilmgnfheiaaHxH
namespace Go.Proofs.Ytghfilmgnfheiaa
open Go.RowKit Go.Sort

/-- A slice that can be read. -/
def Rd (W : World) (v : Value) (X : List Int) : Prop := ∃ a g c, v = .slice a X.length c ∧ (X ≠ [] → a = some ⟨g, 0, none⟩) ∧ ∀ i, i < X.length → W.cell? ⟨g, i, none⟩ = some (.int .u8 (X.getD i 0))
theorem OwnB.rd {B : Nat} {W : World} {v : Value} {X : List Int} (h : OwnB B W v X) : Rd W v X := by
  rcases h.2 with ⟨rfl, h0⟩ | ⟨g, cap, cur, rfl, _⟩
  · have e : X = [] := List.length_eq_zero_iff.1 h0
    subst e
    exact ⟨_, 0, 0, rfl, fun h => absurd rfl h, fun i hi => absurd hi (Nat.not_lt_zero _)⟩
  · exact ⟨_, g, cap, rfl, fun _ => rfl, fun i hi => OwnB.cell h rfl hi⟩
theorem Rd.keep {W W' : World} {v : Value} {X : List Int} (h : Rd W v X) (hb : Below W.heap.size W W') : Rd W' v X := by
  obtain ⟨a, g, c, h1, h2, h3⟩ := h
  exact ⟨a, g, c, h1, h2, fun i hi => cellK hb (h3 i hi)⟩
set_option maxHeartbeats 2000000 in
/-- Two lists of the same bytes. -/
theorem same8_yes {v1 v2 : Value} {X : List Int} (hl : X.length < 1073741824) (w : World) (h1 : Rd w v1 X) (h2 : Rd w v2 X) :
    Calls Try.prog 7 #[v1, v2] w fun e w' => e = .returned (.bool true) ∧ Below w.heap.size w w' := by
  obtain ⟨a1, g1, c1, rfl, ha1, hx1⟩ := h1
  obtain ⟨a2, g2, c2, rfl, ha2, hx2⟩ := h2
  have HX : Hid ((X ≠ [] → a1 = some ⟨g1, 0, none⟩) ∧ (X ≠ [] → a2 = some ⟨g2, 0, none⟩)) := ⟨ha1, ha2⟩
  clear ha1 ha2
  go_enter Try.func7, Try.ntmps7
  go_wp2_with fail
  go_loopg [5] X.length (fun k iv wr => ∃ i : Nat, k = X.length - i ∧ i ≤ X.length ∧ iv = .int .i64 i ∧ Below w.heap.size w wr ∧ (∀ i, i < X.length → wr.cell? ⟨g1, i, none⟩ = some (.int .u8 (X.getD i 0))) ∧ (∀ i, i < X.length → wr.cell? ⟨g2, i, none⟩ = some (.int .u8 (X.getD i 0))))
  case atStart => exact ⟨0, rfl, Nat.zero_le _, rfl, Below.refl _ _, hx1, hx2⟩
  case round =>
    clear hx1 hx2
    obtain ⟨i, hk, hi, rfl, B, ha, hb⟩ := hrel
    have HK : Hid (gk = X.length - i) := hk
    have HH : Hid ((∀ i, i < X.length → wr.cell? ⟨g1, i, none⟩ = some (.int .u8 (X.getD i 0))) ∧ (∀ i, i < X.length → wr.cell? ⟨g2, i, none⟩ = some (.int .u8 (X.getD i 0)))) := ⟨ha, hb⟩
    clear hk ha hb
    by_cases h8 : i = X.length
    · subst h8
      go_wp2
      go_ret
      exact ⟨rfl, B⟩
    · have hi' : (i : Int) < X.length := by omega
      have hi2 : (i : Int) < 1073741824 := by omega
      have ne : X ≠ [] := fun e => by rw [e] at hi'; simp at hi'; omega
      obtain rfl := HX.out.1 ne
      obtain rfl := HX.out.2 ne
      have gx := HH.out.1 i (by omega)
      have gy := HH.out.2 i (by omega)
      generalize X.getD i 0 = x at *
      go_wp2
      go_region
      go_wp2
      go_roundg (X.length - (i + 1))
      case measure => have := HK.out; omega
      case rel => exact ⟨i + 1, rfl, by omega, by rw [Int.natCast_add]; rfl, B.drew, HH.out.1, HH.out.2⟩
/-- What is kept but for two blocks. -/
structure Two (w w' : World) (r1 r2 : Option Nat) : Prop where
  os : w'.os = w.os
  tape : w'.tape = w.tape
  output : w'.output = w.output
  size : w.heap.size ≤ w'.heap.size
  block : ∀ k, k < w.heap.size → some k ≠ r1 → some k ≠ r2 → w'.heap[k]? = w.heap[k]?
theorem Two.refl (w : World) (r1 r2 : Option Nat) : Two w w r1 r2 := ⟨rfl, rfl, rfl, Nat.le_refl _, fun _ _ _ _ => rfl⟩
theorem Two.grown {w w1 w2 : World} {r1 r2 row : Option Nat} (h : Two w w1 r1 r2) (hg : w1.grownBy w2 row) (hr : ∀ k, row = some k → row = r1 ∨ row = r2 ∨ w.heap.size ≤ k) : Two w w2 r1 r2 :=
  ⟨hg.os.trans h.os, hg.tape.trans h.tape, hg.output.trans h.output, Nat.le_trans h.size hg.size, fun k hk h1 h2 => (hg.block k (Nat.lt_of_lt_of_le hk h.size) (fun e => by
    rcases hr k e.symm with a | a | a
    · exact h1 (e.trans a)
    · exact h2 (e.trans a)
    · omega)).trans (h.block k hk h1 h2)⟩
theorem Two.below {w w' : World} {r1 r2 : Option Nat} {B : Nat} (h : Two w w' r1 r2) (hB : B ≤ w.heap.size) (h1 : ∀ k, r1 = some k → B ≤ k) (h2 : ∀ k, r2 = some k → B ≤ k) : Below B w w' :=
  ⟨h.os, h.tape, h.output, h.size, fun k hk => h.block k (by omega) (fun e => by have := h1 k e.symm; omega) (fun e => by have := h2 k e.symm; omega)⟩
/-- One byte more: where the list comes to lie, and that its old place stays where it moves. -/
theorem run_append_two {B : Nat} {w : World} {v : Value} {X : List Int} {u : Int} {ty : TypeId} {ad : Addr} {c : Nat} (h : OwnB B w v X) (hl : X.length < 1073741824) (hB : B ≤ w.heap.size) (hu : ∀ j x, [Value.int .u8 u][j]? = some x → w.cell? (ad.add j) = some x) :
    ∃ g cap w', (Builtin.append_ #[22, 22] ty #[v, .slice (some ad) 1 c]).run Try.prog w = .ok (.slice (some ⟨g, 0, none⟩) (X.length + 1) cap) w' ∧
      OwnB B w' (.slice (some ⟨g, 0, none⟩) (X.length + 1) cap) (X ++ [u]) ∧ w.grownBy w' v.ownBlock ∧ (v.ownBlock = some g ∨ (g = w.heap.size ∧ w.grownBy w' Option.none)) := by
  obtain ⟨i0, hi, hz0, hz1, hz2⟩ := info_partsH info_byteH
  have h1 : ∀ x ∈ [Value.int .u8 u], x.oneCell' = true := fun x hx => by simp at hx; subst hx; rfl
  have eo : ∀ {w' : World} {v' : Value}, w'.ownsRow B 5 1 v' (X.length + 1) (X.map (Value.int .u8) ++ [.int .u8 u]) → OwnB B w' v' (X ++ [u]) := fun {w'} {v'} h => by
    rw [OwnB, List.length_append, List.map_append]; exact h
  obtain ⟨v', w', hr, h2, h3, _, h5⟩ := run_append_own_at (P := Try.prog) w B 22 ty 5 i0 (.int .u8 0) 1 1 Try.underlying22 hi hz0 hz1 hz2 rfl (by decide) v X.length _ h ad 1 c [.int .u8 u] rfl hu h1 (by unfold maxLen; omega) (by omega) hB
  obtain ⟨g, cap, rfl, _, hlt⟩ := h2.form (by omega)
  refine ⟨g, cap, w', hr, eo h2, h3, ?_⟩
  rcases h.2 with ⟨rfl, h0⟩ | ⟨g0, cap0, cur, rfl, hb, hc, hle, h63, hs, ht⟩
  · right
    refine ⟨?_, h3⟩
    rcases h5 with h5 | h5
    · cases h5
    · exact Option.some.inj h5
  · by_cases hroom : X.length + 1 ≤ cap0
    · left
      obtain ⟨w2, hr2, _, _⟩ := run_append_fits (P := Try.prog) w B 22 ty 5 i0 1 Try.underlying22 hi hz1 g0 X.length cap0 _ h ad 1 c [.int .u8 u] rfl hu h1 hroom
      rw [hr] at hr2
      injection hr2 with e1 e2
      injection e1 with e3
      injection e3 with e4
      injection e4 with e5
      rw [e5]
      rfl
    · right
      have hr2 := run_append_grow (P := Try.prog) w 22 ty 5 i0 (.int .u8 0) Try.underlying22 hi hz0 ⟨g0, 0, none⟩ X.length cap0 (X.map (Value.int .u8)) (by rw [hz1]; simp) (World.ownsRow.cells h (g := g0) rfl) ad 1 c [.int .u8 u] (by rw [hz1]; rfl) hu (by omega) (by omega) (by rw [hz2]; exact growslice_fits (by omega) (by omega))
      rw [hr] at hr2
      injection hr2 with e1 e2
      injection e1 with e3
      injection e3 with e4
      injection e4 with e5
      refine ⟨e5, ?_⟩
      rw [e2]
      exact ⟨rfl, rfl, rfl, by simp, fun k hk _ => heap_alloc_old w.drew _ hk⟩
theorem wpList_append_two {ops : Array Oper} {rest : List Oper} {o : Oper} {a : Act} {Q : Exit → Act → World → Prop} {w : World} (hgd : o.guard = Option.none) (s x : Operand)
    (ho : o.op = .call { callee := .builtin .append, args := #[s, x], argTypes := #[22, 22] }) (B : Nat) (v : Value) (X : List Int) (u : Int) (ad : Addr) (c : Nat) (hs : a.eval s = v) (hx : a.eval x = .slice (some ad) 1 c)
    (h : OwnB B w v X) (hl : X.length < 1073741824) (hB : B ≤ w.heap.size) (hu : ∀ j y, [Value.int .u8 u][j]? = some y → w.cell? (ad.add j) = some y)
    (hK0 : ∀ g cap w', OwnB B w' (.slice (some ⟨g, 0, none⟩) (X.length + 1) cap) (X ++ [u]) → w.grownBy w' v.ownBlock → (v.ownBlock = some g ∨ (g = w.heap.size ∧ w.grownBy w' Option.none)) → wpList Try.prog ops Q rest (a.put o.dst (.slice (some ⟨g, 0, none⟩) (X.length + 1) cap)) w') :
    wpList Try.prog ops Q (o :: rest) a w := by
  refine wpList_plain hgd fun K hK => ?_
  obtain ⟨g, cap, w', hr, h2, h3, h4⟩ := run_append_two (ty := o.type) (c := c) h hl hB hu
  unfold Oper.wp execOp
  simp only [ho, resolve, invoke, builtin, Sem.run_bind, Sem.run_pure, Result.andThen_ok, List.map_toArray, List.map_cons, List.map_nil, hs, hx, hr]
  exact hK _ _ (hK0 g cap w' h2 h3 h4)
end Go.Proofs.Ytghfilmgnfheiaa

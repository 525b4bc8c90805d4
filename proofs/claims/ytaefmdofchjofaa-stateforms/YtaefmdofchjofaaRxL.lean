import Derived.Test.YtaefmdofchjofaaRxK
import Derived.Test.YtaefmdofchjofaaRsE
import Derived.Test.YtaefmdofchjofaaRxA
import Derived.Laws.OwnMore
/- Layer 7: the document's Same, of one tree in two places. -/
namespace Go.Proofs.Ytaefmdofchjofaa
open Go.RowKit Go.Sort

theorem quiet_load_midT {P : Program} {C : World → Prop} {a : Act} {o : Oper} {K : Act → Prop} (ty : TypeId) (x : Operand) (ho : o.op = .load ty x)
    (b f : Nat) (hx : a.eval x = .pointer (some ⟨b, f, none⟩)) (cs : List Value) (d : TypeDesc) (hS : ∀ w, C w → w.rangeAt b f cs)
    (hu : P.underlying ty = some d) (hd : d.isRow = true) (hi : (P.info? ty).map (·.size) = some cs.length) (h : K (a.put o.dst (.agg cs.toArray))) : o.quiet P a C K :=
  ⟨.agg cs.toArray, fun w hw => by
    unfold Oper.quietAt execOp
    simp only [ho, hx, Instr.loadAt, Instr.sureAddr, Sem.run_bind, Sem.run_pure, Result.andThen_ok, run_loadVar_mid w b f ty cs d (hS w hw) hu hd hi]
    exact ⟨rfl, rfl⟩, h⟩
end Go.Proofs.Ytaefmdofchjofaa

/- Layer 7: what Decode answers, as a function of the bytes; the heads that are written are those that are read. -/
namespace Go.Proofs.Ytaefmdofchjofaa
/-- What an item holds. -/
def innP (A : List Int) : List Int := (A.drop (hdP A).2.1).take (hdP A).2.2.1
def listR (x : Int × List Tr) : Int × Tr := if x.1 = 0 then (0, .mk true [] x.2) else (x.1, zT)
def consR (x : Int × Tr) (y : Int × List Tr) : Int × List Tr := if x.1 = 0 then (if y.1 = 0 then (0, x.2 :: y.2) else (y.1, [])) else (x.1, [])
mutual
/-- The item at the front of a room, within so many lists: the error, the tree. -/
def decT : Nat → Nat → List Int → Int × Tr
  | 0, _, _ => (1, zT)
  | f + 1, k, A => if (hdP A).2.2.2 ≠ 0 then ((hdP A).2.2.2, zT) else if (hdP A).1 = false then (0, .mk false (innP A) []) else if 1024 ≤ k then (74, zT) else listR (decS f (k + 1) (innP A))
/-- The items that a room is. -/
def decS : Nat → Nat → List Int → Int × List Tr
  | 0, _, _ => (1, [])
  | f + 1, k, A => if A.length = 0 then (0, []) else if (decT f k A).1 = 0 then consR (decT f k A) (decS f k (A.drop (totP A))) else ((decT f k A).1, [])
end
theorem hdP_size {A : List Int} (e : (hdP A).2.2.2 = 0) (l : (hdP A).1 = true) : 1 ≤ (hdP A).2.1 := by
  unfold hdP at e l ⊢
  by_cases k0 : A.length = 0
  · rw [if_pos k0] at e; simp at e
  rw [if_neg k0] at e l ⊢
  by_cases k1 : A.getD 0 0 < 128
  · rw [if_pos k1] at l; simp at l
  rw [if_neg k1] at e l ⊢
  by_cases k2 : A.getD 0 0 % 64 ≤ 55
  · rw [if_pos k2] at e l ⊢
    rw [(fin7_fits e).1]; exact Nat.le_refl _
  rw [if_neg k2] at e l ⊢
  by_cases k3 : A.length - 1 < (A.getD 0 0 % 64).toNat - 55
  · rw [if_pos k3] at e; simp at e
  rw [if_neg k3] at e l ⊢
  by_cases k4 : (A.drop 1).getD 0 0 = 0 ∨ lenQ (A.drop 1) ((A.getD 0 0 % 64).toNat - 55) ≤ 55
  · rw [if_pos k4] at e; simp at e
  rw [if_neg k4] at e l ⊢
  rw [(fin7_fits e).1]; show 1 ≤ 1 + _; omega
theorem innP_len {A : List Int} (e : (hdP A).2.2.2 = 0) : (innP A).length = (hdP A).2.2.1 := by
  have := (hdP_fits e).2.1
  unfold innP
  rw [List.length_take, List.length_drop]; omega
theorem dec_fuel : ∀ f : Nat, (∀ g k A, 2 * A.length + 1 ≤ f → 2 * A.length + 1 ≤ g → decT f k A = decT g k A) ∧ (∀ g k A, 2 * A.length + 2 ≤ f → 2 * A.length + 2 ≤ g → decS f k A = decS g k A)
  | 0 => ⟨fun _ _ _ h _ => by omega, fun _ _ _ h _ => by omega⟩
  | f + 1 => by
    obtain ⟨ihT, ihS⟩ := dec_fuel f
    refine ⟨fun g k A h1 h2 => ?_, fun g k A h1 h2 => ?_⟩
    · obtain ⟨g, rfl⟩ : ∃ m, g = m + 1 := ⟨g - 1, by omega⟩
      rw [decT, decT]
      by_cases e : (hdP A).2.2.2 ≠ 0
      · rw [if_pos e, if_pos e]
      rw [if_neg e, if_neg e]
      have e' := Decidable.not_not.1 e
      by_cases l : (hdP A).1 = false
      · rw [if_pos l, if_pos l]
      rw [if_neg l, if_neg l]
      by_cases d : 1024 ≤ k
      · rw [if_pos d, if_pos d]
      rw [if_neg d, if_neg d]
      have s := hdP_size e' (by simpa using l)
      have i := innP_len e'
      have t := (hdP_fits e').2.1
      rw [ihS g (k + 1) (innP A) (by omega) (by omega)]
    · obtain ⟨g, rfl⟩ : ∃ m, g = m + 1 := ⟨g - 1, by omega⟩
      rw [decS, decS]
      by_cases z : A.length = 0
      · rw [if_pos z, if_pos z]
      rw [if_neg z, if_neg z, ihT g k A (by omega) (by omega)]
      by_cases c : (decT g k A).1 = 0
      · rw [if_pos c, if_pos c]
        have e : (hdP A).2.2.2 = 0 := by
          obtain ⟨g', rfl⟩ : ∃ m, g = m + 1 := ⟨g - 1, by omega⟩
          rw [decT] at c
          by_cases e : (hdP A).2.2.2 ≠ 0
          · rw [if_pos e] at c; exact c
          · exact Decidable.not_not.1 e
        have t := totP_fits e
        have d : (A.drop (totP A)).length = A.length - totP A := List.length_drop ..
        rw [ihS g k (A.drop (totP A)) (by omega) (by omega)]
      · rw [if_neg c, if_neg c]
def dT (k : Nat) (A : List Int) : Int × Tr := decT (2 * A.length + 1) k A
def dS (k : Nat) (A : List Int) : Int × List Tr := decS (2 * A.length + 2) k A
theorem dT_err (k : Nat) {A : List Int} (e : (hdP A).2.2.2 ≠ 0) : dT k A = ((hdP A).2.2.2, zT) := by unfold dT; rw [decT, if_pos e]
theorem dT_text (k : Nat) {A : List Int} (e : (hdP A).2.2.2 = 0) (l : (hdP A).1 = false) : dT k A = (0, .mk false (innP A) []) := by unfold dT; rw [decT, if_neg (fun x => x e), if_pos l]
theorem dT_deep {k : Nat} {A : List Int} (e : (hdP A).2.2.2 = 0) (l : (hdP A).1 = true) (d : 1024 ≤ k) : dT k A = (74, zT) := by
  unfold dT; rw [decT, if_neg (fun x => x e), if_neg (by rw [l]; decide), if_pos d]
theorem dT_list {k : Nat} {A : List Int} (e : (hdP A).2.2.2 = 0) (l : (hdP A).1 = true) (d : ¬ 1024 ≤ k) : dT k A = listR (dS (k + 1) (innP A)) := by
  unfold dT dS
  rw [decT, if_neg (fun x => x e), if_neg (by rw [l]; decide), if_neg d]
  have s := hdP_size e l
  have i := innP_len e
  have t := (hdP_fits e).2.1
  rw [(dec_fuel _).2 (2 * (innP A).length + 2) (k + 1) (innP A) (by omega) (Nat.le_refl _)]
theorem dT_ok {k : Nat} {A : List Int} (h : (dT k A).1 = 0) : (hdP A).2.2.2 = 0 := by
  by_cases e : (hdP A).2.2.2 = 0
  · exact e
  · rw [dT_err k e] at h; exact h
theorem dS_nil (k : Nat) {A : List Int} (h : A.length = 0) : dS k A = (0, []) := by unfold dS; rw [decS, if_pos h]
theorem dS_cons (k : Nat) {A : List Int} (h : A.length ≠ 0) : dS k A = consR (dT k A) (dS k (A.drop (totP A))) := by
  unfold dS
  rw [decS, if_neg h]
  have q : decT (2 * A.length + 1) k A = dT k A := rfl
  rw [q]
  by_cases c : (dT k A).1 = 0
  · rw [if_pos c]
    have t := totP_fits (dT_ok c)
    have d : (A.drop (totP A)).length = A.length - totP A := List.length_drop ..
    rw [(dec_fuel _).2 (2 * (A.drop (totP A)).length + 2) k (A.drop (totP A)) (by omega) (Nat.le_refl _)]
  · rw [if_neg c, consR, if_neg c]
end Go.Proofs.Ytaefmdofchjofaa

/- Layer 7: trees in memory of one's own. -/
namespace Go.Proofs.Ytaefmdofchjofaa
open Go.RowKit Go.Sort

/-- Items' cells. -/
def itC : List Tr → List (Value × Value) → List Value
  | t :: ts, p :: ps => .bool t.l :: p.1 :: p.2 :: itC ts ps
  | _, _ => []
theorem itC_len : ∀ (ts : List Tr) (ps : List (Value × Value)), ps.length = ts.length → (itC ts ps).length = ts.length * 3
  | [], [], _ => rfl
  | [], _ :: _, h => by simp at h
  | _ :: _, [], h => by simp at h
  | t :: ts, p :: ps, h => by
    have := itC_len ts ps (by simpa using h)
    simp only [itC, List.length_cons, this]; omega
theorem itC_snoc : ∀ (ts : List Tr) (ps : List (Value × Value)) (t : Tr) (d q : Value), ps.length = ts.length → itC ts ps ++ [.bool t.l, d, q] = itC (ts ++ [t]) (ps ++ [(d, q)])
  | [], [], _, _, _, _ => rfl
  | [], _ :: _, _, _, _, h => by simp at h
  | _ :: _, [], _, _, _, h => by simp at h
  | u :: ts, p :: ps, t, d, q, h => by
    have := itC_snoc ts ps t d q (by simpa using h)
    simp only [itC, List.cons_append, this]
def zV : Value × Value := (.bool true, .bool true)
theorem itC_at : ∀ (ts : List Tr) (ps : List (Value × Value)), ps.length = ts.length → ∀ i, i < ts.length → (itC ts ps)[i * 3]? = some (.bool (ts.getD i zT).l) ∧ (itC ts ps)[i * 3 + 1]? = some (ps.getD i zV).1 ∧ (itC ts ps)[i * 3 + 2]? = some (ps.getD i zV).2
  | [], _, _, i, hi => absurd hi (Nat.not_lt_zero _)
  | _ :: _, [], h, _, _ => by simp at h
  | _ :: _, _ :: _, _, 0, _ => ⟨rfl, rfl, rfl⟩
  | t :: ts, p :: ps, h, i + 1, hi => by
    have ih := itC_at ts ps (by simpa using h) i (by simpa using hi)
    have e : ∀ d, (itC (t :: ts) (p :: ps))[(i + 1) * 3 + d]? = (itC ts ps)[i * 3 + d]? := fun d => by
      rw [show (i + 1) * 3 + d = i * 3 + d + 1 + 1 + 1 by omega]; rfl
    have e0 := e 0
    simp only [Nat.add_zero] at e0
    rw [e0, e 1, e 2]
    exact ih
/-- A row of cells that stays: its block is as it was. -/
theorem row_kept {W W' : World} {B : Nat} {e : TypeId} {size : Nat} {v : Value} {n : Nat} {xs : List Value} (h : W.ownsRow B e size v n xs) (hk : ∀ k, v.ownBlock = some k → k < W.heap.size → W'.heap[k]? = W.heap[k]?) : W'.ownsRow B e size v n xs := by
  refine ⟨h.1, ?_⟩
  rcases h.2 with h | ⟨g, cap, cur, rfl, hb, hg, r⟩
  · exact .inl h
  · exact .inr ⟨g, cap, cur, rfl, hb, (hk g rfl (Array.getElem?_eq_some_iff.1 hg).1).trans hg, r⟩
theorem row_base {W : World} {B B' : Nat} {e : TypeId} {size : Nat} {v : Value} {n : Nat} {xs : List Value} (h : W.ownsRow B e size v n xs) (hk : ∀ k, v.ownBlock = some k → B' ≤ k) : W.ownsRow B' e size v n xs := by
  refine ⟨h.1, ?_⟩
  rcases h.2 with h | ⟨g, cap, cur, rfl, hb, r⟩
  · exact .inl h
  · exact .inr ⟨g, cap, cur, rfl, hk g rfl, r⟩
mutual
/-- An item in memory of one's own: its blocks are among S, the row of its items apart from what is within. -/
def Ot (W : World) : Tr → (Nat → Prop) → Value → Value → Prop
  | .mk _ X ts, S, d, q => (OwnB 0 W d X ∧ ∀ k, d.ownBlock = some k → S k) ∧ ∃ ps : List (Value × Value), ps.length = ts.length ∧ W.ownsRow 0 48 3 q ts.length (itC ts ps) ∧ (∀ k, q.ownBlock = some k → S k) ∧ Ots W ts (fun k => S k ∧ q.ownBlock ≠ some k) ps
def Ots (W : World) : List Tr → (Nat → Prop) → List (Value × Value) → Prop
  | [], _, _ => True
  | t :: ts, S, ps => Ot W t S (ps.headD zV).1 (ps.headD zV).2 ∧ Ots W ts S ps.tail
end
/-- Items in a row of one's own. -/
def Orow (W : World) (ts : List Tr) (S : Nat → Prop) (q : Value) : Prop := ∃ ps : List (Value × Value), ps.length = ts.length ∧ W.ownsRow 0 48 3 q ts.length (itC ts ps) ∧ (∀ k, q.ownBlock = some k → S k) ∧ Ots W ts (fun k => S k ∧ q.ownBlock ≠ some k) ps
theorem Ot.mk {W : World} {l : Bool} {X : List Int} {ts : List Tr} {S : Nat → Prop} {d q : Value} (h1 : OwnB 0 W d X) (h2 : ∀ k, d.ownBlock = some k → S k) (h3 : Orow W ts S q) : Ot W (.mk l X ts) S d q := by
  rw [Ot]; exact ⟨⟨h1, h2⟩, h3⟩
theorem Ot.get {W : World} {t : Tr} {S : Nat → Prop} {d q : Value} (h : Ot W t S d q) : OwnB 0 W d t.X ∧ (∀ k, d.ownBlock = some k → S k) ∧ Orow W t.ts S q := by
  cases t with
  | mk l X ts => rw [Ot] at h; exact ⟨h.1.1, h.1.2, h.2⟩
theorem Ots.at {W : World} {S : Nat → Prop} : ∀ {ts : List Tr} {ps : List (Value × Value)}, Ots W ts S ps → ∀ i, i < ts.length → Ot W (ts.getD i zT) S (ps.getD i zV).1 (ps.getD i zV).2
  | [], _, _, i, hi => absurd hi (Nat.not_lt_zero _)
  | t :: ts, ps, h, 0, _ => by
    rw [Ots] at h
    have e : ps.getD 0 zV = ps.headD zV := by cases ps <;> rfl
    rw [e]; exact h.1
  | t :: ts, ps, h, i + 1, hi => by
    rw [Ots] at h
    have e : ps.getD (i + 1) zV = ps.tail.getD i zV := by cases ps <;> rfl
    rw [e]; exact Ots.at h.2 i (by simpa using hi)
theorem Ots.of {W : World} {S : Nat → Prop} : ∀ {ts : List Tr} {ps : List (Value × Value)}, (∀ i, i < ts.length → Ot W (ts.getD i zT) S (ps.getD i zV).1 (ps.getD i zV).2) → Ots W ts S ps
  | [], _, _ => by rw [Ots]; trivial
  | t :: ts, ps, h => by
    rw [Ots]
    refine ⟨?_, Ots.of fun i hi => ?_⟩
    · have e : ps.getD 0 zV = ps.headD zV := by cases ps <;> rfl
      have := h 0 (by simp)
      rw [e] at this; exact this
    · have e : ps.getD (i + 1) zV = ps.tail.getD i zV := by cases ps <;> rfl
      have := h (i + 1) (by simpa using hi)
      rw [e] at this; exact this
/-- What is kept, and where it lies: the blocks of S are as they were. -/
theorem Ot.conv {W W' : World} : ∀ (t : Tr) {S S' : Nat → Prop} {d q : Value}, (∀ k, k < W.heap.size → S k → S' k ∧ W'.heap[k]? = W.heap[k]?) → Ot W t S d q → Ot W' t S' d q :=
  Tr.ind fun l X ts ih S S' d q hs h => by
    rw [Ot] at h ⊢
    obtain ⟨⟨h1, h2⟩, ps, h3, h4, h5, h6⟩ := h
    have l1 : ∀ k, d.ownBlock = some k → k < W.heap.size := fun k e => (World.ownsRow.lt h1 k e).2
    have l2 : ∀ k, q.ownBlock = some k → k < W.heap.size := fun k e => (World.ownsRow.lt h4 k e).2
    refine ⟨⟨row_kept h1 fun k e hk => (hs k hk (h2 k e)).2, fun k e => (hs k (l1 k e) (h2 k e)).1⟩, ps, h3, row_kept h4 fun k e hk => (hs k hk (h5 k e)).2, fun k e => (hs k (l2 k e) (h5 k e)).1, Ots.of fun i hi => ?_⟩
    refine ih _ (getT_mem hi) (fun k hk hS => ?_) (h6.at i hi)
    exact ⟨⟨(hs k hk hS.1).1, hS.2⟩, (hs k hk hS.1).2⟩
theorem Orow.conv {W W' : World} {ts : List Tr} {S S' : Nat → Prop} {q : Value} (hs : ∀ k, k < W.heap.size → S k → S' k ∧ W'.heap[k]? = W.heap[k]?) (h : Orow W ts S q) : Orow W' ts S' q := by
  have : Ot W (.mk false [] ts) S (.slice none 0 0) q := Ot.mk (OwnB.nil _ _) (fun k e => by cases e) h
  exact (Ot.conv _ hs this).get.2.2
theorem Orow.nil (W : World) (S : Nat → Prop) : Orow W [] S (.slice none 0 0) := ⟨[], rfl, ⟨rfl, .inl ⟨rfl, rfl⟩⟩, (fun k e => by cases e), (by rw [Ots]; trivial)⟩
/-- An item of one's own is an item. -/
theorem Ot.it {W : World} : ∀ (t : Tr) {S : Nat → Prop} {d q : Value}, Ot W t S d q → It W t d q :=
  Tr.ind fun l X ts ih S d q h => by
    rw [Ot] at h
    obtain ⟨⟨h1, h2⟩, ps, h3, h4, h5, h6⟩ := h
    rw [It]
    obtain ⟨a, g, c, e1, e2, e3, e4, _, _, e7⟩ := h1.lies
    refine ⟨⟨a, g, 0, c, e1, ⟨e2, e7⟩, e3, e4⟩, ?_⟩
    have hrow := h4
    rcases h4.2 with ⟨rfl, h0⟩ | ⟨g', cap, cur, rfl, hb, hg, hle, _⟩
    · have e : ts = [] := List.eq_nil_of_length_eq_zero h0
      subst e
      exact ⟨none, 0, 0, 0, rfl, ⟨Nat.le_refl _, fun _ => rfl⟩, .inl rfl, by rw [Its]; trivial⟩
    · refine ⟨_, g', 0, cap, rfl, ⟨hle, fun e => by cases e⟩, .inr rfl, Its.of fun i hi => ?_⟩
      obtain ⟨c0, c1, c2⟩ := itC_at ts ps h3 i hi
      refine ⟨(ps.getD i zV).1, (ps.getD i zV).2, fun j v hv => ?_, ih _ (getT_mem hi) (h6.at i hi)⟩
      have hc : ∀ k, k < ts.length * 3 → W.cell? ⟨g', k, none⟩ = (itC ts ps)[k]? := fun k hk => World.ownsRow.cellAt hrow k hk
      rw [Nat.zero_add]
      match j, hv with
      | 0, hv => rw [Nat.add_zero, hc _ (by omega), c0]; exact hv
      | 1, hv => rw [hc _ (by omega), c1]; exact hv
      | 2, hv => rw [hc _ (by omega), c2]; exact hv
      | j + 3, hv => simp at hv
theorem Orow.its {W : World} {ts : List Tr} {S : Nat → Prop} {q : Value} (h : Orow W ts S q) : ∃ a b c, q = .slice a ts.length c ∧ (ts.length ≤ c ∧ (a = none → c = 0)) ∧ (ts = [] ∨ a = some ⟨b, 0, none⟩) ∧ Its W b 0 ts := by
  have : Ot W (.mk false [] ts) S (.slice none 0 0) q := Ot.mk (OwnB.nil _ _) (fun k e => by cases e) h
  have hrow := h
  obtain ⟨ps, h3, h4, h5, h6⟩ := h
  have hI := Ot.it _ this
  rcases h4.2 with ⟨rfl, h0⟩ | ⟨g', cap, cur, rfl, hb, hg, hle, _⟩
  · have e : ts = [] := List.eq_nil_of_length_eq_zero h0
    subst e
    exact ⟨none, 0, 0, rfl, ⟨Nat.le_refl _, fun _ => rfl⟩, .inl rfl, by rw [Its]; trivial⟩
  · rw [It] at hI
    obtain ⟨_, a, b, o, c, k1, k2, k3, k4⟩ := hI
    injection k1 with k1 _ k1'
    subst k1 k1'
    rcases k3 with e | e
    · subst e
      exact ⟨_, 0, _, rfl, k2, .inl rfl, by rw [Its]; trivial⟩
    · have := Option.some.inj e
      injection this with e1 e2
      subst e1 e2
      exact ⟨_, _, _, rfl, k2, .inr rfl, k4⟩
/-- Items in a row of one's own, from a block on. -/
def Oe (B : Nat) (W : World) (v : Value) (ts : List Tr) (ps : List (Value × Value)) : Prop := ps.length = ts.length ∧ W.ownsRow B 48 3 v ts.length (itC ts ps) ∧ (∀ k, v.ownBlock = some k → B ≤ k) ∧ Ots W ts (fun k => B ≤ k ∧ v.ownBlock ≠ some k) ps
theorem Oe.nil (B : Nat) (W : World) : Oe B W (.slice none 0 0) [] [] := ⟨rfl, ⟨rfl, .inl ⟨rfl, rfl⟩⟩, (fun k e => by cases e), (by rw [Ots]; trivial)⟩
theorem Oe.row {B : Nat} {W : World} {v : Value} {ts : List Tr} {ps : List (Value × Value)} (h : Oe B W v ts ps) : Orow W ts (fun k => B ≤ k) v := ⟨ps, h.1, row_base h.2.1 fun _ _ => Nat.zero_le _, h.2.2.1, h.2.2.2⟩
theorem Orow.oe {B : Nat} {W : World} {v : Value} {ts : List Tr} {S : Nat → Prop} (h : Orow W ts S v) (hS : ∀ k, k < W.heap.size → S k → B ≤ k) : ∃ ps, Oe B W v ts ps := by
  obtain ⟨ps, h1, h2, h3, h4⟩ := h
  have hb : ∀ k, v.ownBlock = some k → B ≤ k := fun k e => hS k (World.ownsRow.lt h2 k e).2 (h3 k e)
  refine ⟨ps, h1, row_base h2 hb, hb, Ots.of fun i hi => Ot.conv _ (fun k hk hs => ⟨⟨hS k hk hs.1, hs.2⟩, rfl⟩) (h4.at i hi)⟩
theorem Oe.keep {B : Nat} {W W' : World} {v : Value} {ts : List Tr} {ps : List (Value × Value)} (h : Oe B W v ts ps) (hb : Below W.heap.size W W') : Oe B W' v ts ps :=
  ⟨h.1, row_kept h.2.1 fun k _ hk => hb.block k hk, h.2.2.1, Ots.of fun i hi => Ot.conv _ (fun k hk hs => ⟨hs, hb.block k hk⟩) (h.2.2.2.at i hi)⟩
theorem Ot.keep {W W' : World} {t : Tr} {S : Nat → Prop} {d q : Value} (h : Ot W t S d q) (hb : Below W.heap.size W W') : Ot W' t S d q := Ot.conv _ (fun k hk hs => ⟨hs, hb.block k hk⟩) h
/-- One more item behind an own row. -/
theorem Oe.step {W W' : World} {B : Nat} {v v' d q : Value} {ts : List Tr} {t : Tr} {ps : List (Value × Value)} (hE : Oe B W v ts ps) (ht : Ot W t (fun k => B ≤ k ∧ v.ownBlock ≠ some k) d q) (hBh : B ≤ W.heap.size)
    (ho : W'.ownsRow B 48 3 v' (ts.length + 1) (itC ts ps ++ [.bool t.l, d, q])) (hg : W.grownBy W' v.ownBlock) (hv : v'.ownBlock = v.ownBlock ∨ v'.ownBlock = some W.heap.size) :
    Oe B W' v' (ts ++ [t]) (ps ++ [(d, q)]) := by
  obtain ⟨hp, _, hv0, hi⟩ := hE
  have cv : ∀ k, k < W.heap.size → (B ≤ k ∧ v.ownBlock ≠ some k) → (B ≤ k ∧ v'.ownBlock ≠ some k) ∧ W'.heap[k]? = W.heap[k]? := fun k hk h => by
    refine ⟨⟨h.1, ?_⟩, hg.block k hk fun e => h.2 e.symm⟩
    rcases hv with e | e
    · rw [e]; exact h.2
    · rw [e]; intro e2; have := Option.some.inj e2; omega
  refine ⟨by simp [hp], ?_, ?_, Ots.of fun i hi' => ?_⟩
  · rw [← itC_snoc ts ps t d q hp, List.length_append]; exact ho
  · intro k e
    rcases hv with h | h
    · rw [h] at e; exact hv0 k e
    · rw [h] at e; have := Option.some.inj e; omega
  · rw [List.length_append] at hi'
    have l1 : ([t] : List Tr).length = 1 := rfl
    by_cases e : i = ts.length
    · subst e
      have g1 : (ts ++ [t]).getD ts.length zT = t := by simp [List.getD]
      have g2 : (ps ++ [(d, q)]).getD ts.length zV = (d, q) := by rw [← hp]; simp [List.getD]
      rw [g1, g2]
      exact Ot.conv _ cv ht
    · have hlt : i < ts.length := by omega
      have g1 : (ts ++ [t]).getD i zT = ts.getD i zT := by simp [List.getD, List.getElem?_append_left hlt]
      have g2 : (ps ++ [(d, q)]).getD i zV = ps.getD i zV := by simp [List.getD, List.getElem?_append_left (show i < ps.length by omega)]
      rw [g1, g2]
      exact Ot.conv _ cv (hi.at i hlt)
end Go.Proofs.Ytaefmdofchjofaa

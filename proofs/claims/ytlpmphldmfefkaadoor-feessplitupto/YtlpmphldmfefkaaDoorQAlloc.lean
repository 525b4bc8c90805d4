import Derived.Test.YtlpmphldmfefkaaDoorQTail
import Derived.Test.YtlpmphldmfefkaaDoorOut
/- A region that draws its order: its first m operations are quiet, operation m makes a block and may come at any time, behind it the order is forced. -/
namespace Go.Proofs.YtlpmphldmfefkaaDoor
open Go.RowKit Go.Sort

section
variable {P : Program} {ops : Array Oper}

/-- The worlds that callees may leave of V. -/
def Gr (V : World) : World → Prop := fun w' => ∃ p : Regrown, w' = grow (redrawn V p.d) p.os
theorem Gr.below {V w : World} (h : Gr V w) : Below V.heap.size V w := by obtain ⟨p, rfl⟩ := h; exact below_regrown V p.d p.os
theorem Gr.self (V : World) : Gr V V := ⟨⟨V.drawn, #[]⟩, by rw [grow_empty]; rfl⟩

def headAll (sz n : Nat) : Array Bool := ((List.range sz).map fun i => decide (i < n)).toArray
/-- One operation of the head. -/
def quietB (ops : Array Oper) (n sz i : Nat) : Bool :=
  match ops[i]? with
  | some o => (match o.dst with | some d => decide (d < sz) | none => false) && o.after.all (fun e => !Region.binds .any e || decide (e.on < i)) &&
      (List.range n).all fun j => j == i || (match ops[j]? with
        | some oj => (oj.dst != o.dst) && (match oj.dst with | some d => !(o.looksAt ops).contains d || Region.waitsFor .any ops i j | none => true)
        | none => false)
  | none => false
/-- The operations from m on, below n, make blocks, in slots of their own. -/
def freshB (ops : Array Oper) (m n sz : Nat) : Bool :=
  (List.range n).all fun k => decide (k < m) || (match ops[k]? with
    | some o => o.guard.isNone && o.after.isEmpty && (match o.dst with | some d => decide (d < sz) | none => false) &&
        (List.range n).all fun j => j == k || (match ops[j]? with | some oj => (oj.dst != o.dst) | none => false)
    | none => false)
def allocB (ops : Array Oper) (m n sz : Nat) : Bool :=
  Region.noSelect ops && decide (n < ops.size) && Region.sinkB .any ops n && Region.chainB .any ops n &&
  Region.seqB .any ops (ops.size - n) n (headAll ops.size n) && (List.range m).all (quietB ops n sz) && freshB ops m n sz && decide (m < n)

theorem fresh_spec {m n sz k : Nat} (h : freshB ops m n sz = true) (h1 : m ≤ k) (h2 : k < n) : ∃ o d, ops[k]? = some o ∧ o.dst = some d ∧ o.guard = none ∧ o.after = #[] ∧ d < sz ∧
    ∀ j, j < n → j ≠ k → ∃ oj, ops[j]? = some oj ∧ oj.dst ≠ some d := by
  have h3 := List.all_eq_true.1 h k (List.mem_range.2 h2)
  simp only [Bool.or_eq_true, decide_eq_true_eq] at h3
  rcases h3 with h3 | h3
  · omega
  · split at h3
    · rename_i o ho
      simp only [Bool.and_eq_true] at h3
      obtain ⟨⟨⟨hg, ha⟩, hd⟩, hp⟩ := h3
      cases hdst : o.dst with
      | none => rw [hdst] at hd; cases hd
      | some d =>
        rw [hdst] at hd hp
        refine ⟨o, d, ho, hdst, by simpa using hg, by simpa using ha, by simpa using hd, fun j hj hjk => ?_⟩
        have h4 := List.all_eq_true.1 hp j (List.mem_range.2 hj)
        simp only [Bool.or_eq_true, beq_iff_eq] at h4
        rcases h4 with h4 | h4
        · exact absurd h4 hjk
        · split at h4
          · rename_i oj hoj
            exact ⟨oj, hoj, by simpa using h4⟩
          · cases h4
    · cases h3

theorem quiet_spec {n sz i : Nat} (h : quietB ops n sz i = true) : ∃ o d, ops[i]? = some o ∧ o.dst = some d ∧ d < sz ∧ (∀ e ∈ o.after, Region.binds .any e = true → e.on < i) ∧
    ∀ j, j < n → j ≠ i → ∃ oj, ops[j]? = some oj ∧ oj.dst ≠ some d ∧ ∀ t, oj.dst = some t → t ∈ o.looksAt ops → Region.waitsFor .any ops i j = true := by
  unfold quietB at h
  split at h
  · rename_i o ho
    simp only [Bool.and_eq_true] at h
    obtain ⟨⟨hd, ha⟩, hp⟩ := h
    cases hdst : o.dst with
    | none => rw [hdst] at hd; cases hd
    | some d =>
      rw [hdst] at hd hp
      refine ⟨o, d, ho, hdst, by simpa using hd, fun e he hb => ?_, fun j hj hji => ?_⟩
      · have := Array.all_eq_true'.1 ha e he
        rw [hb] at this
        simpa using this
      · have h1 := List.all_eq_true.1 hp j (List.mem_range.2 hj)
        simp only [Bool.or_eq_true, beq_iff_eq] at h1
        rcases h1 with h1 | h1
        · exact absurd h1 hji
        · split at h1
          · rename_i oj hoj
            simp only [Bool.and_eq_true, bne_iff_ne] at h1
            refine ⟨oj, hoj, h1.1, fun t ht hl => ?_⟩
            have h2 := h1.2
            rw [ht] at h2
            simp only [Bool.or_eq_true, Bool.not_eq_true', List.contains_eq_mem, decide_eq_false_iff_not] at h2
            rcases h2 with h2 | h2
            · exact absurd hl h2
            · exact h2
          · cases h1
  · cases h

/-- What none writes stays. -/
theorem quiet_keep {C : World → Prop} {A : Act} {d : Nat} : ∀ (l : List Oper) (b : Act), (∀ o ∈ l, o.dst ≠ some d) → wpQuiet P ops C (fun a' => a' = A) l b → A.tmps[d]? = b.tmps[d]?
  | [], b, _, h => by rw [← (show b = A from h)]
  | o :: l, b, hd, h => by
    have put : ∀ v, (b.put o.dst v).tmps[d]? = b.tmps[d]? := fun v => by
      cases ho : o.dst with
      | none => rfl
      | some e =>
        have : e ≠ d := fun he => hd o (by simp) (by rw [ho, he])
        simp [Act.put, Array.getElem?_setIfInBounds_ne this]
    have hd' : ∀ o' ∈ l, o'.dst ≠ some d := fun o' h' => hd o' (by simp [h'])
    unfold wpQuiet at h
    split at h
    · obtain ⟨v, _, h2⟩ := h
      rw [quiet_keep l _ hd' h2, put]
    · rw [quiet_keep l _ hd' h, put]

/-- The lexical acts: operation i leaves what the last act holds in its slot. -/
def lexAct (ops : Array Oper) (a A : Act) : Nat → Act
  | 0 => a
  | i + 1 => (lexAct ops a A i).put ((ops[i]?).bind (·.dst)) (A.tmps.getD (((ops[i]?).bind (·.dst)).getD 0) undef)

theorem quietAt_mono {o : Oper} {a : Act} {w : World} {v : Value} {C C' : World → Prop} (hC : ∀ x, C x → C' x) (h : o.quietAt P a C w v) : o.quietAt P a C' w v := by
  unfold Oper.quietAt at *
  generalize (execOp a.eval o).run P w = r at *
  cases r with
  | ok n w' => cases n <;> simp only [Oper.quietUpon] at * <;> first | exact h | exact ⟨h.1, h.2.mono fun e w'' hh => ⟨hh.1, hC _ hh.2⟩⟩
  | halt x w' => simp only [Oper.quietUpon] at h


theorem put_self {b : Act} {d : Nat} {v : Value} (h : d < b.tmps.size) : (b.put (some d) v).tmps[d]? = some v := by
  simp [Act.put, h]
theorem put_other {b : Act} {d t : Nat} {v : Value} (h : d ≠ t) : (b.put (some d) v).tmps[t]? = b.tmps[t]? := by
  simp [Act.put, Array.getElem?_setIfInBounds_ne h]
theorem put_size {b : Act} {d : Nat} {v : Value} : (b.put (some d) v).tmps.size = b.tmps.size := by simp [Act.put]
theorem put_def {b : Act} {d : Nat} {v : Value} : (b.put (some d) v).defers = b.defers := rfl

/-- The operation leaves v: it is wanted, and yields it; or it is not, and nothing comes. -/
def Yl (P : Program) (ops : Array Oper) (b : Act) (C : World → Prop) (V : World) (o : Oper) (v : Value) : Prop :=
  (Region.wanted o (yielded ops b.tmps) = true ∧ o.quietAt P b C V v) ∨ (Region.wanted o (yielded ops b.tmps) = false ∧ v = undef)

/-- What is known of the head. -/
structure Hd (P : Program) (ops : Array Oper) (m n sz : Nat) (a A : Act) (D : World → Prop) : Prop where
  mn : m ≤ n
  ex0 : ∃ V, D V
  q : ∀ i, i < m → quietB ops n sz i = true
  z : freshB ops m n sz = true
  size : a.tmps.size = sz
  walk : ∀ V, D V → ∃ L : List Oper, L.length = m ∧ (∀ i, i < m → L[i]? = ops[i]?) ∧ wpQuiet P ops (Gr V) (fun a' => a' = A) L a

section
variable {m n sz : Nat} {a A : Act} {W : World} {D : World → Prop}

theorem Hd.lex (h : Hd P ops m n sz a A D) {V : World} {L : List Oper} (hlen : L.length = m) (hL : ∀ i, i < m → L[i]? = ops[i]?)
    (H : wpQuiet P ops (Gr V) (fun a' => a' = A) L a) : ∀ i, i ≤ m → wpQuiet P ops (Gr V) (fun a' => a' = A) (L.drop i) (lexAct ops a A i) ∧ (lexAct ops a A i).tmps.size = sz ∧ (lexAct ops a A i).defers = a.defers ∧
      ∀ j, j < i → ∃ o d, ops[j]? = some o ∧ o.dst = some d ∧ Yl P ops (lexAct ops a A j) (Gr V) V o (A.tmps.getD d undef) := by
  intro i
  induction i with
  | zero => intro _; exact ⟨by simpa [lexAct] using H, h.size, rfl, fun j hj => by omega⟩
  | succ i ih =>
    intro hi
    obtain ⟨w1, s1, f1, y1⟩ := ih (by omega)
    obtain ⟨o, d, ho, hd, hsz, _, hp⟩ := quiet_spec (h.q i (by omega))
    have e : L.drop i = o :: L.drop (i + 1) := by
      rw [List.drop_eq_getElem_cons (by omega)]
      congr 1
      have := hL i (by omega)
      rw [List.getElem?_eq_getElem (by omega), ho] at this
      exact Option.some.inj this
    rw [e] at w1
    unfold wpQuiet at w1
    have w2 : ∃ v, Yl P ops (lexAct ops a A i) (Gr V) V o v ∧ wpQuiet P ops (Gr V) (fun a' => a' = A) (L.drop (i + 1)) ((lexAct ops a A i).put o.dst v) := by
      split at w1
      · next hw =>
        obtain ⟨v, hv, hn⟩ := w1
        exact ⟨v, .inl ⟨hw, hv V (Gr.self V)⟩, hn⟩
      · next hw => exact ⟨undef, .inr ⟨by simpa using hw, rfl⟩, w1⟩
    obtain ⟨v, hv, hn⟩ := w2
    rw [hd] at hn
    have hA : A.tmps[d]? = some v := by
      rw [quiet_keep _ _ ?_ hn, put_self (by rw [s1]; exact hsz)]
      intro o' ho'
      obtain ⟨k, hk, hk2⟩ := List.mem_iff_getElem.1 ho'
      rw [List.getElem_drop] at hk2
      have hk' : i + 1 + k < m := by rw [List.length_drop] at hk; omega
      obtain ⟨oj, hoj, hne, _⟩ := hp (i + 1 + k) (by have := h.mn; omega) (by omega)
      have e1 := hL (i + 1 + k) hk'
      rw [List.getElem?_eq_getElem (by omega), hoj] at e1
      rw [← hk2, Option.some.inj e1]
      exact hne
    have hv' : A.tmps.getD d undef = v := by simp [hA]
    have e2 : lexAct ops a A (i + 1) = (lexAct ops a A i).put (some d) v := by
      show (lexAct ops a A i).put ((ops[i]?).bind (·.dst)) (A.tmps.getD (((ops[i]?).bind (·.dst)).getD 0) undef) = _
      rw [ho]; simp only [Option.bind_some, hd, Option.getD_some, hv']
    rw [e2]
    refine ⟨hn, by rw [put_size]; exact s1, f1, fun j hj => ?_⟩
    by_cases hji : j = i
    · subst hji
      exact ⟨o, d, ho, hd, by rw [hv']; exact hv⟩
    · exact y1 j (by omega)

theorem Hd.last (h : Hd P ops m n sz a A D) : lexAct ops a A m = A := by
  obtain ⟨V0, hV0⟩ := h.ex0
  obtain ⟨L, hlen, hL, H⟩ := h.walk V0 hV0
  have := (h.lex hlen hL H m (Nat.le_refl _)).1
  rw [List.drop_of_length_le (by omega)] at this
  exact this
theorem Hd.facts (h : Hd P ops m n sz a A D) : ∀ i, i ≤ m → (lexAct ops a A i).tmps.size = sz ∧ (lexAct ops a A i).defers = a.defers := by
  intro i hi
  obtain ⟨V0, hV0⟩ := h.ex0
  obtain ⟨L, hlen, hL, H⟩ := h.walk V0 hV0
  have := h.lex hlen hL H i hi
  exact ⟨this.2.1, this.2.2.1⟩
theorem Hd.yields (h : Hd P ops m n sz a A D) {V : World} (hV : D V) {i : Nat} (hi : i < m) :
    ∃ o d, ops[i]? = some o ∧ o.dst = some d ∧ Yl P ops (lexAct ops a A i) (Gr V) V o (A.tmps.getD d undef) := by
  obtain ⟨L, hlen, hL, H⟩ := h.walk V hV
  exact (h.lex hlen hL H m (Nat.le_refl _)).2.2.2 i hi
/-- What the lexical acts hold. -/
theorem Hd.tmps (h : Hd P ops m n sz a A D) : ∀ i, i ≤ m → (∀ t, (∀ j o, j < i → ops[j]? = some o → o.dst ≠ some t) → (lexAct ops a A i).tmps[t]? = a.tmps[t]?) ∧
    (∀ j o d, j < i → ops[j]? = some o → o.dst = some d → (lexAct ops a A i).tmps[d]? = some (A.tmps.getD d undef)) := by
  intro i
  induction i with
  | zero => intro _; exact ⟨fun t _ => rfl, fun j _ _ hj => by omega⟩
  | succ i ih =>
    intro hi
    obtain ⟨i1, i2⟩ := ih (by omega)
    obtain ⟨o, d, ho, hd, hsz, _, hp⟩ := quiet_spec (h.q i (by omega))
    have s1 := (h.facts i (by omega)).1
    have e2 : lexAct ops a A (i + 1) = (lexAct ops a A i).put (some d) (A.tmps.getD d undef) := by
      show (lexAct ops a A i).put ((ops[i]?).bind (·.dst)) (A.tmps.getD (((ops[i]?).bind (·.dst)).getD 0) undef) = _
      rw [ho]; simp only [Option.bind_some, hd, Option.getD_some]
    rw [e2]
    refine ⟨fun t ht => ?_, fun j o' d' hj ho' hd' => ?_⟩
    · have : d ≠ t := fun e => ht i o (by omega) ho (by rw [hd, e])
      rw [put_other this]
      exact i1 t fun j o' hj => ht j o' (by omega)
    · by_cases hji : j = i
      · subst hji
        obtain rfl : o' = o := Option.some.inj (ho'.symm.trans ho)
        obtain rfl : d' = d := Option.some.inj (hd'.symm.trans hd)
        exact put_self (by rw [s1]; exact hsz)
      · obtain ⟨oj, hoj, hne, _⟩ := hp j (by have := h.mn; omega) hji
        obtain rfl : o' = oj := Option.some.inj (ho'.symm.trans hoj)
        have : d ≠ d' := fun e => hne (by rw [hd', e])
        rw [put_other this]
        exact i2 j o' d' (by omega) ho' hd'

/-- The act in between: what has come up has its value. -/
structure Stq (ops : Array Oper) (m n : Nat) (a A : Act) (listed : Array Bool) (pv : Nat → Value) (b : Act) : Prop where
  size : b.tmps.size = a.tmps.size
  defers : b.defers = a.defers
  q : ∀ j o d, j < m → ops[j]? = some o → o.dst = some d → b.tmps[d]? = if listed.getD j false then some (A.tmps.getD d undef) else a.tmps[d]?
  k : ∀ j o d, m ≤ j → j < n → ops[j]? = some o → o.dst = some d → b.tmps[d]? = if listed.getD j false then some (pv j) else a.tmps[d]?
  r : ∀ t, (∀ j o, j < n → ops[j]? = some o → o.dst ≠ some t) → b.tmps[t]? = a.tmps[t]?

theorem getD_set_self {listed : Array Bool} {i : Nat} (h : i < listed.size) : (listed.setIfInBounds i true).getD i false = true := by
  simp [h]

/-- A quiet operation yields its value at any time. -/
theorem Hd.at (h : Hd P ops m n sz a A D) (hsel : ∀ (j : Nat) (o : Oper) cs b, ops[j]? = some o → o.op ≠ .select cs b)
    {listed : Array Bool} {p : Nat → Value} {b : Act} (st : Stq ops m n a A listed p b) {i : Nat} (hi : i < m) (hr : i ∈ Region.ready .any ops listed) {V : World} (hV : D V) :
    ∃ o d, ops[i]? = some o ∧ o.dst = some d ∧ d < sz ∧ (∀ j, j < n → j ≠ i → ∀ oj, ops[j]? = some oj → oj.dst ≠ some d) ∧ Region.wanted o (yielded ops b.tmps) = Region.wanted o (yielded ops (lexAct ops a A i).tmps) ∧ Yl P ops b (Gr V) V o (A.tmps.getD d undef) := by
  obtain ⟨o, d, ho, hd, hy⟩ := h.yields hV hi
  obtain ⟨o', d', ho', hd', hsz, hlt, hp⟩ := quiet_spec (h.q i hi)
  obtain rfl : o' = o := Option.some.inj (ho'.symm.trans ho)
  obtain rfl : d' = d := Option.some.inj (hd'.symm.trans hd)
  suffices key : ∀ t, t ∈ o'.looksAt ops → b.tmps[t]? = (lexAct ops a A i).tmps[t]? by
    have same : execOp b.eval o' = execOp (lexAct ops a A i).eval o' := by
      refine execOp_congr o' (fun cs b => hsel i o' cs b ho) fun x hx => ?_
      cases x with
      | tmp t =>
        have k := key t (List.mem_append_left _ (List.mem_filterMap.2 ⟨.tmp t, by simpa using hx, rfl⟩))
        show b.tmps.getD t undef = (lexAct ops a A i).tmps.getD t undef
        simp only [Array.getD_eq_getD_getElem?, k]
      | _ => rfl
    have wsame : Region.wanted o' (yielded ops b.tmps) = Region.wanted o' (yielded ops (lexAct ops a A i).tmps) := by
      unfold Region.wanted
      cases hgd : o'.guard with
      | none => rfl
      | some gj =>
        obtain ⟨jj, want⟩ := gj
        simp only
        unfold yielded
        cases hdj : (ops[jj]?).bind (·.dst) with
        | none => rfl
        | some t => simp only [Option.bind_some, key t (by simp [Oper.looksAt, hgd, hdj])]
    refine ⟨o', d', ho, hd, hsz, fun j hj hji oj hoj => ?_, wsame, ?_⟩
    · obtain ⟨o2, h2, h3, _⟩ := hp j hj hji
      obtain rfl : oj = o2 := Option.some.inj (hoj.symm.trans h2)
      exact h3
    · unfold Yl Oper.quietAt at *
      rw [same, wsame]; exact hy
  obtain ⟨t1, t2⟩ := h.tmps i (by omega)
  intro t look
  have waits : ∀ j, j < n → j ≠ i → (∃ oj, ops[j]? = some oj ∧ oj.dst = some t) → j < i ∧ listed.getD j false = true := by
    intro j hj hji ⟨oj, hoj, hdj⟩
    obtain ⟨o2, h2, _, h4⟩ := hp j hj hji
    obtain rfl : oj = o2 := Option.some.inj (hoj.symm.trans h2)
    obtain ⟨o3, h3, e, he, hb, hon⟩ := Region.waitsFor_spec (h4 t hdj look)
    obtain rfl : o3 = o' := Option.some.inj (h3.symm.trans ho)
    obtain ⟨_, o4, h5, hall⟩ := mem_ready.1 hr
    obtain rfl : o4 = o3 := Option.some.inj (h5.symm.trans h3)
    have h6 := hlt e he hb
    have h7 := hall e he hb
    rw [hon] at h6 h7
    exact ⟨h6, h7⟩
  by_cases hex : ∃ j oj, j < m ∧ ops[j]? = some oj ∧ oj.dst = some t
  · obtain ⟨j, oj, hj, hoj, hdj⟩ := hex
    by_cases hji : j = i
    · -- its own slot: not yet written on either side
      subst hji
      obtain rfl : oj = o' := Option.some.inj (hoj.symm.trans ho)
      have hun : listed.getD j false = false := getD_both (mem_ready.1 hr).1
      rw [st.q j oj t hj hoj hdj, hun]
      simp only [Bool.false_eq_true, if_false]
      rw [t1 t]
      intro k ok hk hok hdk
      obtain ⟨o2, h2, h3, _⟩ := hp k (by have := h.mn; omega) (by omega)
      obtain rfl : ok = o2 := Option.some.inj (hok.symm.trans h2)
      rw [hd] at hdj
      exact h3 (by rw [hdk, ← hdj])
    · obtain ⟨hlt', hl⟩ := waits j (by have := h.mn; omega) hji ⟨oj, hoj, hdj⟩
      rw [st.q j oj t hj hoj hdj, hl, t2 j oj t hlt' hoj hdj]; rfl
  · have hno : ∀ j o, j < m → ops[j]? = some o → o.dst ≠ some t := fun j o hj ho hd => hex ⟨j, o, hj, ho, hd⟩
    by_cases ht : ∃ j oj, m ≤ j ∧ j < n ∧ ops[j]? = some oj ∧ oj.dst = some t
    · obtain ⟨j, oj, hj1, hj2, hoj, hdj⟩ := ht
      obtain ⟨hlt', _⟩ := waits j hj2 (by omega) ⟨oj, hoj, hdj⟩
      omega
    · rw [st.r t fun j o hj ho hd => ?_, t1 t fun j o hj => hno j o (by omega)]
      by_cases hjm : j < m
      · exact hno j o hjm ho hd
      · exact ht ⟨j, o, by omega, hj, ho, hd⟩

theorem Stq.setQ {listed : Array Bool} {p : Nat → Value} {b : Act} (st : Stq ops m n a A listed p b) {i d : Nat} {o : Oper} (hmn : m ≤ n) (hi : i < m) (ho : ops[i]? = some o) (hd : o.dst = some d) (hsz : d < a.tmps.size)
    (hl : i < listed.size) (hp : ∀ j, j < n → j ≠ i → ∀ oj, ops[j]? = some oj → oj.dst ≠ some d) :
    Stq ops m n a A (listed.setIfInBounds i true) p (b.put (some d) (A.tmps.getD d undef)) := by
  refine ⟨by rw [put_size]; exact st.size, st.defers, fun j oj dj hj hoj hdj => ?_, fun j oj dj hj1 hj2 hoj hdj => ?_, fun t ht => ?_⟩
  · by_cases hji : j = i
    · subst hji
      obtain rfl : oj = o := Option.some.inj (hoj.symm.trans ho)
      obtain rfl : dj = d := Option.some.inj (hdj.symm.trans hd)
      rw [put_self (by rw [st.size]; exact hsz), getD_set_self hl]; rfl
    · have : d ≠ dj := fun e => hp j (by omega) hji oj hoj (by rw [hdj, e])
      rw [put_other this, getD_set_ne false (Ne.symm hji)]
      exact st.q j oj dj hj hoj hdj
  · have : d ≠ dj := fun e => hp j hj2 (by omega) oj hoj (by rw [hdj, e])
    rw [put_other this, getD_set_ne false (by omega)]
    exact st.k j oj dj hj1 hj2 hoj hdj
  · have : d ≠ t := fun e => ht i o (by omega) ho (by rw [hd, e])
    rw [put_other this]; exact st.r t ht
theorem Stq.setA {listed : Array Bool} {p : Nat → Value} {v : Value} {b : Act} (st : Stq ops m n a A listed p b) {i d : Nat} {o : Oper} (h1 : m ≤ i) (h2 : i < n) (ho : ops[i]? = some o) (hd : o.dst = some d) (hsz : d < a.tmps.size)
    (hl : i < listed.size) (hp : ∀ j, j < n → j ≠ i → ∃ oj, ops[j]? = some oj ∧ oj.dst ≠ some d) : Stq ops m n a A (listed.setIfInBounds i true) (fun j => if j = i then v else p j) (b.put (some d) v) := by
  refine ⟨by rw [put_size]; exact st.size, st.defers, fun j oj dj hj hoj hdj => ?_, fun j oj dj hj1 hj2 hoj hdj => ?_, fun t ht => ?_⟩
  · obtain ⟨o2, ho2, hne⟩ := hp j (by omega) (by omega)
    obtain rfl : oj = o2 := Option.some.inj (hoj.symm.trans ho2)
    have : d ≠ dj := fun e => hne (by rw [hdj, e])
    rw [put_other this, getD_set_ne false (by omega)]
    exact st.q j oj dj hj hoj hdj
  · by_cases hji : j = i
    · subst hji
      obtain rfl : oj = o := Option.some.inj (hoj.symm.trans ho)
      obtain rfl : dj = d := Option.some.inj (hdj.symm.trans hd)
      rw [put_self (by rw [st.size]; exact hsz), getD_set_self hl]; simp
    · obtain ⟨o2, ho2, hne⟩ := hp j hj2 hji
      obtain rfl : oj = o2 := Option.some.inj (hoj.symm.trans ho2)
      have : d ≠ dj := fun e => hne (by rw [hdj, e])
      rw [put_other this, getD_set_ne false (Ne.symm hji), if_neg hji]
      exact st.k j oj dj hj1 hj2 hoj hdj
  · have : d ≠ t := fun e => ht i o h2 ho (by rw [hd, e])
    rw [put_other this]; exact st.r t ht

theorem least : ∀ U : List Nat, U ≠ [] → ∃ j, j ∈ U ∧ ∀ k, k ∈ U → j ≤ k
  | [], h => absurd rfl h
  | [x], _ => ⟨x, by simp, fun k hk => by simp at hk; omega⟩
  | x :: y :: U, _ => by
    obtain ⟨j, hj, hm⟩ := least (y :: U) (by simp)
    by_cases h : x ≤ j
    · refine ⟨x, by simp, fun k hk => ?_⟩
      rcases List.mem_cons.1 hk with rfl | hk
      · exact Nat.le_refl _
      · exact Nat.le_trans h (hm k hk)
    · refine ⟨j, List.mem_cons_of_mem _ hj, fun k hk => ?_⟩
      rcases List.mem_cons.1 hk with rfl | hk
      · omega
      · exact hm k hk

theorem Gr.trans {V w w' : World} (h : Gr V w) (h' : Gr w w') : Gr V w' := regrown_of_below (h.below.trans (h'.below.mono h.below.size))

/-- A block that was made: where, and what was there since. -/
def Made (W : World) (z : Obj) (v : Value) (w' : World) : Prop := ∃ V, Below W.heap.size W V ∧ v = .pointer (some ⟨V.heap.size, 0, none⟩) ∧ Below (V.alloc z).heap.size (V.alloc z) w'
theorem Made.keep {w' w'' : World} {z : Obj} {v : Value} (h : Made W z v w') (hb : Below w'.heap.size w' w'') : Made W z v w'' := by
  obtain ⟨V, hV, e, hVw⟩ := h
  exact ⟨V, hV, e, hVw.trans (hb.mono hVw.size)⟩

theorem head_listed {listed : Array Bool} (inv : HeadInv .any ops n listed) (hall : ∀ j, j < n → listed.getD j false = true) : listed = headAll ops.size n := by
  apply Array.ext
  · simp [headAll, inv.size]
  · intro j h1 h2
    have hj : j < ops.size := by rw [← inv.size]; exact h1
    have e1 : (headAll ops.size n)[j] = decide (j < n) := by simp [headAll]
    rw [e1]
    by_cases hjm : j < n
    · have := hall j hjm
      simp [h1] at this
      rw [this]; simp [hjm]
    · have := inv.tail j (by omega) hj
      simp [h1] at this
      rw [this]; simp [hjm]

theorem Hd.run (h : Hd P ops m n sz a A (Below W.heap.size W)) {Q' : Exit → Act → World → Prop} {z : Obj} (hsel : ∀ (j : Nat) (o : Oper) cs b, ops[j]? = some o → o.op ≠ .select cs b)
    (hn : n < ops.size) (hs : Region.sinkB .any ops n = true) (hc : Region.chainB .any ops n = true) (hseq : Region.seqB .any ops (ops.size - n) n (headAll ops.size n) = true)
    (hA : ∀ k o, m ≤ k → k < n → ops[k]? = some o → ∀ ρ w, (execOp ρ o).run P w = .ok (.value (.pointer (some ⟨w.heap.size, 0, none⟩))) (w.alloc z))
    {tl : List Oper} (htl : ∀ j, tl[j]? = ops[n + j]?) (hlen : tl.length = ops.size - n)
    (T : ∀ b (p : Nat → Value) w', Stq ops m n a A (headAll ops.size n) p b → (∀ k, m ≤ k → k < n → Made W z (p k) w') → (∀ k k', m ≤ k → k < n → m ≤ k' → k' < n → k ≠ k' → p k ≠ p k') → Below W.heap.size W w' → wpList P ops Q' tl b w') :
    ∀ (f : Nat) (U : List Nat) (listed : Array Bool) (b : Act) (w' : World) (p : Nat → Value), U.length = f → U.Nodup → (∀ j, j ∈ U → j < n) → (∀ j, j < n → (listed.getD j true = false ↔ j ∈ U)) →
      HeadInv .any ops n listed → Stq ops m n a A listed p b → Below W.heap.size W w' →
      (∀ k, m ≤ k → k < n → k ∉ U → Made W z (p k) w') → (∀ k k', m ≤ k → k < n → m ≤ k' → k' < n → k ∉ U → k' ∉ U → k ≠ k' → p k ≠ p k') → wpAny P .any ops Q' (f + tl.length) listed b w' := by
  intro f
  induction f with
  | zero =>
    intro U listed b w' p hU _ _ hmem inv st hw hp hdis
    have hU0 : U = [] := List.length_eq_zero_iff.1 hU
    subst hU0
    have hall : ∀ j, j < n → listed.getD j false = true := fun j hj => by
      have h1 : ¬ listed.getD j true = false := fun h => by have := (hmem j hj).1 h; cases this
      cases hv : listed.getD j false with
      | true => rfl
      | false => exact absurd (getD_in (by rw [inv.size]; omega) hv) h1
    have el := head_listed inv hall
    subst el
    rw [Nat.zero_add]
    exact wpAny_of_seq tl n _ _ _ htl (by rw [hlen]; exact hseq) (T b p w' st (fun k h1 h2 => hp k h1 h2 (by simp)) (fun k k' a1 a2 a3 a4 => hdis k k' a1 a2 a3 a4 (by simp) (by simp)) hw)
  | succ f ih =>
    intro U listed b w' p hU hnd hlt hmem inv st hw hp hdis
    obtain ⟨j0, hj0, hmin⟩ := least U (fun e => by rw [e] at hU; cases hU)
    have hj0m := hlt j0 hj0
    have hr0 : j0 ∈ Region.ready .any ops listed := by
      rw [mem_ready]
      refine ⟨(hmem j0 hj0m).2 hj0, ?_⟩
      have lst : ∀ k, k < j0 → listed.getD k false = true := fun k hk => by
        cases hv : listed.getD k false with
        | true => rfl
        | false =>
          have := hmin k ((hmem k (by omega)).1 (getD_in (by rw [inv.size]; omega) hv))
          omega
      by_cases hjm : j0 < m
      · obtain ⟨o, d, ho, _, _, hl, _⟩ := quiet_spec (h.q j0 hjm)
        exact ⟨o, ho, fun e he hb => lst _ (hl e he hb)⟩
      · obtain ⟨o, d, ho, _, _, ha, _, _⟩ := fresh_spec h.z (by omega) hj0m
        exact ⟨o, ho, fun e he => by rw [ha] at he; simp at he⟩
    have only := head_only hs hc hn inv hj0m hr0
    rw [show f + 1 + tl.length = (f + tl.length) + 1 by omega]
    refine ⟨fun h0 => absurd h0 (List.ne_nil_of_mem hr0), fun i hi => ?_⟩
    have him := only i hi
    have hiU : i ∈ U := (hmem i him).1 (mem_ready.1 hi).1
    have hisz : i < listed.size := by rw [inv.size]; omega
    have hU' : (U.erase i).length = f := by rw [List.length_erase_of_mem hiU, hU]; rfl
    have hmem' : ∀ j, j < n → ((listed.setIfInBounds i true).getD j true = false ↔ j ∈ U.erase i) := fun j hj => by
      rw [hnd.mem_erase_iff]
      by_cases hji : j = i
      · subst hji
        simp [hisz]
      · rw [getD_set_ne true (Ne.symm hji)]
        simp only [hji, ne_eq, not_false_eq_true, true_and]
        exact hmem j hj
    have hlt' : ∀ j, j ∈ U.erase i → j < n := fun j hj => hlt j (List.mem_of_mem_erase hj)
    have hback : ∀ k, k ≠ i → k ∉ U.erase i → k ∉ U := fun k hk hx hU => hx ((hnd.mem_erase_iff).2 ⟨hk, hU⟩)
    have inv' := inv.set hi him
    unfold wpOp
    by_cases hie : i < m
    · obtain ⟨o, d, ho, hd, hsz, hpp, _, hyl⟩ := h.at hsel st hie hi hw
      rw [ho]
      simp only
      have go : ∀ w'', Gr w' w'' → wpAny P .any ops Q' (f + tl.length) (listed.setIfInBounds i true) (b.put (some d) (A.tmps.getD d undef)) w'' := fun w'' hg' => by
        have hb := hg'.below
        exact ih (U.erase i) _ _ _ p hU' (hnd.erase i) hlt' hmem' inv' (st.setQ h.mn hie ho hd (by rw [h.size]; exact hsz) hisz hpp) (hw.trans (hb.mono hw.size))
          (fun k h1 h2 hk => (hp k h1 h2 (hback k (by omega) hk)).keep hb) (fun k k' a1 a2 a3 a4 a5 a6 => hdis k k' a1 a2 a3 a4 (hback k (by omega) a5) (hback k' (by omega) a6))
      rcases hyl with ⟨hwt, _⟩ | ⟨hwt, hund⟩
      · rw [if_pos hwt]
        refine .inl (Oper.wp_of_quiet (C := Gr w') (K := fun b' => b' = b.put (some d) (A.tmps.getD d undef)) (Gr.self w') (fun b' w'' hg' e => by rw [e]; exact go w'' hg') ⟨A.tmps.getD d undef, fun V hV => ?_, by rw [hd]⟩)
        obtain ⟨o2, d2, ho2, hd2, _, _, _, hy⟩ := h.at hsel st hie hi (hw.trans (hV.below.mono hw.size))
        obtain rfl : o2 = o := Option.some.inj (ho2.symm.trans ho)
        obtain rfl : d2 = d := Option.some.inj (hd2.symm.trans hd)
        rcases hy with ⟨_, hy⟩ | ⟨hw2, _⟩
        · exact quietAt_mono (fun x hx => hV.trans hx) hy
        · rw [hwt] at hw2; cases hw2
      · rw [if_neg (by rw [hwt]; exact Bool.false_ne_true), hd, ← hund]
        exact go w' (Gr.self w')
    · obtain ⟨o, d, ho, hd, hg, _, hsz, hpp⟩ := fresh_spec h.z (show m ≤ i by omega) him
      rw [ho]
      simp only
      rw [if_pos (by unfold Region.wanted; rw [hg])]
      refine .inl ?_
      unfold Oper.wp
      rw [hA i o (by omega) him ho, Oper.upon_value, hd]
      have grew : Below w'.heap.size w' (w'.alloc z) := (Below.refl _ _).alloc (Nat.le_refl _) z
      have far : ∀ k, m ≤ k → k < n → k ∉ U → p k ≠ .pointer (some ⟨w'.heap.size, 0, none⟩) := fun k h1 h2 hk => by
        obtain ⟨V, _, e, hVw⟩ := hp k h1 h2 hk
        rw [e]
        intro e'
        have e2 : V.heap.size = w'.heap.size := by simpa using e'
        have := hVw.size
        simp at this
        omega
      refine ih (U.erase i) _ _ _ (fun j => if j = i then .pointer (some ⟨w'.heap.size, 0, none⟩) else p j) hU' (hnd.erase i) hlt' hmem' inv' (st.setA (by omega) him ho hd (by rw [h.size]; exact hsz) hisz hpp) (hw.alloc hw.size _) ?_ ?_
      · intro k h1 h2 hk
        by_cases hki : k = i
        · simp only [hki, if_true]; exact ⟨w', hw, rfl, Below.refl _ _⟩
        · simp only [hki, if_false]; exact (hp k h1 h2 (hback k hki hk)).keep grew
      · intro k k' a1 a2 a3 a4 a5 a6 a7
        by_cases hki : k = i
        · have hk' : k' ≠ i := fun e => a7 (by rw [hki, e])
          simp only [hki, hk', if_true, if_false]
          exact (far k' a3 a4 (hback k' hk' a6)).symm
        · by_cases hk' : k' = i
          · simp only [hki, hk', if_true, if_false]
            exact far k a1 a2 (hback k hki a5)
          · simp only [hki, hk', if_false]
            exact hdis k k' a1 a2 a3 a4 (hback k hki a5) (hback k' hk' a6) a7

theorem undrew {w V : World} (h : Below w.drew.heap.size w.drew V) : Below w.heap.size w V := ⟨h.os, h.tape, h.output, h.size, fun k hk => h.block k hk⟩

/-- A region whose first m operations are quiet, whose operations from m on, below n, make blocks at any time, and whose rest is forced: one walk of the text's order serves every order. -/
theorem allocs_tail {id : Nat} {Q : Exit → Act → World → Prop} {a A : Act} {w : World} {l : List Oper} (m n : Nat) {z : Obj} (hm : P.follows .mixedOrders = true) (hB : allocB l.toArray m n a.tmps.size = true)
    (hA : ∀ k o, m ≤ k → k < n → l.toArray[k]? = some o → ∀ ρ w, (execOp ρ o).run P w = .ok (.value (.pointer (some ⟨w.heap.size, 0, none⟩))) (w.alloc z))
    (H : ∀ V, Below w.heap.size w V → wpQuiet P l.toArray (Gr V) (fun a' => a' = A) (l.take m) a)
    (T : ∀ b (p : Nat → Value) w', Hd P l.toArray m n a.tmps.size a A (Below w.drew.heap.size w.drew) → Stq l.toArray m n a A (headAll l.toArray.size n) p b → (∀ k, m ≤ k → k < n → Made w.drew z (p k) w') → (∀ k k', m ≤ k → k < n → m ≤ k' → k' < n → k ≠ k' → p k ≠ p k') → wpList P l.toArray Q (l.drop n) b w') :
    (Code.region id l.toArray true).wp P Q a w := by
  unfold allocB at hB
  simp only [Bool.and_eq_true, decide_eq_true_eq] at hB
  obtain ⟨⟨⟨⟨⟨⟨⟨hsel, hn⟩, hs⟩, hc⟩, hseq⟩, hq⟩, hz⟩, hmn⟩ := hB
  have hn' : n < l.length := by simpa using hn
  refine wp_region_any hm ?_
  have hd : Hd P l.toArray m n a.tmps.size a A (Below w.drew.heap.size w.drew) :=
    ⟨Nat.le_of_lt hmn, ⟨w.drew, Below.refl _ _⟩, fun i hi => List.all_eq_true.1 hq i (List.mem_range.2 hi), hz, rfl, fun V hV => ⟨l.take m, by simp; omega, fun i hi => by simp [hi], H V (undrew hV)⟩⟩
  have := hd.run (Q' := Q) (z := z) (Region.noSelect_spec hsel) hn hs hc hseq hA (tl := l.drop n) (fun j => by simp [List.getElem?_drop]) (by simp) (fun b p w' st h1 h2 _ => T b p w' hd st h1 h2)
    n (List.range n) (Array.replicate l.toArray.size false) a w.drew (fun _ => undef) (by simp) List.nodup_range (fun j hj => List.mem_range.1 hj)
    (fun j hj => ⟨fun _ => List.mem_range.2 hj, fun _ => getD_in (by simp; omega) (getD_replicate_false _ _)⟩) ⟨by simp, fun j oj _ hl => (by rw [getD_replicate_false] at hl; cases hl), fun t _ ht => getD_in (by simpa using ht) (getD_replicate_false _ _)⟩
    ⟨rfl, rfl, fun j o d _ _ _ => (by rw [getD_replicate_false]; rfl), fun j o d _ _ _ _ => (by rw [getD_replicate_false]; rfl), fun t _ => rfl⟩ (Below.refl _ _) (fun k _ h2 h3 => absurd (List.mem_range.2 h2) h3) (fun k _ _ h2 _ _ h3 _ => absurd (List.mem_range.2 h2) h3)
  rw [show n + (l.drop n).length = l.toArray.size by simp; omega] at this
  exact this

theorem head_all {sz k : Nat} (h : k < n) (hs : n ≤ sz) : (headAll sz n).getD k false = true := by
  have : k < sz := by omega
  simp [headAll, this, h]

/-- The act behind the head, where one block is made. -/
theorem Stq.one {p : Nat → Value} {b : Act} (h : Hd P ops m (m + 1) sz a A D) (hn : m + 1 < ops.size) (st : Stq ops m (m + 1) a A (headAll ops.size (m + 1)) p b) {o : Oper} {d : Nat} (ho : ops[m]? = some o) (hd : o.dst = some d) :
    b = A.put (some d) (p m) := by
  obtain ⟨s1, f1⟩ := h.facts m (Nat.le_refl _)
  obtain ⟨t1, t2⟩ := h.tmps m (Nat.le_refl _)
  rw [h.last] at s1 f1 t1 t2
  obtain ⟨o', d', ho', hd', _, _, hsz, _⟩ := fresh_spec h.z (Nat.le_refl m) (by omega)
  obtain rfl : o' = o := Option.some.inj (ho'.symm.trans ho)
  obtain rfl : d' = d := Option.some.inj (hd'.symm.trans hd)
  have ht : b.tmps = (A.put (some d') (p m)).tmps := by
    apply Array.ext'
    apply List.ext_getElem?
    intro t
    rw [Array.getElem?_toList, Array.getElem?_toList]
    by_cases htd : t = d'
    · subst htd
      rw [st.k m o' t (Nat.le_refl _) (by omega) ho hd, head_all (by omega) (by omega), put_self (by rw [s1]; exact hsz)]; rfl
    · rw [put_other (Ne.symm htd)]
      by_cases hex : ∃ j oj, j < m ∧ ops[j]? = some oj ∧ oj.dst = some t
      · obtain ⟨j, oj, hj, hoj, hdj⟩ := hex
        rw [st.q j oj t hj hoj hdj, head_all (by omega) (by omega), t2 j oj t hj hoj hdj]; rfl
      · have hno : ∀ j o, j < m → ops[j]? = some o → o.dst ≠ some t := fun j o hj ho hd => hex ⟨j, o, hj, ho, hd⟩
        rw [st.r t, t1 t hno]
        intro j oj hj hoj hdj
        by_cases hjm : j < m
        · exact hno j oj hjm hoj hdj
        · obtain rfl : j = m := by omega
          obtain rfl : oj = o' := Option.some.inj (hoj.symm.trans ho)
          exact htd (Option.some.inj (hdj.symm.trans hd))
  cases b with
  | mk bt bd =>
    have hd : bd = a.defers := st.defers
    have ht' : bt = (A.put (some d') (p m)).tmps := ht
    rw [hd, ht', ← f1]; rfl
/-- The same, where two are made. -/
theorem Stq.two {p : Nat → Value} {b : Act} (h : Hd P ops m (m + 2) sz a A D) (hn : m + 2 < ops.size) (st : Stq ops m (m + 2) a A (headAll ops.size (m + 2)) p b) {o o2 : Oper} {d d2 : Nat} (ho : ops[m]? = some o) (hd : o.dst = some d)
    (ho2 : ops[m + 1]? = some o2) (hd2 : o2.dst = some d2) : b = (A.put (some d) (p m)).put (some d2) (p (m + 1)) := by
  obtain ⟨s1, f1⟩ := h.facts m (Nat.le_refl _)
  obtain ⟨t1, t2⟩ := h.tmps m (Nat.le_refl _)
  rw [h.last] at s1 f1 t1 t2
  obtain ⟨o', d', ho', hd', _, _, hsz, hpp⟩ := fresh_spec h.z (Nat.le_refl m) (by omega)
  obtain rfl : o' = o := Option.some.inj (ho'.symm.trans ho)
  obtain rfl : d' = d := Option.some.inj (hd'.symm.trans hd)
  obtain ⟨o3, d3, ho3, hd3, _, _, hsz2, _⟩ := fresh_spec h.z (k := m + 1) (by omega) (by omega)
  obtain rfl : o3 = o2 := Option.some.inj (ho3.symm.trans ho2)
  obtain rfl : d3 = d2 := Option.some.inj (hd3.symm.trans hd2)
  have hne : d3 ≠ d' := fun e => by
    obtain ⟨oj, hoj, hx⟩ := hpp (m + 1) (by omega) (by omega)
    obtain rfl : oj = o3 := Option.some.inj (hoj.symm.trans ho2)
    exact hx (by rw [hd2, e])
  have ht : b.tmps = ((A.put (some d') (p m)).put (some d3) (p (m + 1))).tmps := by
    apply Array.ext'
    apply List.ext_getElem?
    intro t
    rw [Array.getElem?_toList, Array.getElem?_toList]
    by_cases ht2 : t = d3
    · subst ht2
      rw [st.k (m + 1) o3 t (by omega) (by omega) ho2 hd2, head_all (by omega) (by omega), put_self (by rw [put_size, s1]; exact hsz2)]; rfl
    · rw [put_other (Ne.symm ht2)]
      by_cases htd : t = d'
      · subst htd
        rw [st.k m o' t (Nat.le_refl _) (by omega) ho hd, head_all (by omega) (by omega), put_self (by rw [s1]; exact hsz)]; rfl
      · rw [put_other (Ne.symm htd)]
        by_cases hex : ∃ j oj, j < m ∧ ops[j]? = some oj ∧ oj.dst = some t
        · obtain ⟨j, oj, hj, hoj, hdj⟩ := hex
          rw [st.q j oj t hj hoj hdj, head_all (by omega) (by omega), t2 j oj t hj hoj hdj]; rfl
        · have hno : ∀ j o, j < m → ops[j]? = some o → o.dst ≠ some t := fun j o hj ho hd => hex ⟨j, o, hj, ho, hd⟩
          rw [st.r t, t1 t hno]
          intro j oj hj hoj hdj
          by_cases hjm : j < m
          · exact hno j oj hjm hoj hdj
          · by_cases hj1 : j = m
            · subst hj1
              obtain rfl : oj = o' := Option.some.inj (hoj.symm.trans ho)
              exact htd (Option.some.inj (hdj.symm.trans hd))
            · obtain rfl : j = m + 1 := by omega
              obtain rfl : oj = o3 := Option.some.inj (hoj.symm.trans ho2)
              exact ht2 (Option.some.inj (hdj.symm.trans hd2))
  cases b with
  | mk bt bd =>
    have hd : bd = a.defers := st.defers
    have ht' : bt = ((A.put (some d') (p m)).put (some d3) (p (m + 1))).tmps := ht
    rw [hd, ht', ← f1]; rfl

theorem made_below {w w' : World} {z : Obj} {v : Value} (h : Made w.drew z v w') : ∃ V, v = .pointer (some ⟨V.heap.size, 0, none⟩) ∧ Below w.heap.size w V ∧ Below (V.alloc z).heap.size (V.alloc z) w' := by
  obtain ⟨V, hV, e, hVw⟩ := h
  exact ⟨V, e, undrew hV, hVw⟩

theorem alloc_tail {id : Nat} {Q : Exit → Act → World → Prop} {a A : Act} {w : World} {l : List Oper} (m : Nat) {om : Oper} {dm : Nat} {z : Obj} (hm : P.follows .mixedOrders = true)
    (hB : allocB l.toArray m (m + 1) a.tmps.size = true) (hom : l.toArray[m]? = some om) (hdm : om.dst = some dm)
    (hA : ∀ ρ w, (execOp ρ om).run P w = .ok (.value (.pointer (some ⟨w.heap.size, 0, none⟩))) (w.alloc z))
    (H : ∀ V, Below w.heap.size w V → wpQuiet P l.toArray (Gr V) (fun a' => a' = A) (l.take m) a)
    (T : ∀ V w', Below w.heap.size w V → Below (V.alloc z).heap.size (V.alloc z) w' → wpList P l.toArray Q (l.drop (m + 1)) (A.put (some dm) (.pointer (some ⟨V.heap.size, 0, none⟩))) w') :
    (Code.region id l.toArray true).wp P Q a w := by
  have hn : m + 1 < l.toArray.size := by unfold allocB at hB; simp only [Bool.and_eq_true, decide_eq_true_eq] at hB; exact hB.1.1.1.1.1.1.2
  refine allocs_tail (z := z) m (m + 1) hm hB (fun k o h1 h2 ho => ?_) H fun b p w' hd st hmade _ => ?_
  · obtain rfl : k = m := by omega
    obtain rfl : o = om := Option.some.inj (ho.symm.trans hom)
    exact hA
  · rw [st.one hd hn hom hdm]
    obtain ⟨V, e, hV, hVw⟩ := made_below (hmade m (Nat.le_refl _) (by omega))
    rw [e]
    exact T V w' hV hVw
end
end

theorem alloc_below {W V w1 : World} {z : Obj} (hV : Below W.heap.size W V) (hw : Below (V.alloc z).heap.size (V.alloc z) w1) : Below W.heap.size W w1 :=
  (hV.alloc hV.size z).trans (hw.mono (by have := hV.size; simp; omega))
theorem alloc_num (dst : Option Tmp) (pos : String) (ty : TypeId) (ρ : Operand → Value) (w : World) : (execOp ρ { dst := dst, op := Op.alloc 24, type := ty, pos := pos, after := #[], guard := none }).run Tryd.prog w = .ok (.value (.pointer (some ⟨w.heap.size, 0, none⟩))) (w.alloc (.cells #[.int .u64 0, .int .u64 0, .int .u64 0, .int .u64 0] 24)) := by
  simp [execOp, go_sem]
theorem Blank.has {W : World} {b : Nat} (h : Blank W b) : Has W b 4 := fun i hi => by rw [h.1 i (by simpa using hi)]; rfl
end Go.Proofs.YtlpmphldmfefkaaDoor

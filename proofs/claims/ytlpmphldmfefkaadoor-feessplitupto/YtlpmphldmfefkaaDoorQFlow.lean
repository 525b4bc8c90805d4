import Derived.Test.YtlpmphldmfefkaaDoorQLate
/- A region that draws its order, whose head calls what answers otherwise in each world: of each answer a property is told that stays. -/
namespace Go.Proofs.YtlpmphldmfefkaaDoor
open Go.RowKit Go.Sort

section
variable {P : Program} {ops : Array Oper}

theorem upon_flow {o : Oper} {d : Nat} (hd : o.dst = some d) {A b : Act} (hA : d < A.tmps.size) {Q : Exit → Act → World → Prop} {I : Value → World → Prop} {next : Act → World → Prop} (hn : ∀ v V, I v V → next (b.put (some d) v) V) (r : Result Next)
    (H : o.upon P A (fun a' V => a'.defers = A.defers ∧ ∃ v, a'.tmps[d]? = some v ∧ I v V) (fun _ _ _ => False) r) : o.upon P b next Q r := by
  have key : ∀ v V, ((A.put o.dst v).defers = A.defers ∧ ∃ v', (A.put o.dst v).tmps[d]? = some v' ∧ I v' V) → next (b.put o.dst v) V := fun v V ⟨_, v', e, h⟩ => by
    rw [hd, put_self hA] at e
    obtain rfl : v = v' := Option.some.inj e
    rw [hd]; exact hn _ _ h
  unfold Oper.upon at H ⊢
  split at H
  · exact key _ _ H
  · exact key _ _ H
  · exact absurd H.1 (by rw [hd, put_def]; exact fun e => by have := congrArg List.length e; simp at this)
  · refine H.mono ?_
    rintro e V h
    cases e with
    | returned v => exact key _ _ h
    | panicked c => exact h.elim
    | outgrown => obtain ⟨_, _, h⟩ := h; exact h.elim
  · exact H.mono fun v V h => key _ _ h
  · exact H.elim
  · exact H.elim

/-- The act when the first k operations hold vs. -/
def flowAct (ops : Array Oper) (a : Act) (vs : Nat → Value) : Nat → Act
  | 0 => a
  | k + 1 => (flowAct ops a vs k).put ((ops[k]?).bind (·.dst)) (vs k)

def flowOne (ops : Array Oper) (i : Nat) : Bool :=
  match ops[i]? with
  | some o => o.guard.isNone && (match o.dst with | some d => !(o.looksAt ops).contains d | none => false)
  | none => false
def flowB (ops : Array Oper) (m n sz : Nat) : Bool := allocB ops m n sz && (List.range m).all (flowOne ops)
theorem flow_spec {ops : Array Oper} {i : Nat} (h : flowOne ops i = true) {o : Oper} (ho : ops[i]? = some o) {d : Nat} (hd : o.dst = some d) : o.guard = none ∧ d ∉ o.looksAt ops := by
  unfold flowOne at h
  rw [ho] at h
  simp only [hd, Bool.and_eq_true, Bool.not_eq_true', List.contains_eq_mem, decide_eq_false_iff_not] at h
  exact ⟨by simpa using h.1, h.2⟩

section
variable {m n sz : Nat} {a : Act} {W : World}

theorem flow_size (vs : Nat → Value) : ∀ k, (flowAct ops a vs k).tmps.size = a.tmps.size ∧ (flowAct ops a vs k).defers = a.defers := by
  intro k
  induction k with
  | zero => exact ⟨rfl, rfl⟩
  | succ k ih =>
    unfold flowAct
    cases h : (ops[k]?).bind (·.dst) with
    | none => exact ih
    | some d => exact ⟨by rw [put_size]; exact ih.1, by rw [put_def]; exact ih.2⟩
/-- Each operation has its slot alone. -/
def Own (ops : Array Oper) (n : Nat) (sz : Nat) : Prop := ∀ i, i < n → ∃ o d, ops[i]? = some o ∧ o.dst = some d ∧ d < sz ∧ ∀ j, j < n → j ≠ i → ∃ oj, ops[j]? = some oj ∧ oj.dst ≠ some d
theorem flow_tmps (hO : Own ops n a.tmps.size) (vs : Nat → Value) : ∀ k, k ≤ n → (∀ t, (∀ j o, j < k → ops[j]? = some o → o.dst ≠ some t) → (flowAct ops a vs k).tmps[t]? = a.tmps[t]?) ∧
    (∀ j o d, j < k → ops[j]? = some o → o.dst = some d → (flowAct ops a vs k).tmps[d]? = some (vs j)) := by
  intro k
  induction k with
  | zero => intro _; exact ⟨fun t _ => rfl, fun j _ _ hj => by omega⟩
  | succ k ih =>
    intro hk
    obtain ⟨i1, i2⟩ := ih (by omega)
    obtain ⟨o, d, ho, hd, hsz, hp⟩ := hO k (by omega)
    have e2 : flowAct ops a vs (k + 1) = (flowAct ops a vs k).put (some d) (vs k) := by
      show (flowAct ops a vs k).put ((ops[k]?).bind (·.dst)) (vs k) = _
      rw [ho]; simp only [Option.bind_some, hd]
    rw [e2]
    refine ⟨fun t ht => ?_, fun j o' d' hj ho' hd' => ?_⟩
    · have : d ≠ t := fun e => ht k o (by omega) ho (by rw [hd, e])
      rw [put_other this]
      exact i1 t fun j o' hj => ht j o' (by omega)
    · by_cases hji : j = k
      · subst hji
        obtain rfl : o' = o := Option.some.inj (ho'.symm.trans ho)
        obtain rfl : d' = d := Option.some.inj (hd'.symm.trans hd)
        exact put_self (by rw [(flow_size vs j).1]; exact hsz)
      · obtain ⟨oj, hoj, hne⟩ := hp j (by omega) hji
        obtain rfl : o' = oj := Option.some.inj (ho'.symm.trans hoj)
        have : d ≠ d' := fun e => hne (by rw [hd', e])
        rw [put_other this]
        exact i2 j o' d' (by omega) ho' hd'
theorem own_of (hB : flowB ops m n sz = true) : Own ops n sz := by
  unfold flowB allocB at hB
  simp only [Bool.and_eq_true, decide_eq_true_eq] at hB
  obtain ⟨⟨⟨⟨_, hq⟩, hz⟩, hmn⟩, hg⟩ := hB
  intro i hi
  by_cases hm : i < m
  · obtain ⟨o, d, ho, hd, hsz, _, hp⟩ := quiet_spec (List.all_eq_true.1 hq i (List.mem_range.2 hm))
    exact ⟨o, d, ho, hd, hsz, fun j hj hji => by obtain ⟨oj, h1, h2, _⟩ := hp j hj hji; exact ⟨oj, h1, h2⟩⟩
  · obtain ⟨o, d, ho, hd, _, _, hsz, hp⟩ := fresh_spec hz (by omega) hi
    exact ⟨o, d, ho, hd, hsz, hp⟩
/-- What has all come up is the act. -/
theorem flow_last (hO : Own ops n a.tmps.size) (hn : n ≤ ops.size) {p : Nat → Value} {b : Act} (st : Stq ops 0 n a a (headAll ops.size n) p b) : b = flowAct ops a p n := by
  have ht := flow_tmps hO p n (Nat.le_refl _)
  have hs := flow_size (ops := ops) (a := a) p n
  have e : b.tmps = (flowAct ops a p n).tmps := by
    apply Array.ext_getElem?
    intro t
    by_cases hex : ∃ j o, j < n ∧ ops[j]? = some o ∧ o.dst = some t
    · obtain ⟨j, o, hj, ho, hd⟩ := hex
      rw [st.k j o t (Nat.zero_le _) hj ho hd, head_all hj hn, if_pos rfl, ht.2 j o t hj ho hd]
    · have hno : ∀ j o, j < n → ops[j]? = some o → o.dst ≠ some t := fun j o hj ho hd => hex ⟨j, o, hj, ho, hd⟩
      rw [st.r t hno, ht.1 t hno]
  have e2 : b.defers = (flowAct ops a p n).defers := st.defers.trans hs.2.symm
  cases b; cases h : flowAct ops a p n
  rw [h] at e e2
  simp only at e e2
  rw [e, e2]

theorem flow_run {Pr : Nat → Value → World → Prop} (hB : flowB ops m n a.tmps.size = true) (hk : ∀ i v V V', Pr i v V → Below V.heap.size V V' → Pr i v V') {Q' : Exit → Act → World → Prop} {z : Obj}
    (hA : ∀ k o, m ≤ k → k < n → ops[k]? = some o → ∀ ρ w, (execOp ρ o).run P w = .ok (.value (.pointer (some ⟨w.heap.size, 0, none⟩))) (w.alloc z))
    (hrun : ∀ i o, i < m → ops[i]? = some o → ∀ vs V, Below W.heap.size W V → (∀ j, j < m → Region.waitsFor .any ops i j = true → Pr j (vs j) V) →
      o.wp P (flowAct ops a vs n) V (fun a' V' => a'.defers = (flowAct ops a vs n).defers ∧ ∃ v, a'.tmps[o.dst.getD 0]? = some v ∧ Pr i v V' ∧ Below V.heap.size V V') (fun _ _ _ => False))
    {tl : List Oper} (htl : ∀ j, tl[j]? = ops[n + j]?) (hlen : tl.length = ops.size - n)
    (T : ∀ (p : Nat → Value) w', (∀ j, j < m → Pr j (p j) w') → (∀ k, m ≤ k → k < n → Made W z (p k) w') → (∀ k k', m ≤ k → k < n → m ≤ k' → k' < n → k ≠ k' → p k ≠ p k') → Below W.heap.size W w' → wpList P ops Q' tl (flowAct ops a p n) w') :
    ∀ (f : Nat) (U : List Nat) (listed : Array Bool) (b : Act) (w' : World) (p : Nat → Value), U.length = f → U.Nodup → (∀ j, j ∈ U → j < n) → (∀ j, j < n → (listed.getD j true = false ↔ j ∈ U)) →
      HeadInv .any ops n listed → Stq ops 0 n a a listed p b → Below W.heap.size W w' → (∀ j, j < m → j ∉ U → Pr j (p j) w') →
      (∀ k, m ≤ k → k < n → k ∉ U → Made W z (p k) w') → (∀ k k', m ≤ k → k < n → m ≤ k' → k' < n → k ∉ U → k' ∉ U → k ≠ k' → p k ≠ p k') → wpAny P .any ops Q' (f + tl.length) listed b w' := by
  have hO := own_of hB
  unfold flowB allocB at hB
  simp only [Bool.and_eq_true, decide_eq_true_eq] at hB
  obtain ⟨⟨⟨⟨⟨⟨⟨⟨hsel, hn⟩, hs⟩, hc⟩, hseq⟩, hq⟩, hz⟩, hmn⟩, hg⟩ := hB
  have hsel' := Region.noSelect_spec hsel
  intro f
  induction f with
  | zero =>
    intro U listed b w' p hU _ _ hmem inv st hw hpr hp hdis
    have hU0 : U = [] := List.length_eq_zero_iff.1 hU
    subst hU0
    have hall : ∀ j, j < n → listed.getD j false = true := fun j hj => by
      have h1 : ¬ listed.getD j true = false := fun h => by have := (hmem j hj).1 h; cases this
      cases hv : listed.getD j false with
      | true => rfl
      | false => exact absurd (getD_in (by rw [inv.size]; omega) hv) h1
    have el := head_listed inv hall
    subst el
    rw [Nat.zero_add]
    have eb := flow_last hO (Nat.le_of_lt hn) st
    exact wpAny_of_seq tl n _ _ _ htl (by rw [hlen]; exact hseq) (by rw [eb]; exact T p w' (fun j hj => hpr j hj (by simp)) (fun k h1 h2 => hp k h1 h2 (by simp)) (fun k k' a1 a2 a3 a4 => hdis k k' a1 a2 a3 a4 (by simp) (by simp)) hw)
  | succ f ih =>
    intro U listed b w' p hU hnd hlt hmem inv st hw hpr hp hdis
    obtain ⟨j0, hj0, hmin⟩ := least U (fun e => by rw [e] at hU; cases hU)
    have hj0m := hlt j0 hj0
    have hr0 : j0 ∈ Region.ready .any ops listed := by
      rw [mem_ready]
      refine ⟨(hmem j0 hj0m).2 hj0, ?_⟩
      have lst : ∀ k, k < j0 → listed.getD k false = true := fun k hk => by
        cases hv : listed.getD k false with
        | true => rfl
        | false =>
          have := hmin k ((hmem k (by omega)).1 (getD_in (by rw [inv.size]; omega) hv))
          omega
      by_cases hjm : j0 < m
      · obtain ⟨o, d, ho, _, _, hl, _⟩ := quiet_spec (List.all_eq_true.1 hq j0 (List.mem_range.2 hjm))
        exact ⟨o, ho, fun e he hb => lst _ (hl e he hb)⟩
      · obtain ⟨o, d, ho, _, _, ha, _, _⟩ := fresh_spec hz (by omega) hj0m
        exact ⟨o, ho, fun e he => by rw [ha] at he; simp at he⟩
    have only := head_only hs hc hn inv hj0m hr0
    rw [show f + 1 + tl.length = (f + tl.length) + 1 by omega]
    refine ⟨fun h0 => absurd h0 (List.ne_nil_of_mem hr0), fun i hi => ?_⟩
    have him := only i hi
    have hiU : i ∈ U := (hmem i him).1 (mem_ready.1 hi).1
    have hisz : i < listed.size := by rw [inv.size]; omega
    have hU' : (U.erase i).length = f := by rw [List.length_erase_of_mem hiU, hU]; rfl
    have hmem' : ∀ j, j < n → ((listed.setIfInBounds i true).getD j true = false ↔ j ∈ U.erase i) := fun j hj => by
      rw [hnd.mem_erase_iff]
      by_cases hji : j = i
      · subst hji
        simp [hisz]
      · rw [getD_set_ne true (Ne.symm hji)]
        simp only [hji, ne_eq, not_false_eq_true, true_and]
        exact hmem j hj
    have hlt' : ∀ j, j ∈ U.erase i → j < n := fun j hj => hlt j (List.mem_of_mem_erase hj)
    have hback : ∀ k, k ≠ i → k ∉ U.erase i → k ∉ U := fun k hk hx hU => hx ((hnd.mem_erase_iff).2 ⟨hk, hU⟩)
    have inv' := inv.set hi him
    obtain ⟨o, d, ho, hd, hsz, hpp⟩ := hO i him
    unfold wpOp
    rw [ho]
    simp only
    by_cases hie : i < m
    · obtain ⟨o', d', ho', hd', _, hlt2, hp2⟩ := quiet_spec (List.all_eq_true.1 hq i (List.mem_range.2 hie))
      obtain rfl : o' = o := Option.some.inj (ho'.symm.trans ho)
      obtain rfl : d' = d := Option.some.inj (hd'.symm.trans hd)
      obtain ⟨hgd, hself⟩ := flow_spec (List.all_eq_true.1 hg i (List.mem_range.2 hie)) ho hd
      have ft := flow_tmps hO p n (Nat.le_refl _)
      have lsd : ∀ j, Region.waitsFor .any ops i j = true → listed.getD j false = true := fun j hwf => by
        obtain ⟨o3, h3, e, he, hb, hon⟩ := Region.waitsFor_spec hwf
        obtain ⟨_, o4, h5, hall⟩ := mem_ready.1 hi
        obtain rfl : o4 = o3 := Option.some.inj (h5.symm.trans h3)
        have := hall e he hb
        rwa [hon] at this
      have key : ∀ t, t ∈ o'.looksAt ops → b.tmps[t]? = (flowAct ops a p n).tmps[t]? := by
        intro t look
        by_cases hex : ∃ j oj, j < n ∧ ops[j]? = some oj ∧ oj.dst = some t
        · obtain ⟨j, oj, hj, hoj, hdj⟩ := hex
          have hji : j ≠ i := fun e => by
            subst e
            obtain rfl : oj = o' := Option.some.inj (hoj.symm.trans ho)
            rw [hd] at hdj
            exact hself (by rw [Option.some.inj hdj]; exact look)
          obtain ⟨o2, h2, _, h4⟩ := hp2 j hj hji
          obtain rfl : oj = o2 := Option.some.inj (hoj.symm.trans h2)
          rw [st.k j oj t (Nat.zero_le _) hj hoj hdj, lsd j (h4 t hdj look), if_pos rfl, ft.2 j oj t hj hoj hdj]
        · have hno : ∀ j o, j < n → ops[j]? = some o → o.dst ≠ some t := fun j o hj ho hd => hex ⟨j, o, hj, ho, hd⟩
          rw [st.r t hno, ft.1 t hno]
      have same : execOp b.eval o' = execOp (flowAct ops a p n).eval o' := by
        refine execOp_congr o' (fun cs b => hsel' i o' cs b ho) fun x hx => ?_
        cases x with
        | tmp t =>
          have k := key t (List.mem_append_left _ (List.mem_filterMap.2 ⟨.tmp t, by simpa using hx, rfl⟩))
          show b.tmps.getD t undef = (flowAct ops a p n).tmps.getD t undef
          simp only [Array.getD_eq_getD_getElem?, k]
        | _ => rfl
      have listedU : ∀ j, j < n → listed.getD j false = true → j ∉ U := fun j hj hl hU => by
        have := getD_both ((hmem j hj).2 hU)
        rw [hl] at this; cases this
      have H := hrun i o' hie ho p w' hw (fun j hj hwf => hpr j hj (listedU j (by omega) (lsd j hwf)))
      rw [if_pos (by unfold Region.wanted; rw [hgd])]
      refine .inl ?_
      unfold Oper.wp at H ⊢
      rw [same]
      rw [hd] at H
      refine upon_flow hd (by rw [(flow_size p n).1]; exact hsz) (fun v V' hI => ?_) _ H
      obtain ⟨hv, hb⟩ := hI
      refine ih (U.erase i) _ _ V' (fun j => if j = i then v else p j) hU' (hnd.erase i) hlt' hmem' inv' (st.setA (Nat.zero_le _) him ho hd hsz hisz hpp) (hw.trans (hb.mono hw.size)) (fun j hj hjU => ?_) (fun k h1 h2 hk => ?_) (fun k k' a1 a2 a3 a4 a5 a6 a7 => ?_)
      · by_cases hji : j = i
        · simp only [hji, if_true]; exact hv
        · simp only [hji, if_false]; exact hk j _ _ _ (hpr j hj (hback j hji hjU)) hb
      · have hki : k ≠ i := by omega
        simp only [hki, if_false]; exact (hp k h1 h2 (hback k hki hk)).keep hb
      · have hki : k ≠ i := by omega
        have hki' : k' ≠ i := by omega
        simp only [hki, hki', if_false]
        exact hdis k k' a1 a2 a3 a4 (hback k hki a5) (hback k' hki' a6) a7
    · obtain ⟨o', d', ho', hd', hgd, _, _, _⟩ := fresh_spec hz (show m ≤ i by omega) him
      obtain rfl : o' = o := Option.some.inj (ho'.symm.trans ho)
      rw [if_pos (by unfold Region.wanted; rw [hgd])]
      refine .inl ?_
      unfold Oper.wp
      rw [hA i o' (by omega) him ho, Oper.upon_value, hd]
      have grew : Below w'.heap.size w' (w'.alloc z) := (Below.refl _ _).alloc (Nat.le_refl _) z
      have far : ∀ k, m ≤ k → k < n → k ∉ U → p k ≠ .pointer (some ⟨w'.heap.size, 0, none⟩) := fun k h1 h2 hk => by
        obtain ⟨V, _, e, hVw⟩ := hp k h1 h2 hk
        rw [e]
        intro e'
        have e2 : V.heap.size = w'.heap.size := by simpa using e'
        have := hVw.size
        simp at this
        omega
      refine ih (U.erase i) _ _ _ (fun j => if j = i then .pointer (some ⟨w'.heap.size, 0, none⟩) else p j) hU' (hnd.erase i) hlt' hmem' inv' (st.setA (Nat.zero_le _) him ho hd hsz hisz hpp) (hw.alloc hw.size _) (fun j hj hjU => ?_) ?_ ?_
      · have hji : j ≠ i := by omega
        simp only [hji, if_false]; exact hk j _ _ _ (hpr j hj (hback j hji hjU)) grew
      · intro k h1 h2 hk
        by_cases hki : k = i
        · simp only [hki, if_true]; exact ⟨w', hw, rfl, Below.refl _ _⟩
        · simp only [hki, if_false]; exact (hp k h1 h2 (hback k hki hk)).keep grew
      · intro k k' a1 a2 a3 a4 a5 a6 a7
        by_cases hki : k = i
        · have hk' : k' ≠ i := fun e => a7 (by rw [hki, e])
          simp only [hki, hk', if_true, if_false]
          exact (far k' a3 a4 (hback k' hk' a6)).symm
        · by_cases hk' : k' = i
          · simp only [hki, hk', if_true, if_false]
            exact far k a1 a2 (hback k hki a5)
          · simp only [hki, hk', if_false]
            exact hdis k k' a1 a2 a3 a4 (hback k hki a5) (hback k' hk' a6) a7
end

theorem flowAct_bare {ops ops' : Array Oper} (h : ∀ j : Nat, (ops[j]?).map bareO = (ops'[j]?).map bareO) (a : Act) (vs : Nat → Value) : ∀ k, flowAct ops a vs k = flowAct ops' a vs k := by
  intro k
  induction k with
  | zero => rfl
  | succ k ih =>
    have e : (ops[k]?).bind (·.dst) = (ops'[k]?).bind (·.dst) := by
      have := h k
      cases h1 : ops[k]? with
      | none => cases h2 : ops'[k]? with
        | none => rfl
        | some o' => rw [h1, h2] at this; cases this
      | some o => cases h2 : ops'[k]? with
        | none => rw [h1, h2] at this; cases this
        | some o' =>
          rw [h1, h2] at this
          have e := Option.some.inj this
          have e2 : (bareO o).dst = (bareO o').dst := congrArg Oper.dst e
          exact e2
    unfold flowAct
    rw [ih, e]
variable {Q : Exit → Act → World → Prop}
/-- Two blocks made at any time, two operations late, calls that answer by the world. -/
theorem flow2_late2 {id : Nat} {a : Act} {w : World} {l : List Oper} (Pr : Nat → Value → World → Prop) (m n q q2 : Nat) {om o2 : Oper} {z : Obj} (hm : P.follows .mixedOrders = true) (hL : lateB .any l n q = true) (hL2 : lateB .any (l.modify n (updL q)) n q2 = true)
    (hQ : ∀ (d : Tmp) v c a w, Q (.panic c) (Act.put a (some d) v) w → Q (.panic c) a w)
    (hB : (flowB ((l.modify n (updL q)).modify n (updL q2)).toArray m (m + 2) a.tmps.size && decide (m + 1 < n)) = true) (hom : l.toArray[m]? = some om) (ho2 : l.toArray[m + 1]? = some o2)
    (hA : ∀ ρ w, (execOp ρ om).run P w = .ok (.value (.pointer (some ⟨w.heap.size, 0, none⟩))) (w.alloc z))
    (hA2 : ∀ ρ w, (execOp ρ o2).run P w = .ok (.value (.pointer (some ⟨w.heap.size, 0, none⟩))) (w.alloc z))
    (hk : ∀ i v V V', Pr i v V → Below V.heap.size V V' → Pr i v V')
    (hrun : ∀ i o, i < m → l.toArray[i]? = some o → ∀ vs V, Below w.heap.size w V → (∀ j, j < m → Region.waitsFor .any ((l.modify n (updL q)).modify n (updL q2)).toArray i j = true → Pr j (vs j) V) →
      o.wp P (flowAct l.toArray a vs (m + 2)) V (fun a' V' => a'.defers = (flowAct l.toArray a vs (m + 2)).defers ∧ ∃ v, a'.tmps[o.dst.getD 0]? = some v ∧ Pr i v V' ∧ Below V.heap.size V V') (fun _ _ _ => False))
    (T : ∀ (p : Nat → Value) V V2 w', (∀ j, j < m → Pr j (p j) w') → p m = .pointer (some ⟨V.heap.size, 0, none⟩) → p (m + 1) = .pointer (some ⟨V2.heap.size, 0, none⟩) →
      Below w.heap.size w V → Below (V.alloc z).heap.size (V.alloc z) w' → Below w.heap.size w V2 → Below (V2.alloc z).heap.size (V2.alloc z) w' → V.heap.size ≠ V2.heap.size →
      wpList P l.toArray Q (l.drop (m + 2)) (flowAct l.toArray a p (m + 2)) w') :
    (Code.region id l.toArray true).wp P Q a w := by
  simp only [Bool.and_eq_true, decide_eq_true_eq] at hB
  obtain ⟨hB, hmn⟩ := hB
  obtain ⟨oq, hl⟩ := late_of hL2
  have hb : ∀ j : Nat, (l.toArray[j]?).map bareO = (((l.modify n (updL q)).modify n (updL q2)).toArray[j]?).map bareO := fun j => ((modify_bare j).trans (modify_bare j)).symm
  have hQ2 : ∀ v c a w, Q (.panic c) (Act.put a oq.dst v) w → Q (.panic c) a w := fun v c a w h => by
    cases hd : oq.dst with
    | none => rw [hd] at h; exact h
    | some d => rw [hd] at h; exact hQ d v c a w h
  refine wp_region_late n q hm hL hQ (wpAny_late hl hQ2 _ _ _ _ (by simp) ?_)
  have e : ((l.modify n (updL q)).modify n (updL q2)).toArray.size = (l.modify n (updL q)).toArray.size := by simp
  rw [← e]
  have at_ : ∀ i, i < n → ((l.modify n (updL q)).modify n (updL q2)).toArray[i]? = l.toArray[i]? := fun i hi => by rw [modify_at, if_neg (by omega), modify_at, if_neg (by omega)]
  have hn : m + 2 < ((l.modify n (updL q)).modify n (updL q2)).toArray.size := by unfold flowB allocB at hB; simp only [Bool.and_eq_true, decide_eq_true_eq] at hB; exact hB.1.1.1.1.1.1.1.2
  have fa := flowAct_bare hb a
  have := flow_run (P := P) (W := w.drew) (Q' := Q) (z := z) hB hk (fun k o h1 h2 ho => by
      rw [at_ k (by omega)] at ho
      by_cases hkm : k = m
      · subst hkm
        obtain rfl : o = om := Option.some.inj (ho.symm.trans hom)
        exact hA
      · obtain rfl : k = m + 1 := by omega
        obtain rfl : o = o2 := Option.some.inj (ho.symm.trans ho2)
        exact hA2)
    (fun i o hi ho vs V hV hdep => by
      rw [at_ i (by omega)] at ho
      rw [← fa vs (m + 2)]
      exact hrun i o hi ho vs V (undrew hV) hdep)
    (tl := ((l.modify n (updL q)).modify n (updL q2)).drop (m + 2)) (fun j => by simp [List.getElem?_drop]) (by simp) (fun p w' hp hmade hdis hB' => by
      obtain ⟨V, e1, hV, hVw⟩ := made_below (hmade m (Nat.le_refl _) (by omega))
      obtain ⟨V2, e2, hV2, hVw2⟩ := made_below (hmade (m + 1) (by omega) (by omega))
      have hx := hdis m (m + 1) (Nat.le_refl _) (by omega) (by omega) (by omega) (by omega)
      rw [e1, e2] at hx
      rw [← fa p (m + 2)]
      exact wpList_bare hb _ _ _ w' ((drop_upd _ n q2 (m + 2)).trans (drop_upd l n q (m + 2))).symm (T p V V2 w' hp e1 e2 hV hVw hV2 hVw2 fun e => hx (by rw [e])))
    (m + 2) (List.range (m + 2)) (Array.replicate ((l.modify n (updL q)).modify n (updL q2)).toArray.size false) a w.drew (fun _ => undef) (by simp) List.nodup_range (fun j hj => List.mem_range.1 hj)
    (fun j hj => ⟨fun _ => List.mem_range.2 hj, fun _ => getD_in (by simp at hn ⊢; omega) (getD_replicate_false _ _)⟩) ⟨by simp, fun j oj _ hl => (by rw [getD_replicate_false] at hl; cases hl), fun t _ ht => getD_in (by simpa using ht) (getD_replicate_false _ _)⟩
    ⟨rfl, rfl, fun j o d _ _ _ => (by rw [getD_replicate_false]; rfl), fun j o d _ _ _ _ => (by rw [getD_replicate_false]; rfl), fun t _ => rfl⟩ (Below.refl _ _) (fun j hj h3 => absurd (List.mem_range.2 (by omega)) h3) (fun k _ h2 h3 => absurd (List.mem_range.2 h2) h3) (fun k _ _ h2 _ _ h3 _ => absurd (List.mem_range.2 h2) h3)
  rw [show m + 2 + (((l.modify n (updL q)).modify n (updL q2)).drop (m + 2)).length = ((l.modify n (updL q)).modify n (updL q2)).toArray.size by simp at hn ⊢; omega] at this
  exact this
/-- None of the first n writes t. -/
def noDst (l : List Oper) (n t : Nat) : Bool := (l.take n).all fun o => o.dst != some t
theorem noDst_spec {l : List Oper} {n t : Nat} (h : noDst l n t = true) : ∀ j o, j < n → l.toArray[j]? = some o → o.dst ≠ some t := fun j o hj ho => by
  have h1 : o ∈ l.take n := by
    rw [List.mem_iff_getElem?]
    exact ⟨j, by rw [List.getElem?_take_of_lt hj]; simpa using ho⟩
  simpa using List.all_eq_true.1 h o h1
/-- flow2_late2, each operation told of an act that holds what is before it. -/
theorem flow2_w {id : Nat} {a : Act} {w : World} {l : List Oper} (Pr : Nat → Value → World → Prop) (m n q q2 : Nat) {om o2 : Oper} {z : Obj} (hm : P.follows .mixedOrders = true) (hL : lateB .any l n q = true) (hL2 : lateB .any (l.modify n (updL q)) n q2 = true)
    (hQ : ∀ (d : Tmp) v c a w, Q (.panic c) (Act.put a (some d) v) w → Q (.panic c) a w)
    (hB : (flowB ((l.modify n (updL q)).modify n (updL q2)).toArray m (m + 2) a.tmps.size && decide (m + 1 < n)) = true) (hom : l.toArray[m]? = some om) (ho2 : l.toArray[m + 1]? = some o2)
    (hA : ∀ ρ w, (execOp ρ om).run P w = .ok (.value (.pointer (some ⟨w.heap.size, 0, none⟩))) (w.alloc z))
    (hA2 : ∀ ρ w, (execOp ρ o2).run P w = .ok (.value (.pointer (some ⟨w.heap.size, 0, none⟩))) (w.alloc z))
    (hk : ∀ i v V V', Pr i v V → Below V.heap.size V V' → Pr i v V')
    (hrun : ∀ i o, i < m → l.toArray[i]? = some o → ∀ (vs : Nat → Value) (V : World) (A : Act), Below w.heap.size w V → (∀ j, j < m → Region.waitsFor .any ((l.modify n (updL q)).modify n (updL q2)).toArray i j = true → Pr j (vs j) V) →
      (∀ d, d < a.tmps.size → d < A.tmps.size) → (∀ j d, j < m + 2 → (l.toArray[j]?).bind (·.dst) = some d → A.tmps[d]? = some (vs j)) → (∀ t, noDst l (m + 2) t = true → A.tmps[t]? = a.tmps[t]?) →
      o.wp P A V (fun a' V' => a'.defers = A.defers ∧ ∃ v, a'.tmps[o.dst.getD 0]? = some v ∧ Pr i v V' ∧ Below V.heap.size V V') (fun _ _ _ => False))
    (T : ∀ (p : Nat → Value) V V2 w', (∀ j, j < m → Pr j (p j) w') → p m = .pointer (some ⟨V.heap.size, 0, none⟩) → p (m + 1) = .pointer (some ⟨V2.heap.size, 0, none⟩) →
      Below w.heap.size w V → Below (V.alloc z).heap.size (V.alloc z) w' → Below w.heap.size w V2 → Below (V2.alloc z).heap.size (V2.alloc z) w' → V.heap.size ≠ V2.heap.size →
      wpList P l.toArray Q (l.drop (m + 2)) (flowAct l.toArray a p (m + 2)) w') :
    (Code.region id l.toArray true).wp P Q a w := by
  have hO : Own l.toArray (m + 2) a.tmps.size := by
    have h1 := hB
    simp only [Bool.and_eq_true, decide_eq_true_eq] at h1
    have h2 := own_of h1.1
    intro i hi
    obtain ⟨o, d, ho, hd, hs, hp⟩ := h2 i hi
    have at_ : ∀ i, i < m + 2 → ((l.modify n (updL q)).modify n (updL q2)).toArray[i]? = l.toArray[i]? := fun i hi => by rw [modify_at, if_neg (by omega), modify_at, if_neg (by omega)]
    exact ⟨o, d, (at_ i hi).symm.trans ho, hd, hs, fun j hj hji => by obtain ⟨oj, h3, h4⟩ := hp j hj hji; exact ⟨oj, (at_ j hj).symm.trans h3, h4⟩⟩
  refine flow2_late2 Pr m n q q2 hm hL hL2 hQ hB hom ho2 hA hA2 hk (fun i o hi ho vs V hV hdep => ?_) T
  have ft := flow_tmps hO vs (m + 2) (Nat.le_refl _)
  refine hrun i o hi ho vs V _ hV hdep (fun d hd => by rw [(flow_size vs (m + 2)).1]; exact hd) (fun j d hj hjd => ?_) (fun t ht => ft.1 t (noDst_spec ht))
  cases h : l.toArray[j]? with
  | none => rw [h] at hjd; cases hjd
  | some oj => rw [h] at hjd; exact ft.2 j oj d hj h hjd

/-- What an operation leaves that yields a value. -/
theorem flow_value {o : Oper} {A : Act} {V : World} {d : Nat} {v : Value} {I : Value → World → Prop} (hd : o.dst = some d) (hs : d < A.tmps.size) (h : (execOp A.eval o).run P V = .ok (.value v) V) (hI : I v V) :
    o.wp P A V (fun a' V' => a'.defers = A.defers ∧ ∃ v, a'.tmps[o.dst.getD 0]? = some v ∧ I v V' ∧ Below V.heap.size V V') (fun _ _ _ => False) := by
  unfold Oper.wp
  rw [h, Oper.upon_value, hd]
  exact ⟨put_def, v, put_self hs, hI, Below.refl _ _⟩
theorem flow_call {o : Oper} {A : Act} {V : World} {d : Nat} {f : FuncId} {args : Array Value} {I : Value → World → Prop} (hd : o.dst = some d) (hs : d < A.tmps.size) (h : (execOp A.eval o).run P V = .ok (.enter f args) V)
    (hc : Calls P f args V fun e V' => ∃ v, e = .returned v ∧ I v V' ∧ Below V.heap.size V V') :
    o.wp P A V (fun a' V' => a'.defers = A.defers ∧ ∃ v, a'.tmps[o.dst.getD 0]? = some v ∧ I v V' ∧ Below V.heap.size V V') (fun _ _ _ => False) := by
  unfold Oper.wp
  rw [h, Oper.upon_enter]
  refine hc.mono ?_
  rintro e V' ⟨v, rfl, hI, hb⟩
  simp only [hd]
  exact ⟨put_def, v, put_self hs, hI, hb⟩
end
end Go.Proofs.YtlpmphldmfefkaaDoor

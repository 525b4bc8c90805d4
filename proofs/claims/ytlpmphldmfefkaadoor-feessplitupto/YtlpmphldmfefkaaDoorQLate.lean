import Derived.Test.YtlpmphldmfefkaaDoorQAlloc
/- A drawn region in which one operation, which takes a part out of a tuple, may come up behind a store that does not ask for it: it may be taken as if the store waited for it. -/
namespace Go.Proofs.YtlpmphldmfefkaaDoor
open Go.RowKit Go.Sort

section
variable {P : Program} {Q : Exit → Act → World → Prop} {md : Region.Mode}

def updL (q : Nat) (o : Oper) : Oper := { o with after := o.after.push { on := q, ground := .data } }
/-- The operation without what it waits for. -/
def bareO (o : Oper) : Oper := { o with after := #[] }
theorem wanted_bare (o : Oper) (y : Nat → Option Bool) : Region.wanted (bareO o) y = Region.wanted o y := rfl
theorem wp_bare (o : Oper) (a : Act) (w : World) (K : Act → World → Prop) : Oper.wp P (bareO o) a w K Q = Oper.wp P o a w K Q := rfl
theorem asks_bare (o : Oper) (a : Act) (w : World) : Oper.asks P (bareO o) a w = Oper.asks P o a w := rfl
theorem yielded_bare {ops ops' : Array Oper} (h : ∀ j : Nat, (ops[j]?).map bareO = (ops'[j]?).map bareO) (tmps : Array Value) : yielded ops tmps = yielded ops' tmps := by
  funext j
  have := congrArg (fun o => Option.bind o (·.dst)) (h j)
  simp only [Option.bind_map] at this
  have e : ∀ o : Option Oper, (o.bind ((fun x => x.dst) ∘ bareO)) = o.bind (·.dst) := fun o => by cases o <;> rfl
  rw [e, e] at this
  unfold yielded
  rw [this]
theorem wpOp_bare {ops ops' : Array Oper} (h : ∀ j : Nat, (ops[j]?).map bareO = (ops'[j]?).map bareO) {i : Nat} {K : Act → World → Prop} {a : Act} {w : World} (H : wpOp P ops Q i K a w) : wpOp P ops' Q i K a w := by
  have hi := h i
  unfold wpOp at H ⊢
  rw [yielded_bare h] at H
  cases h1 : ops[i]? with
  | none =>
    cases h2 : ops'[i]? with
    | none => rw [h1] at H; exact H
    | some o' => rw [h1, h2] at hi; cases hi
  | some o =>
    cases h2 : ops'[i]? with
    | none => rw [h1, h2] at hi; cases hi
    | some o' =>
      rw [h1, h2] at hi
      have hb : bareO o = bareO o' := Option.some.inj hi
      rw [h1] at H
      simp only at H ⊢
      rw [← wanted_bare o, ← wp_bare o, ← asks_bare o, hb, wanted_bare, wp_bare, asks_bare, show o.dst = (bareO o).dst from rfl, hb] at H
      exact H

theorem modify_at {l : List Oper} {n q j : Nat} : (l.modify n (updL q)).toArray[j]? = if n = j then (l.toArray[j]?).map (updL q) else l.toArray[j]? := by
  simp only [List.getElem?_toArray, List.getElem?_modify]
  by_cases h : n = j
  · simp [h]
  · simp [h]
theorem modify_bare {l : List Oper} {n q : Nat} (j : Nat) : ((l.modify n (updL q)).toArray[j]?).map bareO = (l.toArray[j]?).map bareO := by
  rw [modify_at]; split
  · rw [Option.map_map]; rfl
  · rfl

/-- b waits for i. -/
def waitsL (md : Region.Mode) (ops : Array Oper) (b i : Nat) : Bool := match ops[b]? with
  | some o => o.after.any fun e => Region.binds md e && e.on == i
  | none => false
theorem waitsL_listed {ops : Array Oper} {b i : Nat} {o : Oper} {listed : Array Bool} (h : waitsL md ops b i = true) (ho : ops[b]? = some o) (hall : ∀ e ∈ o.after, Region.binds md e = true → listed.getD e.on false = true) : listed.getD i false = true := by
  unfold waitsL at h
  rw [ho] at h
  simp only [Array.any_eq_true] at h
  obtain ⟨k, hk, he⟩ := h
  simp only [Bool.and_eq_true, beq_iff_eq] at he
  have := hall _ (Array.getElem_mem hk) he.1
  rwa [he.2] at this

structure Late (md : Region.Mode) (l : List Oper) (n q : Nat) (oq : Oper) : Prop where
  sel : Region.noSelect l.toArray = true
  at_ : l.toArray[q]? = some oq
  ext : ∃ t k, oq.op = .extract t k
  guard : oq.guard = none
  ne : q ≠ n
  lt : q < l.length
  deps : ∀ e ∈ oq.after, Region.binds md e = true → waitsL md l.toArray n e.on = true
  apart : ∀ (j : Nat) oj, l.toArray[j]? = some oj → j ≠ q → waitsL md l.toArray q j = false → waitsL md l.toArray j q = false → oq.apart l.toArray oj = true

theorem extract_cases {o : Oper} {t : Operand} {k : Nat} (hx : o.op = .extract t k) (ρ : Operand → Value) : (∃ v, execOp ρ o = .pure (.value v)) ∨ ∃ m, execOp ρ o = .halt (.stuck m) := by
  unfold execOp
  simp only [hx]
  unfold Instr.extract
  split
  · split
    · exact .inl ⟨_, rfl⟩
    · exact .inr ⟨_, rfl⟩
  · exact .inr ⟨_, rfl⟩
theorem extract_yields {ops : Array Oper} {o : Oper} (hx : ∃ t k, o.op = .extract t k) (hg : o.guard = none) {i : Nat} (hi : ops[i]? = some o) {K : Act → World → Prop} {a : Act} {w : World} (h : wpOp P ops Q i K a w) : ∃ v, Yields P ops o v a ∧ K (a.put o.dst v) w := by
  obtain ⟨t, k, hx⟩ := hx
  have hw : Region.wanted o (yielded ops a.tmps) = true := by unfold Region.wanted; rw [hg]
  unfold wpOp at h
  rw [hi] at h
  simp only [hw, if_true] at h
  rcases extract_cases hx a.eval with ⟨v, hv⟩ | ⟨m, hm⟩
  · have r : ∀ w, (execOp a.eval o).run P w = .ok (.value v) w := fun w => by rw [hv]; rfl
    refine ⟨v, .inl ⟨hw, r⟩, ?_⟩
    rcases h with h | h
    · unfold Oper.wp at h
      rw [r, Oper.upon_value] at h
      exact h
    · have := h.1.1
      rw [hv] at this
      simp [Sem.runT] at this
  · exfalso
    rcases h with h | h
    · unfold Oper.wp at h
      rw [hm] at h
      exact h
    · have := h.1.1
      rw [hm] at this
      simp [Sem.runT] at this

section
variable {l : List Oper} {n q : Nat} {oq : Oper}

theorem Late.at' (h : Late md l n q oq) : (l.modify n (updL q)).toArray[q]? = some oq := by
  rw [modify_at, if_neg (fun e => h.ne e.symm)]; exact h.at_
theorem late_ready {i : Nat} {listed : Array Bool} (hi : i ∈ Region.ready md (l.modify n (updL q)).toArray listed) : i ∈ Region.ready md l.toArray listed := by
  rw [mem_ready] at hi ⊢
  obtain ⟨h1, o, ho, hall⟩ := hi
  rw [modify_at] at ho
  refine ⟨h1, ?_⟩
  split at ho
  · obtain ⟨o', ho', rfl⟩ := Option.map_eq_some_iff.1 ho
    exact ⟨o', ho', fun e he hb => hall e (by unfold updL; simp [he]) hb⟩
  · exact ⟨o, ho, hall⟩
theorem Late.ready (h : Late md l n q oq) {i : Nat} {listed : Array Bool} (hsz : listed.size = l.length) (hi : i ∈ Region.ready md l.toArray listed) :
    i ∈ Region.ready md (l.modify n (updL q)).toArray listed ∨ q ∈ Region.ready md (l.modify n (updL q)).toArray listed := by
  obtain ⟨h1, o, ho, hall⟩ := mem_ready.1 hi
  by_cases hin : n = i
  · subst hin
    cases hq : listed.getD q false with
    | true =>
      refine .inl (mem_ready.2 ⟨h1, updL q o, by rw [modify_at, if_pos rfl, ho]; rfl, fun e he hb => ?_⟩)
      unfold updL at he
      simp only [Array.mem_push] at he
      rcases he with he | rfl
      · exact hall e he hb
      · exact hq
    | false =>
      refine .inr (mem_ready.2 ⟨getD_in (by rw [hsz]; exact h.lt) hq, oq, h.at', fun e he hb => ?_⟩)
      exact waitsL_listed (h.deps e he hb) ho hall
  · exact .inl (mem_ready.2 ⟨h1, o, by rw [modify_at, if_neg hin]; exact ho, hall⟩)

theorem wpAny_late (h : Late md l n q oq) (hQ : ∀ v c a w, Q (.panic c) (Act.put a oq.dst v) w → Q (.panic c) a w) :
    ∀ (fuel : Nat) (listed : Array Bool) (a : Act) (w : World), listed.size = l.length → wpAny P md (l.modify n (updL q)).toArray Q fuel listed a w → wpAny P md l.toArray Q fuel listed a w
  | 0, listed, a, w, hsz, H => by
    refine ⟨?_, H.2⟩
    cases hr : Region.ready md l.toArray listed with
    | nil => rfl
    | cons i rs =>
      rcases h.ready hsz (i := i) (by rw [hr]; exact List.mem_cons_self) with h1 | h1
      · rw [H.1] at h1; cases h1
      · rw [H.1] at h1; cases h1
  | fuel + 1, listed, a, w, hsz, H => by
    by_cases hall : ∀ i ∈ Region.ready md l.toArray listed, i ∈ Region.ready md (l.modify n (updL q)).toArray listed
    · refine ⟨fun h0 => H.1 ?_, fun i hi => ?_⟩
      · cases hr : Region.ready md (l.modify n (updL q)).toArray listed with
        | nil => rfl
        | cons i rs =>
          have := late_ready (l := l) (n := n) (q := q) (i := i) (listed := listed) (md := md) (by rw [hr]; exact List.mem_cons_self)
          rw [h0] at this; cases this
      · exact wpOp_mono (fun a' w' h' => wpAny_late h hQ fuel _ a' w' (by simpa using hsz) h') (wpOp_bare modify_bare (H.2 i (hall i hi)))
    · have hq : q ∈ Region.ready md (l.modify n (updL q)).toArray listed := by
        obtain ⟨i, hi⟩ := Classical.not_forall.1 hall
        obtain ⟨hi, hn⟩ := Classical.not_imp.1 hi
        rcases h.ready hsz hi with h1 | h1
        · exact absurd h1 hn
        · exact h1
      have hq' := late_ready hq
      obtain ⟨v, hy, hK⟩ := extract_yields h.ext h.guard h.at_ (wpOp_bare modify_bare (H.2 q hq))
      refine wpAny_first h.at_ (Region.noSelect_spec h.sel) (hQ v) fuel listed a w (fun j oj hj hjq hun hno => ?_) hq' hy (wpAny_late h hQ fuel _ _ w (by simpa using hsz) hK)
      refine h.apart j oj hj hjq ?_ ?_
      · cases hw : waitsL md l.toArray q j with
        | false => rfl
        | true =>
          obtain ⟨_, o, ho, hall⟩ := mem_ready.1 hq'
          have h1 := waitsL_listed hw ho hall
          have h2 : listed.getD j false = true := h1
          rcases Nat.lt_or_ge j listed.size with h' | h'
          · simp [h'] at hun h2; rw [hun] at h2; cases h2
          · simp [Array.getElem?_eq_none h'] at h2
      · cases hw : waitsL md l.toArray j q with
        | false => rfl
        | true =>
          unfold waitsL at hw
          rw [hj] at hw
          simp only [Array.any_eq_true] at hw
          obtain ⟨k, hk, he⟩ := hw
          simp only [Bool.and_eq_true, beq_iff_eq] at he
          exact absurd he.2 (hno _ (Array.getElem_mem hk) he.1)
end

/-- The check, by reckoning. -/
def lateB (md : Region.Mode) (l : List Oper) (n q : Nat) : Bool :=
  Region.noSelect l.toArray && decide (q ≠ n) && (match l.toArray[q]? with
    | some oq => (match oq.op with | .extract _ _ => true | _ => false) && oq.guard.isNone && oq.after.all (fun e => !Region.binds md e || waitsL md l.toArray n e.on) &&
      (List.range l.length).all fun j => (j == q) || waitsL md l.toArray q j || waitsL md l.toArray j q || (match l.toArray[j]? with | some oj => oq.apart l.toArray oj | none => true)
    | none => false)
theorem late_of {l : List Oper} {n q : Nat} (h : lateB md l n q = true) : ∃ oq, Late md l n q oq := by
  unfold lateB at h
  simp only [Bool.and_eq_true, decide_eq_true_eq] at h
  obtain ⟨⟨hs, hne⟩, h⟩ := h
  split at h
  · rename_i oq hq
    simp only [Bool.and_eq_true] at h
    obtain ⟨⟨⟨hx, hg⟩, hd⟩, hap⟩ := h
    have hlt : q < l.length := by
      rcases Nat.lt_or_ge q l.length with h' | h'
      · exact h'
      · rw [Array.getElem?_eq_none (by simpa using h')] at hq; cases hq
    refine ⟨oq, hs, hq, ?_, by simpa using hg, hne, hlt, fun e he hb => ?_, fun j oj hj hjq h1 h2 => ?_⟩
    · cases hop : oq.op with
      | extract t k => exact ⟨t, k, rfl⟩
      | _ => rw [hop] at hx; cases hx
    · rw [Array.all_eq_true'] at hd
      have := hd e he
      rw [hb] at this
      simpa using this
    · have hjl : j < l.length := by
        rcases Nat.lt_or_ge j l.length with h' | h'
        · exact h'
        · rw [Array.getElem?_eq_none (by simpa using h')] at hj; cases hj
      have := List.all_eq_true.1 hap j (List.mem_range.2 hjl)
      rw [h1, h2, hj] at this
      simpa [hjq] using this
  · cases h

theorem wpList_bare {ops ops' : Array Oper} (hy : ∀ j : Nat, (ops[j]?).map bareO = (ops'[j]?).map bareO) : ∀ (L L' : List Oper) (a : Act) (w : World), L.map bareO = L'.map bareO → wpList P ops Q L a w → wpList P ops' Q L' a w
  | [], [], _, _, _, h => h
  | [], _ :: _, _, _, e, _ => by cases e
  | _ :: _, [], _, _, e, _ => by cases e
  | o :: L, o' :: L', a, w, e, h => by
    simp only [List.map_cons, List.cons.injEq] at e
    obtain ⟨e1, e2⟩ := e
    unfold wpList at h ⊢
    rw [yielded_bare hy, ← wanted_bare o, e1, wanted_bare] at h
    split
    · rename_i hw
      rw [if_pos hw] at h
      rcases h with h | h
      · rw [← wp_bare o, e1, wp_bare] at h
        exact .inl (Oper.wp_mono (fun a' w' h' => wpList_bare hy L L' a' w' e2 h') h)
      · rw [← asks_bare o, e1, asks_bare] at h
        exact .inr h
    · rename_i hw
      rw [if_neg hw, show o.dst = (bareO o).dst from rfl, e1] at h
      exact wpList_bare hy L L' _ w e2 h
theorem wpQuiet_bare {ops ops' : Array Oper} {C : World → Prop} {K K' : Act → Prop} (hy : ∀ j : Nat, (ops[j]?).map bareO = (ops'[j]?).map bareO) (hK : ∀ a, K a → K' a) : ∀ (L : List Oper) (a : Act), wpQuiet P ops C K L a → wpQuiet P ops' C K' L a
  | [], a, h => hK a h
  | o :: L, a, h => by
    unfold wpQuiet at h ⊢
    rw [yielded_bare hy] at h
    split
    · rename_i hw
      rw [if_pos hw] at h
      obtain ⟨v, h1, h2⟩ := h
      exact ⟨v, h1, wpQuiet_bare hy hK L _ h2⟩
    · rename_i hw
      rw [if_neg hw] at h
      exact wpQuiet_bare hy hK L _ h
theorem take_upd (l : List Oper) (n q m : Nat) (h : m ≤ n) : (l.modify n (updL q)).take m = l.take m := by
  apply List.ext_getElem?
  intro j
  by_cases hj : j < m
  · rw [List.getElem?_take_of_lt hj, List.getElem?_take_of_lt hj, List.getElem?_modify]
    have : n ≠ j := by omega
    simp [this]
  · rw [List.getElem?_take_eq_none (by omega), List.getElem?_take_eq_none (by omega)]
theorem drop_upd (l : List Oper) (n q m : Nat) : ((l.modify n (updL q)).drop m).map bareO = (l.drop m).map bareO := by
  apply List.ext_getElem?
  intro j
  rw [List.getElem?_map, List.getElem?_map, List.getElem?_drop, List.getElem?_drop]
  have := modify_bare (l := l) (n := n) (q := q) (m + j)
  simpa only [List.getElem?_toArray] using this

theorem wp_region_late {id : Nat} {a : Act} {w : World} {l : List Oper} (n q : Nat) (hm : P.follows .mixedOrders = true) (hL : lateB .any l n q = true)
    (hQ : ∀ (d : Tmp) v c a w, Q (.panic c) (Act.put a (some d) v) w → Q (.panic c) a w)
    (h : wpAny P .any (l.modify n (updL q)).toArray Q (l.modify n (updL q)).toArray.size (Array.replicate (l.modify n (updL q)).toArray.size false) a w.drew) : (Code.region id l.toArray true).wp P Q a w := by
  obtain ⟨oq, hl⟩ := late_of hL
  have e : (l.modify n (updL q)).toArray.size = l.toArray.size := by simp
  rw [e] at h
  refine wp_region_any hm (wpAny_late hl (fun v c a w h => ?_) _ _ _ _ (by simp) h)
  cases hd : oq.dst with
  | none => rw [hd] at h; exact h
  | some d => rw [hd] at h; exact hQ d v c a w h

theorem allocs_tail_any {a A : Act} {w : World} {l : List Oper} (m n : Nat) {z : Obj} (hB : allocB l.toArray m n a.tmps.size = true)
    (hA : ∀ k o, m ≤ k → k < n → l.toArray[k]? = some o → ∀ ρ w, (execOp ρ o).run P w = .ok (.value (.pointer (some ⟨w.heap.size, 0, none⟩))) (w.alloc z))
    (H : ∀ V, Below w.heap.size w V → wpQuiet P l.toArray (Gr V) (fun a' => a' = A) (l.take m) a)
    (T : ∀ b (p : Nat → Value) w', Hd P l.toArray m n a.tmps.size a A (Below w.drew.heap.size w.drew) → Stq l.toArray m n a A (headAll l.toArray.size n) p b → (∀ k, m ≤ k → k < n → Made w.drew z (p k) w') → (∀ k k', m ≤ k → k < n → m ≤ k' → k' < n → k ≠ k' → p k ≠ p k') → wpList P l.toArray Q (l.drop n) b w') :
    wpAny P .any l.toArray Q l.toArray.size (Array.replicate l.toArray.size false) a w.drew := by
  unfold allocB at hB
  simp only [Bool.and_eq_true, decide_eq_true_eq] at hB
  obtain ⟨⟨⟨⟨⟨⟨⟨hsel, hn⟩, hs⟩, hc⟩, hseq⟩, hq⟩, hz⟩, hmn⟩ := hB
  have hn' : n < l.length := by simpa using hn
  have hd : Hd P l.toArray m n a.tmps.size a A (Below w.drew.heap.size w.drew) :=
    ⟨Nat.le_of_lt hmn, ⟨w.drew, Below.refl _ _⟩, fun i hi => List.all_eq_true.1 hq i (List.mem_range.2 hi), hz, rfl, fun V hV => ⟨l.take m, by simp; omega, fun i hi => by simp [hi], H V (undrew hV)⟩⟩
  have := hd.run (Q' := Q) (z := z) (Region.noSelect_spec hsel) hn hs hc hseq hA (tl := l.drop n) (fun j => by simp [List.getElem?_drop]) (by simp) (fun b p w' st h1 h2 _ => T b p w' hd st h1 h2)
    n (List.range n) (Array.replicate l.toArray.size false) a w.drew (fun _ => undef) (by simp) List.nodup_range (fun j hj => List.mem_range.1 hj)
    (fun j hj => ⟨fun _ => List.mem_range.2 hj, fun _ => getD_in (by simp; omega) (getD_replicate_false _ _)⟩) ⟨by simp, fun j oj _ hl => (by rw [getD_replicate_false] at hl; cases hl), fun t _ ht => getD_in (by simpa using ht) (getD_replicate_false _ _)⟩
    ⟨rfl, rfl, fun j o d _ _ _ => (by rw [getD_replicate_false]; rfl), fun j o d _ _ _ _ => (by rw [getD_replicate_false]; rfl), fun t _ => rfl⟩ (Below.refl _ _) (fun k _ h2 h3 => absurd (List.mem_range.2 h2) h3) (fun k _ _ h2 _ _ h3 _ => absurd (List.mem_range.2 h2) h3)
  rw [show n + (l.drop n).length = l.toArray.size by simp; omega] at this
  exact this

/-- alloc_tail, where operation q may come up behind the store n. -/
theorem alloc_tail_late {id : Nat} {a A : Act} {w : World} {l : List Oper} (m n q : Nat) {om : Oper} {dm : Nat} {z : Obj} (hm : P.follows .mixedOrders = true) (hL : lateB .any l n q = true)
    (hQ : ∀ (d : Tmp) v c a w, Q (.panic c) (Act.put a (some d) v) w → Q (.panic c) a w)
    (hB : (allocB (l.modify n (updL q)).toArray m (m + 1) a.tmps.size && decide (m < n)) = true) (hom : l.toArray[m]? = some om) (hdm : om.dst = some dm)
    (hA : ∀ ρ w, (execOp ρ om).run P w = .ok (.value (.pointer (some ⟨w.heap.size, 0, none⟩))) (w.alloc z))
    (H : ∀ V, Below w.heap.size w V → wpQuiet P l.toArray (Gr V) (fun a' => a' = A) (l.take m) a)
    (T : ∀ V w', Below w.heap.size w V → Below (V.alloc z).heap.size (V.alloc z) w' → wpList P l.toArray Q (l.drop (m + 1)) (A.put (some dm) (.pointer (some ⟨V.heap.size, 0, none⟩))) w') :
    (Code.region id l.toArray true).wp P Q a w := by
  simp only [Bool.and_eq_true, decide_eq_true_eq] at hB
  obtain ⟨hB, hmn⟩ := hB
  have hom' : (l.modify n (updL q)).toArray[m]? = some om := by rw [modify_at, if_neg (by omega)]; exact hom
  have hn : m + 1 < (l.modify n (updL q)).toArray.size := by unfold allocB at hB; simp only [Bool.and_eq_true, decide_eq_true_eq] at hB; exact hB.1.1.1.1.1.1.2
  refine wp_region_late n q hm hL hQ (allocs_tail_any (z := z) (A := A) m (m + 1) hB (fun k o h1 h2 ho => ?_) (fun V hV => ?_) fun b p w' hd st hmade _ => ?_)
  · obtain rfl : k = m := by omega
    obtain rfl : o = om := Option.some.inj (ho.symm.trans hom')
    exact hA
  · rw [take_upd l n q m (by omega)]
    exact wpQuiet_bare (fun j => (modify_bare j).symm) (fun _ h => h) _ a (H V hV)
  · rw [st.one hd hn hom' hdm]
    obtain ⟨V, e, hV, hVw⟩ := made_below (hmade m (Nat.le_refl _) (by omega))
    rw [e]
    exact wpList_bare (fun j => (modify_bare j).symm) _ _ _ w' (drop_upd l n q (m + 1)).symm (T V w' hV hVw)
theorem alloc2_tail_late {id : Nat} {a A : Act} {w : World} {l : List Oper} (m n q : Nat) {om o2 : Oper} {dm d2 : Nat} {z : Obj} (hm : P.follows .mixedOrders = true) (hL : lateB .any l n q = true)
    (hQ : ∀ (d : Tmp) v c a w, Q (.panic c) (Act.put a (some d) v) w → Q (.panic c) a w)
    (hB : (allocB (l.modify n (updL q)).toArray m (m + 2) a.tmps.size && decide (m + 1 < n)) = true) (hom : l.toArray[m]? = some om) (hdm : om.dst = some dm) (ho2 : l.toArray[m + 1]? = some o2) (hd2 : o2.dst = some d2)
    (hA : ∀ ρ w, (execOp ρ om).run P w = .ok (.value (.pointer (some ⟨w.heap.size, 0, none⟩))) (w.alloc z))
    (hA2 : ∀ ρ w, (execOp ρ o2).run P w = .ok (.value (.pointer (some ⟨w.heap.size, 0, none⟩))) (w.alloc z))
    (H : ∀ V, Below w.heap.size w V → wpQuiet P l.toArray (Gr V) (fun a' => a' = A) (l.take m) a)
    (T : ∀ V V2 w', Below w.heap.size w V → Below (V.alloc z).heap.size (V.alloc z) w' → Below w.heap.size w V2 → Below (V2.alloc z).heap.size (V2.alloc z) w' → V.heap.size ≠ V2.heap.size →
      wpList P l.toArray Q (l.drop (m + 2)) ((A.put (some dm) (.pointer (some ⟨V.heap.size, 0, none⟩))).put (some d2) (.pointer (some ⟨V2.heap.size, 0, none⟩))) w') :
    (Code.region id l.toArray true).wp P Q a w := by
  simp only [Bool.and_eq_true, decide_eq_true_eq] at hB
  obtain ⟨hB, hmn⟩ := hB
  have hom' : (l.modify n (updL q)).toArray[m]? = some om := by rw [modify_at, if_neg (by omega)]; exact hom
  have ho2' : (l.modify n (updL q)).toArray[m + 1]? = some o2 := by rw [modify_at, if_neg (by omega)]; exact ho2
  have hn : m + 2 < (l.modify n (updL q)).toArray.size := by unfold allocB at hB; simp only [Bool.and_eq_true, decide_eq_true_eq] at hB; exact hB.1.1.1.1.1.1.2
  refine wp_region_late n q hm hL hQ (allocs_tail_any (z := z) (A := A) m (m + 2) hB (fun k o h1 h2 ho => ?_) (fun V hV => ?_) fun b p w' hd st hmade hdis => ?_)
  · by_cases hk : k = m
    · subst hk
      obtain rfl : o = om := Option.some.inj (ho.symm.trans hom')
      exact hA
    · obtain rfl : k = m + 1 := by omega
      obtain rfl : o = o2 := Option.some.inj (ho.symm.trans ho2')
      exact hA2
  · rw [take_upd l n q m (by omega)]
    exact wpQuiet_bare (fun j => (modify_bare j).symm) (fun _ h => h) _ a (H V hV)
  · rw [st.two hd hn hom' hdm ho2' hd2]
    obtain ⟨V, e, hV, hVw⟩ := made_below (hmade m (Nat.le_refl _) (by omega))
    obtain ⟨V2, e2, hV2, hVw2⟩ := made_below (hmade (m + 1) (by omega) (by omega))
    have hx := hdis m (m + 1) (Nat.le_refl _) (by omega) (by omega) (by omega) (by omega)
    rw [e, e2] at hx ⊢
    exact wpList_bare (fun j => (modify_bare j).symm) _ _ _ w' (drop_upd l n q (m + 2)).symm (T V V2 w' hV hVw hV2 hVw2 fun e => hx (by rw [e]))

end
end Go.Proofs.YtlpmphldmfefkaaDoor

import Derived.Test.YtkmkkcnlafbboaaQAlloc
/- A region that draws its order: its first m operations are quiet, operation m stores and may come as soon as what it waits for is there, behind it the order is forced. -/
namespace Go.Proofs.Ytkmkkcnlafbboaa
open Go.RowKit Go.Sort

section
variable {P : Program} {ops : Array Oper}

def lateB (ops : Array Oper) (m sz : Nat) : Bool :=
  Region.noSelect ops && decide (m + 1 < ops.size) && Region.sinkB .any ops (m + 1) && Region.chainB .any ops (m + 1) &&
  Region.seqB .any ops (ops.size - (m + 1)) (m + 1) (headAll ops.size (m + 1)) && (List.range m).all (quietB ops m sz) &&
  (match ops[m]? with
    | some o => o.guard.isNone && o.dst.isNone && o.after.all (fun e => decide (e.on < m)) &&
        (List.range m).all fun j => (match ops[j]? with
          | some oj => (match oj.dst with | some d => !(o.looksAt ops).contains d || Region.waitsFor .any ops m j | none => true)
          | none => false)
    | none => false)

theorem late_spec {m : Nat} {o : Oper} (ho : ops[m]? = some o) (h : (match ops[m]? with
    | some o => o.guard.isNone && o.dst.isNone && o.after.all (fun e => decide (e.on < m)) &&
        (List.range m).all fun j => (match ops[j]? with
          | some oj => (match oj.dst with | some d => !(o.looksAt ops).contains d || Region.waitsFor .any ops m j | none => true)
          | none => false)
    | none => false) = true) : o.guard = none ∧ o.dst = none ∧ (∀ e ∈ o.after, e.on < m) ∧ ∀ j, j < m → ∀ oj t, ops[j]? = some oj → oj.dst = some t → t ∈ o.looksAt ops → Region.waitsFor .any ops m j = true := by
  rw [ho] at h
  simp only [Bool.and_eq_true] at h
  obtain ⟨⟨⟨hg, hd⟩, ha⟩, hp⟩ := h
  refine ⟨by simpa using hg, by simpa using hd, fun e he => ?_, fun j hj oj t hoj ht hl => ?_⟩
  · have := Array.all_eq_true'.1 ha e he
    simpa using this
  · have h1 := List.all_eq_true.1 hp j (List.mem_range.2 hj)
    rw [hoj] at h1
    simp only [ht, Bool.or_eq_true, Bool.not_eq_true', List.contains_eq_mem, decide_eq_false_iff_not] at h1
    rcases h1 with h1 | h1
    · exact absurd hl h1
    · exact h1

variable {m sz : Nat} {a A : Act} {Pre Post : World → Prop} {om : Oper}

theorem Stq.none {p : Nat → Value} {b : Act} {D : World → Prop} {listed : Array Bool} (h : Hd P ops m m sz a A D) (st : Stq ops m m a A listed p b) (hall : ∀ j, j < m → listed.getD j false = true) : b = A := by
  obtain ⟨s1, f1⟩ := h.facts m (Nat.le_refl _)
  obtain ⟨t1, t2⟩ := h.tmps m (Nat.le_refl _)
  rw [h.last] at s1 f1 t1 t2
  have ht : b.tmps = A.tmps := by
    apply Array.ext'
    apply List.ext_getElem?
    intro t
    rw [Array.getElem?_toList, Array.getElem?_toList]
    by_cases hex : ∃ j oj, j < m ∧ ops[j]? = some oj ∧ oj.dst = some t
    · obtain ⟨j, oj, hj, hoj, hdj⟩ := hex
      rw [st.q j oj t hj hoj hdj, hall j hj, t2 j oj t hj hoj hdj]; rfl
    · have hno : ∀ j o, j < m → ops[j]? = some o → o.dst ≠ some t := fun j o hj ho hd => hex ⟨j, o, hj, ho, hd⟩
      rw [st.r t hno, t1 t hno]
  cases b with
  | mk bt bd =>
    have hd : bd = a.defers := st.defers
    have ht' : bt = A.tmps := ht
    rw [hd, ht', ← f1]

theorem Hd.late (h : Hd P ops m m sz a A (fun w => Pre w ∨ Post w)) {Q' : Exit → Act → World → Prop} (hsel : ∀ (j : Nat) (o : Oper) cs b, ops[j]? = some o → o.op ≠ .select cs b)
    (hn : m + 1 < ops.size) (hs : Region.sinkB .any ops (m + 1) = true) (hc : Region.chainB .any ops (m + 1) = true) (hseq : Region.seqB .any ops (ops.size - (m + 1)) (m + 1) (headAll ops.size (m + 1)) = true)
    (hom : ops[m]? = some om) (hg : om.guard = none) (hdn : om.dst = none) (haf : ∀ e ∈ om.after, e.on < m)
    (hwt : ∀ j, j < m → ∀ oj t, ops[j]? = some oj → oj.dst = some t → t ∈ om.looksAt ops → Region.waitsFor .any ops m j = true)
    (hPre : ∀ V V', Pre V → Below V.heap.size V V' → Pre V') (hPost : ∀ V V', Post V → Below V.heap.size V V' → Post V')
    (hE : ∀ V, Pre V → ∃ V', (execOp A.eval om).run P V = .ok .skip V' ∧ Post V')
    {tl : List Oper} (htl : ∀ j, tl[j]? = ops[m + 1 + j]?) (hlen : tl.length = ops.size - (m + 1))
    (T : ∀ w', Post w' → wpList P ops Q' tl A w') :
    ∀ (f : Nat) (U : List Nat) (listed : Array Bool) (b : Act) (w' : World) (p : Nat → Value), U.length = f → U.Nodup → (∀ j, j ∈ U → j < m + 1) → (∀ j, j < m + 1 → (listed.getD j true = false ↔ j ∈ U)) →
      HeadInv .any ops (m + 1) listed → Stq ops m m a A listed p b → (m ∈ U → Pre w') → (m ∉ U → Post w') → wpAny P .any ops Q' (f + tl.length) listed b w' := by
  intro f
  induction f with
  | zero =>
    intro U listed b w' p hU _ _ hmem inv st _ hpo
    have hU0 : U = [] := List.length_eq_zero_iff.1 hU
    subst hU0
    have hall : ∀ j, j < m + 1 → listed.getD j false = true := fun j hj => by
      have h1 : ¬ listed.getD j true = false := fun h => by have := (hmem j hj).1 h; cases this
      cases hv : listed.getD j false with
      | true => rfl
      | false => exact absurd (getD_in (by rw [inv.size]; omega) hv) h1
    have eb := st.none h (fun j hj => hall j (by omega))
    have el := head_listed inv hall
    subst el; subst eb
    rw [Nat.zero_add]
    exact wpAny_of_seq tl (m + 1) _ _ _ htl (by rw [hlen]; exact hseq) (T w' (hpo (by simp)))
  | succ f ih =>
    intro U listed b w' p hU hnd hlt hmem inv st hpr hpo
    have hD : Pre w' ∨ Post w' := by
      by_cases hmU : m ∈ U
      · exact .inl (hpr hmU)
      · exact .inr (hpo hmU)
    obtain ⟨j0, hj0, hmin⟩ := least U (fun e => by rw [e] at hU; cases hU)
    have hj0m := hlt j0 hj0
    have hr0 : j0 ∈ Region.ready .any ops listed := by
      rw [mem_ready]
      refine ⟨(hmem j0 hj0m).2 hj0, ?_⟩
      have lst : ∀ k, k < j0 → listed.getD k false = true := fun k hk => by
        cases hv : listed.getD k false with
        | true => rfl
        | false =>
          have := hmin k ((hmem k (by omega)).1 (getD_in (by rw [inv.size]; omega) hv))
          omega
      by_cases hjm : j0 < m
      · obtain ⟨o, d, ho, _, _, hl, _⟩ := quiet_spec (h.q j0 hjm)
        exact ⟨o, ho, fun e he hb => lst _ (hl e he hb)⟩
      · obtain rfl : j0 = m := by omega
        exact ⟨om, hom, fun e he _ => lst _ (haf e he)⟩
    have only := head_only hs hc hn inv hj0m hr0
    rw [show f + 1 + tl.length = (f + tl.length) + 1 by omega]
    refine ⟨fun h0 => absurd h0 (List.ne_nil_of_mem hr0), fun i hi => ?_⟩
    have him := only i hi
    have hiU : i ∈ U := (hmem i him).1 (mem_ready.1 hi).1
    have hisz : i < listed.size := by rw [inv.size]; omega
    have hU' : (U.erase i).length = f := by rw [List.length_erase_of_mem hiU, hU]; rfl
    have hmem' : ∀ j, j < m + 1 → ((listed.setIfInBounds i true).getD j true = false ↔ j ∈ U.erase i) := fun j hj => by
      rw [hnd.mem_erase_iff]
      by_cases hji : j = i
      · subst hji
        simp [hisz]
      · rw [getD_set_ne true (Ne.symm hji)]
        simp only [hji, ne_eq, not_false_eq_true, true_and]
        exact hmem j hj
    have hlt' : ∀ j, j ∈ U.erase i → j < m + 1 := fun j hj => hlt j (List.mem_of_mem_erase hj)
    have inv' := inv.set hi him
    unfold wpOp
    by_cases hie : i < m
    · obtain ⟨o, d, ho, hd, hsz, hpp, _, hyl⟩ := h.at hsel st hie hi hD
      rw [ho]
      simp only
      have cl : ∀ V, Gr w' V → (m ∈ U → Pre V) ∧ (m ∉ U → Post V) := fun V hV => ⟨fun h => hPre _ _ (hpr h) hV.below, fun h => hPost _ _ (hpo h) hV.below⟩
      have go : ∀ w'', Gr w' w'' → wpAny P .any ops Q' (f + tl.length) (listed.setIfInBounds i true) (b.put (some d) (A.tmps.getD d undef)) w'' := fun w'' hg' => by
        have hc := cl w'' hg'
        exact ih (U.erase i) _ _ _ p hU' (hnd.erase i) hlt' hmem' inv' (st.setQ h.mn hie ho hd (by rw [h.size]; exact hsz) hisz hpp)
          (fun hm => hc.1 (List.mem_of_mem_erase hm)) (fun hm => hc.2 fun hx => hm ((hnd.mem_erase_iff).2 ⟨by omega, hx⟩))
      rcases hyl with ⟨hwt, _⟩ | ⟨hwt, hund⟩
      · rw [if_pos hwt]
        refine .inl (Oper.wp_of_quiet (C := Gr w') (K := fun b' => b' = b.put (some d) (A.tmps.getD d undef)) (Gr.self w') (fun b' w'' hg' e => by rw [e]; exact go w'' hg') ⟨A.tmps.getD d undef, fun V hV => ?_, by rw [hd]⟩)
        have hD' : Pre V ∨ Post V := by
          by_cases hmU : m ∈ U
          · exact .inl ((cl V hV).1 hmU)
          · exact .inr ((cl V hV).2 hmU)
        obtain ⟨o2, d2, ho2, hd2, _, _, _, hy⟩ := h.at hsel st hie hi hD'
        obtain rfl : o2 = o := Option.some.inj (ho2.symm.trans ho)
        obtain rfl : d2 = d := Option.some.inj (hd2.symm.trans hd)
        rcases hy with ⟨_, hy⟩ | ⟨hw2, _⟩
        · exact quietAt_mono (fun x hx => hV.trans hx) hy
        · rw [hwt] at hw2; cases hw2
      · rw [if_neg (by rw [hwt]; exact Bool.false_ne_true), hd, ← hund]
        exact go w' (Gr.self w')
    · obtain rfl : i = m := by omega
      rw [hom]
      simp only
      rw [if_pos (by unfold Region.wanted; rw [hg])]
      refine .inl ?_
      obtain ⟨t1, t2⟩ := h.tmps i (Nat.le_refl _)
      rw [h.last] at t1 t2
      have same : execOp b.eval om = execOp A.eval om := by
        refine execOp_congr om (fun cs b => hsel i om cs b hom) fun x hx => ?_
        cases x with
        | tmp t =>
          have key : b.tmps[t]? = A.tmps[t]? := by
            have look : t ∈ om.looksAt ops := List.mem_append_left _ (List.mem_filterMap.2 ⟨.tmp t, by simpa using hx, rfl⟩)
            by_cases hex : ∃ j oj, j < i ∧ ops[j]? = some oj ∧ oj.dst = some t
            · obtain ⟨j, oj, hj, hoj, hdj⟩ := hex
              obtain ⟨o3, h3, e, he, hb, hon⟩ := Region.waitsFor_spec (hwt j hj oj t hoj hdj look)
              obtain rfl : o3 = om := Option.some.inj (h3.symm.trans hom)
              obtain ⟨_, o4, h5, hall⟩ := mem_ready.1 hi
              obtain rfl : o4 = o3 := Option.some.inj (h5.symm.trans h3)
              have h7 := hall e he hb
              rw [hon] at h7
              rw [st.q j oj t hj hoj hdj, h7, t2 j oj t hj hoj hdj]; rfl
            · have hno : ∀ j o, j < i → ops[j]? = some o → o.dst ≠ some t := fun j o hj ho hd => hex ⟨j, o, hj, ho, hd⟩
              rw [st.r t hno, t1 t hno]
          show b.tmps.getD t undef = A.tmps.getD t undef
          simp only [Array.getD_eq_getD_getElem?, key]
        | _ => rfl
      obtain ⟨V', e1, e2⟩ := hE w' (hpr hiU)
      unfold Oper.wp
      rw [same, e1, Oper.upon_skip, hdn]
      have st' : Stq ops i i a A (listed.setIfInBounds i true) p b := by
        refine ⟨st.size, st.defers, fun j o d hj ho hd => ?_, fun j o d h1 h2 => by omega, st.r⟩
        rw [getD_set_ne false (by omega)]; exact st.q j o d hj ho hd
      exact ih (U.erase i) _ _ _ p hU' (hnd.erase i) hlt' hmem' inv' st' (fun hm => absurd rfl ((hnd.mem_erase_iff).1 hm).1) (fun _ => e2)

theorem late_tail {id : Nat} {Q : Exit → Act → World → Prop} {a A : Act} {w : World} {l : List Oper} (m : Nat) {om : Oper} (Pre Post : World → Prop) (hm : P.follows .mixedOrders = true) (hB : lateB l.toArray m a.tmps.size = true) (hom : l.toArray[m]? = some om)
    (h0 : Pre w.drew) (hPre : ∀ V V', Pre V → Below V.heap.size V V' → Pre V') (hPost : ∀ V V', Post V → Below V.heap.size V V' → Post V')
    (H : ∀ V, Pre V ∨ Post V → wpQuiet P l.toArray (Gr V) (fun a' => a' = A) (l.take m) a)
    (hE : ∀ V, Pre V → ∃ V', (execOp A.eval om).run P V = .ok .skip V' ∧ Post V')
    (T : ∀ w', Post w' → wpList P l.toArray Q (l.drop (m + 1)) A w') : (Code.region id l.toArray true).wp P Q a w := by
  unfold lateB at hB
  simp only [Bool.and_eq_true, decide_eq_true_eq] at hB
  obtain ⟨⟨⟨⟨⟨⟨hsel, hn⟩, hs⟩, hc⟩, hseq⟩, hq⟩, hl⟩ := hB
  have hn' : m + 1 < l.length := by simpa using hn
  obtain ⟨g1, g2, g3, g4⟩ := late_spec hom hl
  refine wp_region_any hm ?_
  have hd : Hd P l.toArray m m a.tmps.size a A (fun w => Pre w ∨ Post w) :=
    ⟨Nat.le_refl _, ⟨w.drew, .inl h0⟩, fun i hi => List.all_eq_true.1 hq i (List.mem_range.2 hi), by unfold freshB; exact List.all_eq_true.2 fun k hk => by simp [List.mem_range.1 hk], rfl,
      fun V hV => ⟨l.take m, by simp; omega, fun i hi => by simp [hi], H V hV⟩⟩
  have := hd.late (Q' := Q) (Region.noSelect_spec hsel) hn hs hc hseq hom g1 g2 g3 g4 hPre hPost hE (tl := l.drop (m + 1)) (fun j => by simp [List.getElem?_drop]) (by simp) T
    (m + 1) (List.range (m + 1)) (Array.replicate l.toArray.size false) a w.drew (fun _ => undef) (by simp) List.nodup_range (fun j hj => List.mem_range.1 hj)
    (fun j hj => ⟨fun _ => List.mem_range.2 hj, fun _ => getD_in (by simp; omega) (getD_replicate_false _ _)⟩) ⟨by simp, fun j oj _ hl => (by rw [getD_replicate_false] at hl; cases hl), fun t _ ht => getD_in (by simpa using ht) (getD_replicate_false _ _)⟩
    ⟨rfl, rfl, fun j o d _ _ _ => (by rw [getD_replicate_false]; rfl), fun j o d h1 h2 => by omega, fun t _ => rfl⟩ (fun _ => h0) (fun hx => absurd (List.mem_range.2 (by omega)) hx)
  rw [show m + 1 + (l.drop (m + 1)).length = l.toArray.size by simp; omega] at this
  exact this
end
end Go.Proofs.Ytkmkkcnlafbboaa

import Derived.Test.YtncpjgpioajbeaaGreatDoorQLate
/- A region that draws its order: its first m operations are quiet, operation m makes a block at any time, operation m + 1 stores into it as soon as what it waits for is there ('x, ok := f(g(), a)'), behind it the order is forced. -/
namespace Go.Proofs.YtncpjgpioajbeaaGreatDoor
open Go.RowKit Go.Sort

section
variable {P : Program} {ops : Array Oper}

def putB (ops : Array Oper) (m sz : Nat) : Bool :=
  Region.noSelect ops && decide (m + 2 < ops.size) && Region.sinkB .any ops (m + 2) && Region.chainB .any ops (m + 2) &&
  Region.seqB .any ops (ops.size - (m + 2)) (m + 2) (headAll ops.size (m + 2)) && (List.range m).all (quietB ops (m + 1) sz) && freshB ops m (m + 1) sz && Region.waitsFor .any ops (m + 1) m &&
  (match ops[m + 1]? with
    | some o => o.guard.isNone && o.dst.isNone && o.after.all (fun e => decide (e.on < m + 1)) &&
        (List.range m).all fun j => (match ops[j]? with
          | some oj => (match oj.dst with | some d => !(o.looksAt ops).contains d || Region.waitsFor .any ops (m + 1) j | none => true)
          | none => false)
    | none => false)

theorem put_spec {m : Nat} {o : Oper} (ho : ops[m + 1]? = some o) (h : (match ops[m + 1]? with
    | some o => o.guard.isNone && o.dst.isNone && o.after.all (fun e => decide (e.on < m + 1)) &&
        (List.range m).all fun j => (match ops[j]? with
          | some oj => (match oj.dst with | some d => !(o.looksAt ops).contains d || Region.waitsFor .any ops (m + 1) j | none => true)
          | none => false)
    | none => false) = true) : o.guard = none ∧ o.dst = none ∧ (∀ e ∈ o.after, e.on < m + 1) ∧ ∀ j, j < m → ∀ oj t, ops[j]? = some oj → oj.dst = some t → t ∈ o.looksAt ops → Region.waitsFor .any ops (m + 1) j = true := by
  rw [ho] at h
  simp only [Bool.and_eq_true] at h
  obtain ⟨⟨⟨hg, hd⟩, ha⟩, hp⟩ := h
  refine ⟨by simpa using hg, by simpa using hd, fun e he => ?_, fun j hj oj t hoj ht hl => ?_⟩
  · have := Array.all_eq_true'.1 ha e he
    simpa using this
  · have h1 := List.all_eq_true.1 hp j (List.mem_range.2 hj)
    rw [hoj] at h1
    simp only [ht, Bool.or_eq_true, Bool.not_eq_true', List.contains_eq_mem, decide_eq_false_iff_not] at h1
    rcases h1 with h1 | h1
    · exact absurd hl h1
    · exact h1

variable {m sz : Nat} {a A : Act} {Pre : World → Prop} {Mid Post : Value → World → Prop} {D : World → Prop} {om os : Oper} {dm : Nat} {z : Obj}

/-- The act behind the head. -/
theorem Stq.made {p : Nat → Value} {b : Act} {listed : Array Bool} (h : Hd P ops m (m + 1) sz a A D) (st : Stq ops m (m + 1) a A listed p b) (hall : ∀ j, j < m + 1 → listed.getD j false = true) (ho : ops[m]? = some om) (hd : om.dst = some dm) :
    b = A.put (some dm) (p m) := by
  obtain ⟨s1, f1⟩ := h.facts m (Nat.le_refl _)
  obtain ⟨t1, t2⟩ := h.tmps m (Nat.le_refl _)
  rw [h.last] at s1 f1 t1 t2
  obtain ⟨o', d', ho', hd', _, _, hsz, _⟩ := fresh_spec h.z (Nat.le_refl m) (by omega)
  obtain rfl : o' = om := Option.some.inj (ho'.symm.trans ho)
  obtain rfl : d' = dm := Option.some.inj (hd'.symm.trans hd)
  have ht : b.tmps = (A.put (some d') (p m)).tmps := by
    apply Array.ext'
    apply List.ext_getElem?
    intro t
    rw [Array.getElem?_toList, Array.getElem?_toList]
    by_cases htd : t = d'
    · subst htd
      rw [st.k m o' t (Nat.le_refl _) (by omega) ho hd, hall m (by omega), put_self (by rw [s1]; exact hsz)]; rfl
    · rw [put_other (Ne.symm htd)]
      by_cases hex : ∃ j oj, j < m ∧ ops[j]? = some oj ∧ oj.dst = some t
      · obtain ⟨j, oj, hj, hoj, hdj⟩ := hex
        rw [st.q j oj t hj hoj hdj, hall j (by omega), t2 j oj t hj hoj hdj]; rfl
      · have hno : ∀ j o, j < m → ops[j]? = some o → o.dst ≠ some t := fun j o hj ho hd => hex ⟨j, o, hj, ho, hd⟩
        rw [st.r t, t1 t hno]
        intro j oj hj hoj hdj
        by_cases hjm : j < m
        · exact hno j oj hjm hoj hdj
        · obtain rfl : j = m := by omega
          obtain rfl : oj = o' := Option.some.inj (hoj.symm.trans ho)
          exact htd (Option.some.inj (hdj.symm.trans hd))
  cases b with
  | mk bt bd =>
    have hd : bd = a.defers := st.defers
    have ht' : bt = (A.put (some d') (p m)).tmps := ht
    rw [hd, ht', ← f1]; rfl

theorem Hd.puts (h : Hd P ops m (m + 1) sz a A D) {Q' : Exit → Act → World → Prop} (hsel : ∀ (j : Nat) (o : Oper) cs b, ops[j]? = some o → o.op ≠ .select cs b)
    (hn : m + 2 < ops.size) (hs : Region.sinkB .any ops (m + 2) = true) (hc : Region.chainB .any ops (m + 2) = true) (hseq : Region.seqB .any ops (ops.size - (m + 2)) (m + 2) (headAll ops.size (m + 2)) = true)
    (hom : ops[m]? = some om) (hdm : om.dst = some dm) (hA : ∀ ρ w, (execOp ρ om).run P w = .ok (.value (.pointer (some ⟨w.heap.size, 0, none⟩))) (w.alloc z))
    (hos : ops[m + 1]? = some os) (hg : os.guard = none) (hdn : os.dst = none) (haf : ∀ e ∈ os.after, e.on < m + 1) (hw0 : Region.waitsFor .any ops (m + 1) m = true)
    (hwt : ∀ j, j < m → ∀ oj t, ops[j]? = some oj → oj.dst = some t → t ∈ os.looksAt ops → Region.waitsFor .any ops (m + 1) j = true)
    (hPre : ∀ V V', Pre V → Below V.heap.size V V' → Pre V') (hMid : ∀ v V V', Mid v V → Below V.heap.size V V' → Mid v V') (hPost : ∀ v V V', Post v V → Below V.heap.size V V' → Post v V')
    (hD0 : ∀ V, Pre V → D V) (hD1 : ∀ v V, Mid v V → D V) (hD2 : ∀ v V, Post v V → D V) (hPM : ∀ V, Pre V → Mid (.pointer (some ⟨V.heap.size, 0, none⟩)) (V.alloc z))
    (hE : ∀ v V, Mid v V → ∃ V', (execOp (A.put (some dm) v).eval os).run P V = .ok .skip V' ∧ Post v V')
    {tl : List Oper} (htl : ∀ j, tl[j]? = ops[m + 2 + j]?) (hlen : tl.length = ops.size - (m + 2))
    (T : ∀ v w', Post v w' → wpList P ops Q' tl (A.put (some dm) v) w') :
    ∀ (f : Nat) (U : List Nat) (listed : Array Bool) (b : Act) (w' : World) (p : Nat → Value), U.length = f → U.Nodup → (∀ j, j ∈ U → j < m + 2) → (∀ j, j < m + 2 → (listed.getD j true = false ↔ j ∈ U)) →
      HeadInv .any ops (m + 2) listed → Stq ops m (m + 1) a A listed p b → (m ∈ U → m + 1 ∈ U) → (m ∈ U → Pre w') → (m ∉ U → m + 1 ∈ U → Mid (p m) w') → (m + 1 ∉ U → Post (p m) w') → wpAny P .any ops Q' (f + tl.length) listed b w' := by
  intro f
  induction f with
  | zero =>
    intro U listed b w' p hU _ _ hmem inv st _ _ _ hpo
    have hU0 : U = [] := List.length_eq_zero_iff.1 hU
    subst hU0
    have hall : ∀ j, j < m + 2 → listed.getD j false = true := fun j hj => by
      have h1 : ¬ listed.getD j true = false := fun h => by have := (hmem j hj).1 h; cases this
      cases hv : listed.getD j false with
      | true => rfl
      | false => exact absurd (getD_in (by rw [inv.size]; omega) hv) h1
    have eb := st.made h (fun j hj => hall j (by omega)) hom hdm
    have el := head_listed inv hall
    subst el; subst eb
    rw [Nat.zero_add]
    exact wpAny_of_seq tl (m + 2) _ _ _ htl (by rw [hlen]; exact hseq) (T _ w' (hpo (by simp)))
  | succ f ih =>
    intro U listed b w' p hU hnd hlt hmem inv st himp hpr hmi hpo
    have dw : ∀ V, (m ∈ U → Pre V) → (m ∉ U → m + 1 ∈ U → Mid (p m) V) → (m + 1 ∉ U → Post (p m) V) → D V := fun V a1 a2 a3 => by
      by_cases h1 : m ∈ U
      · exact hD0 _ (a1 h1)
      · by_cases h2 : m + 1 ∈ U
        · exact hD1 _ _ (a2 h1 h2)
        · exact hD2 _ _ (a3 h2)
    have hD := dw w' hpr hmi hpo
    obtain ⟨j0, hj0, hmin⟩ := least U (fun e => by rw [e] at hU; cases hU)
    have hj0m := hlt j0 hj0
    have hr0 : j0 ∈ Region.ready .any ops listed := by
      rw [mem_ready]
      refine ⟨(hmem j0 hj0m).2 hj0, ?_⟩
      have lst : ∀ k, k < j0 → listed.getD k false = true := fun k hk => by
        cases hv : listed.getD k false with
        | true => rfl
        | false =>
          have := hmin k ((hmem k (by omega)).1 (getD_in (by rw [inv.size]; omega) hv))
          omega
      by_cases hjm : j0 < m
      · obtain ⟨o, d, ho, _, _, hl, _⟩ := quiet_spec (h.q j0 hjm)
        exact ⟨o, ho, fun e he hb => lst _ (hl e he hb)⟩
      · by_cases hj1 : j0 = m
        · subst hj1
          obtain ⟨o, d, ho, _, _, ha, _, _⟩ := fresh_spec h.z (Nat.le_refl j0) (by omega)
          exact ⟨o, ho, fun e he => by rw [ha] at he; simp at he⟩
        · obtain rfl : j0 = m + 1 := by omega
          exact ⟨os, hos, fun e he _ => lst _ (haf e he)⟩
    have only := head_only hs hc hn inv hj0m hr0
    rw [show f + 1 + tl.length = (f + tl.length) + 1 by omega]
    refine ⟨fun h0 => absurd h0 (List.ne_nil_of_mem hr0), fun i hi => ?_⟩
    have him := only i hi
    have hiU : i ∈ U := (hmem i him).1 (mem_ready.1 hi).1
    have hisz : i < listed.size := by rw [inv.size]; omega
    have hU' : (U.erase i).length = f := by rw [List.length_erase_of_mem hiU, hU]; rfl
    have hmem' : ∀ j, j < m + 2 → ((listed.setIfInBounds i true).getD j true = false ↔ j ∈ U.erase i) := fun j hj => by
      rw [hnd.mem_erase_iff]
      by_cases hji : j = i
      · subst hji
        simp [hisz]
      · rw [getD_set_ne true (Ne.symm hji)]
        simp only [hji, ne_eq, not_false_eq_true, true_and]
        exact hmem j hj
    have hlt' : ∀ j, j ∈ U.erase i → j < m + 2 := fun j hj => hlt j (List.mem_of_mem_erase hj)
    have hback : ∀ k, k ≠ i → k ∉ U.erase i → k ∉ U := fun k hk hx hU => hx ((hnd.mem_erase_iff).2 ⟨hk, hU⟩)
    have hin : ∀ k, k ≠ i → k ∈ U → k ∈ U.erase i := fun k hk hU => (hnd.mem_erase_iff).2 ⟨hk, hU⟩
    have inv' := inv.set hi him
    unfold wpOp
    by_cases hie : i < m
    · obtain ⟨o, d, ho, hd, hsz, hpp, _, hyl⟩ := h.at hsel st hie hi hD
      rw [ho]
      simp only
      have cl : ∀ V, Gr w' V → (m ∈ U → Pre V) ∧ (m ∉ U → m + 1 ∈ U → Mid (p m) V) ∧ (m + 1 ∉ U → Post (p m) V) := fun V hV => ⟨fun h => hPre _ _ (hpr h) hV.below, fun h h' => hMid _ _ _ (hmi h h') hV.below, fun h => hPost _ _ _ (hpo h) hV.below⟩
      have go : ∀ w'', Gr w' w'' → wpAny P .any ops Q' (f + tl.length) (listed.setIfInBounds i true) (b.put (some d) (A.tmps.getD d undef)) w'' := fun w'' hg' => by
        have hc := cl w'' hg'
        exact ih (U.erase i) _ _ _ p hU' (hnd.erase i) hlt' hmem' inv' (st.setQ h.mn hie ho hd (by rw [h.size]; exact hsz) hisz hpp)
          (fun hm => hin _ (by omega) (himp (List.mem_of_mem_erase hm))) (fun hm => hc.1 (List.mem_of_mem_erase hm)) (fun hm hm1 => hc.2.1 (hback m (by omega) hm) (List.mem_of_mem_erase hm1)) (fun hm => hc.2.2 (hback _ (by omega) hm))
      rcases hyl with ⟨hwt, _⟩ | ⟨hwt, hund⟩
      · rw [if_pos hwt]
        refine .inl (Oper.wp_of_quiet (C := Gr w') (K := fun b' => b' = b.put (some d) (A.tmps.getD d undef)) (Gr.self w') (fun b' w'' hg' e => by rw [e]; exact go w'' hg') ⟨A.tmps.getD d undef, fun V hV => ?_, by rw [hd]⟩)
        have hc := cl V hV
        obtain ⟨o2, d2, ho2, hd2, _, _, _, hy⟩ := h.at hsel st hie hi (dw V hc.1 hc.2.1 hc.2.2)
        obtain rfl : o2 = o := Option.some.inj (ho2.symm.trans ho)
        obtain rfl : d2 = d := Option.some.inj (hd2.symm.trans hd)
        rcases hy with ⟨_, hy⟩ | ⟨hw2, _⟩
        · exact quietAt_mono (fun x hx => hV.trans hx) hy
        · rw [hwt] at hw2; cases hw2
      · rw [if_neg (by rw [hwt]; exact Bool.false_ne_true), hd, ← hund]
        exact go w' (Gr.self w')
    · by_cases hi1 : i = m
      · subst hi1
        obtain ⟨o, d, ho, hd, hgd, _, hsz, hpp⟩ := fresh_spec h.z (Nat.le_refl i) (by omega)
        obtain rfl : o = om := Option.some.inj (ho.symm.trans hom)
        obtain rfl : d = dm := Option.some.inj (hd.symm.trans hdm)
        rw [ho]
        simp only
        rw [if_pos (by unfold Region.wanted; rw [hgd])]
        refine .inl ?_
        unfold Oper.wp
        rw [hA, Oper.upon_value, hd]
        have h1U := himp hiU
        refine ih (U.erase i) _ _ _ (fun j => if j = i then .pointer (some ⟨w'.heap.size, 0, none⟩) else p j) hU' (hnd.erase i) hlt' hmem' inv' (st.setA (Nat.le_refl _) (by omega) ho hd (by rw [h.size]; exact hsz) hisz hpp) (fun hm => absurd rfl ((hnd.mem_erase_iff).1 hm).1) (fun hm => absurd rfl ((hnd.mem_erase_iff).1 hm).1) (fun _ _ => ?_) (fun hm => absurd (hin _ (by omega) h1U) hm)
        simp only [if_true]
        exact hPM _ (hpr hiU)
      · obtain rfl : i = m + 1 := by omega
        rw [hos]
        simp only
        rw [if_pos (by unfold Region.wanted; rw [hg])]
        refine .inl ?_
        have isl : ∀ j, Region.waitsFor .any ops (m + 1) j = true → listed.getD j false = true := fun j hj => by
          obtain ⟨o3, h3, e, he, hb, hon⟩ := Region.waitsFor_spec hj
          obtain rfl : o3 = os := Option.some.inj (h3.symm.trans hos)
          obtain ⟨_, o4, h5, hall⟩ := mem_ready.1 hi
          obtain rfl : o4 = o3 := Option.some.inj (h5.symm.trans h3)
          have h7 := hall e he hb
          rw [hon] at h7
          exact h7
        have hml := isl m hw0
        have hmU : m ∉ U := fun hx => by
          have h1 := (hmem m (by omega)).2 hx
          rw [show listed.getD m true = listed.getD m false by simp [show m < listed.size by rw [inv.size]; omega], hml] at h1
          cases h1
        obtain ⟨s1, f1⟩ := h.facts m (Nat.le_refl _)
        obtain ⟨t1, t2⟩ := h.tmps m (Nat.le_refl _)
        rw [h.last] at s1 t1 t2
        obtain ⟨o', d', ho', hd', _, _, hsz, _⟩ := fresh_spec h.z (Nat.le_refl m) (by omega)
        obtain rfl : o' = om := Option.some.inj (ho'.symm.trans hom)
        obtain rfl : d' = dm := Option.some.inj (hd'.symm.trans hdm)
        have same : execOp b.eval os = execOp (A.put (some d') (p m)).eval os := by
          refine execOp_congr os (fun cs b => hsel (m + 1) os cs b hos) fun x hx => ?_
          cases x with
          | tmp t =>
            have key : b.tmps[t]? = (A.put (some d') (p m)).tmps[t]? := by
              have look : t ∈ os.looksAt ops := List.mem_append_left _ (List.mem_filterMap.2 ⟨.tmp t, by simpa using hx, rfl⟩)
              by_cases htd : t = d'
              · subst htd
                rw [st.k m o' t (Nat.le_refl _) (by omega) hom hdm, hml, put_self (by rw [s1]; exact hsz)]; rfl
              · rw [put_other (Ne.symm htd)]
                by_cases hex : ∃ j oj, j < m ∧ ops[j]? = some oj ∧ oj.dst = some t
                · obtain ⟨j, oj, hj, hoj, hdj⟩ := hex
                  rw [st.q j oj t hj hoj hdj, isl j (hwt j hj oj t hoj hdj look), t2 j oj t hj hoj hdj]; rfl
                · have hno : ∀ j o, j < m → ops[j]? = some o → o.dst ≠ some t := fun j o hj ho hd => hex ⟨j, o, hj, ho, hd⟩
                  rw [st.r t, t1 t hno]
                  intro j oj hj hoj hdj
                  by_cases hjm : j < m
                  · exact hno j oj hjm hoj hdj
                  · obtain rfl : j = m := by omega
                    obtain rfl : oj = o' := Option.some.inj (hoj.symm.trans hom)
                    exact htd (Option.some.inj (hdj.symm.trans hdm))
            show b.tmps.getD t undef = (A.put (some d') (p m)).tmps.getD t undef
            simp only [Array.getD_eq_getD_getElem?, key]
          | _ => rfl
        obtain ⟨V', e1, e2⟩ := hE _ w' (hmi hmU hiU)
        unfold Oper.wp
        rw [same, e1, Oper.upon_skip, hdn]
        have st' : Stq ops m (m + 1) a A (listed.setIfInBounds (m + 1) true) p b := by
          refine ⟨st.size, st.defers, fun j o d hj ho hd => ?_, fun j o d h1 h2 ho hd => ?_, st.r⟩
          · rw [getD_set_ne false (by omega)]; exact st.q j o d hj ho hd
          · rw [getD_set_ne false (by omega)]; exact st.k j o d h1 h2 ho hd
        exact ih (U.erase (m + 1)) _ _ _ p hU' (hnd.erase _) hlt' hmem' inv' st' (fun hm => absurd (List.mem_of_mem_erase hm) hmU) (fun hm => absurd (List.mem_of_mem_erase hm) hmU) (fun _ hm => absurd rfl ((hnd.mem_erase_iff).1 hm).1) (fun _ => e2)

/-- The block that is made at any time, and the store into it that may come ahead of operations that do not look at it. -/
theorem put_tail {id : Nat} {Q : Exit → Act → World → Prop} {a A : Act} {w : World} {l : List Oper} (m : Nat) {om os : Oper} {dm : Nat} {z : Obj} (Stq' : World → Nat → World) (hm : P.follows .mixedOrders = true) (hB : putB l.toArray m a.tmps.size = true)
    (hom : l.toArray[m]? = some om) (hdm : om.dst = some dm) (hos : l.toArray[m + 1]? = some os)
    (hA : ∀ ρ w, (execOp ρ om).run P w = .ok (.value (.pointer (some ⟨w.heap.size, 0, none⟩))) (w.alloc z))
    (hS : ∀ V V0, Below w.heap.size w V0 → Below (V0.alloc z).heap.size (V0.alloc z) V → Below w.heap.size w (Stq' V V0.heap.size))
    (H : ∀ V, Below w.heap.size w V → wpQuiet P l.toArray (Gr V) (fun a' => a' = A) (l.take m) a)
    (hE : ∀ V V0, Below w.heap.size w V0 → Below (V0.alloc z).heap.size (V0.alloc z) V → (execOp (A.put (some dm) (.pointer (some ⟨V0.heap.size, 0, none⟩))).eval os).run P V = .ok .skip (Stq' V V0.heap.size))
    (T : ∀ V0 V w', Below w.heap.size w V0 → Below (V0.alloc z).heap.size (V0.alloc z) V → Below (Stq' V V0.heap.size).heap.size (Stq' V V0.heap.size) w' → wpList P l.toArray Q (l.drop (m + 2)) (A.put (some dm) (.pointer (some ⟨V0.heap.size, 0, none⟩))) w') :
    (Code.region id l.toArray true).wp P Q a w := by
  unfold putB at hB
  simp only [Bool.and_eq_true, decide_eq_true_eq] at hB
  obtain ⟨⟨⟨⟨⟨⟨⟨⟨hsel, hn⟩, hs⟩, hc⟩, hseq⟩, hq⟩, hz⟩, hw0⟩, hl⟩ := hB
  have hn' : m + 2 < l.length := by simpa using hn
  obtain ⟨g1, g2, g3, g4⟩ := put_spec hos hl
  refine wp_region_any hm ?_
  have hd : Hd P l.toArray m (m + 1) a.tmps.size a A (Below w.heap.size w) :=
    ⟨by omega, ⟨w, Below.refl _ _⟩, fun i hi => List.all_eq_true.1 hq i (List.mem_range.2 hi), hz, rfl, fun V hV => ⟨l.take m, by simp; omega, fun i hi => by simp [hi], H V hV⟩⟩
  have := hd.puts (Q' := Q) (z := z) (Pre := Below w.heap.size w) (Mid := fun v V => ∃ V0, v = .pointer (some ⟨V0.heap.size, 0, none⟩) ∧ Below w.heap.size w V0 ∧ Below (V0.alloc z).heap.size (V0.alloc z) V)
    (Post := fun v V => ∃ V0 V1, v = .pointer (some ⟨V0.heap.size, 0, none⟩) ∧ Below w.heap.size w V0 ∧ Below (V0.alloc z).heap.size (V0.alloc z) V1 ∧ Below (Stq' V1 V0.heap.size).heap.size (Stq' V1 V0.heap.size) V)
    (Region.noSelect_spec hsel) hn hs hc hseq hom hdm hA hos g1 g2 g3 hw0 g4
    (fun V V' h h' => h.trans (h'.mono h.size)) (fun v V V' h h' => by obtain ⟨V0, e, h0, h1⟩ := h; exact ⟨V0, e, h0, h1.trans (h'.mono h1.size)⟩) (fun v V V' h h' => by obtain ⟨V0, V1, e, h0, h1, h2⟩ := h; exact ⟨V0, V1, e, h0, h1, h2.trans (h'.mono h2.size)⟩)
    (fun V h => h) (fun v V h => by obtain ⟨V0, _, h0, h1⟩ := h; exact alloc_below h0 h1) (fun v V h => by obtain ⟨V0, V1, _, h0, h1, h2⟩ := h; exact (hS V1 V0 h0 h1).trans (h2.mono (hS V1 V0 h0 h1).size))
    (fun V h => ⟨V, rfl, h, Below.refl _ _⟩) (fun v V h => by obtain ⟨V0, e, h0, h1⟩ := h; exact ⟨Stq' V V0.heap.size, by rw [e]; exact hE V V0 h0 h1, V0, V, e, h0, h1, Below.refl _ _⟩)
    (tl := l.drop (m + 2)) (fun j => by simp [List.getElem?_drop]) (by simp) (fun v w' h => by obtain ⟨V0, V1, e, h0, h1, h2⟩ := h; rw [e]; exact T V0 V1 w' h0 h1 h2)
    (m + 2) (List.range (m + 2)) (Array.replicate l.toArray.size false) a w.drew (fun _ => undef) (by simp) List.nodup_range (fun j hj => List.mem_range.1 hj)
    (fun j hj => ⟨fun _ => List.mem_range.2 hj, fun _ => getD_in (by simp; omega) (getD_replicate_false _ _)⟩) ⟨by simp, fun j oj _ hl => (by rw [getD_replicate_false] at hl; cases hl), fun t _ ht => getD_in (by simpa using ht) (getD_replicate_false _ _)⟩
    ⟨rfl, rfl, fun j o d _ _ _ => (by rw [getD_replicate_false]; rfl), fun j o d _ _ _ _ => (by rw [getD_replicate_false]; rfl), fun t _ => rfl⟩ (fun _ => List.mem_range.2 (by omega)) (fun _ => (Below.refl _ _).drew) (fun hx => absurd (List.mem_range.2 (by omega)) hx) (fun hx => absurd (List.mem_range.2 (by omega)) hx)
  rw [show m + 2 + (l.drop (m + 2)).length = l.toArray.size by simp; omega] at this
  exact this
end
end Go.Proofs.YtncpjgpioajbeaaGreatDoor

import Derived.Test.YtifenjinbjlfdaaDoorQPut
/- A region that draws its order: its first m operations are quiet, operations m and m + 1 make blocks at any time, operation m + 2 stores into the first as soon as what it waits for is there ('x, y := f(g(), a)'), behind it the order is forced. -/
namespace Go.Proofs.YtifenjinbjlfdaaDoor
open Go.RowKit Go.Sort

section
variable {P : Program} {ops : Array Oper}

def put2B (ops : Array Oper) (m sz : Nat) : Bool :=
  Region.noSelect ops && decide (m + 3 < ops.size) && Region.sinkB .any ops (m + 3) && Region.chainB .any ops (m + 3) &&
  Region.seqB .any ops (ops.size - (m + 3)) (m + 3) (headAll ops.size (m + 3)) && (List.range m).all (quietB ops (m + 2) sz) && freshB ops m (m + 2) sz && Region.waitsFor .any ops (m + 2) m &&
  (match ops[m + 2]? with
    | some o => o.guard.isNone && o.dst.isNone && o.after.all (fun e => decide (e.on < m + 2)) &&
        (List.range (m + 2)).all fun j => decide (j = m) || (match ops[j]? with
          | some oj => (match oj.dst with | some d => !(o.looksAt ops).contains d || Region.waitsFor .any ops (m + 2) j | none => true)
          | none => false)
    | none => false)

theorem put2_spec {m : Nat} {o : Oper} (ho : ops[m + 2]? = some o) (h : (match ops[m + 2]? with
    | some o => o.guard.isNone && o.dst.isNone && o.after.all (fun e => decide (e.on < m + 2)) &&
        (List.range (m + 2)).all fun j => decide (j = m) || (match ops[j]? with
          | some oj => (match oj.dst with | some d => !(o.looksAt ops).contains d || Region.waitsFor .any ops (m + 2) j | none => true)
          | none => false)
    | none => false) = true) : o.guard = none ∧ o.dst = none ∧ (∀ e ∈ o.after, e.on < m + 2) ∧ ∀ j, j < m + 2 → j ≠ m → ∀ oj t, ops[j]? = some oj → oj.dst = some t → t ∈ o.looksAt ops → Region.waitsFor .any ops (m + 2) j = true := by
  rw [ho] at h
  simp only [Bool.and_eq_true] at h
  obtain ⟨⟨⟨hg, hd⟩, ha⟩, hp⟩ := h
  refine ⟨by simpa using hg, by simpa using hd, fun e he => ?_, fun j hj hjm oj t hoj ht hl => ?_⟩
  · have := Array.all_eq_true'.1 ha e he
    simpa using this
  · have h1 := List.all_eq_true.1 hp j (List.mem_range.2 hj)
    rw [hoj] at h1
    simp only [hjm, decide_false, Bool.false_or, ht, Bool.or_eq_true, Bool.not_eq_true', List.contains_eq_mem, decide_eq_false_iff_not] at h1
    rcases h1 with h1 | h1
    · exact absurd hl h1
    · exact h1

variable {m sz : Nat} {a A : Act} {D : World → Prop} {om o2 os : Oper} {dm d2 : Nat} {z : Obj}

/-- The act behind the head. -/
theorem Stq.made2 {p : Nat → Value} {b : Act} {listed : Array Bool} (h : Hd P ops m (m + 2) sz a A D) (st : Stq ops m (m + 2) a A listed p b) (hall : ∀ j, j < m + 2 → listed.getD j false = true) {o o2 : Oper} {d d2 : Nat} (ho : ops[m]? = some o) (hd : o.dst = some d)
    (ho2 : ops[m + 1]? = some o2) (hd2 : o2.dst = some d2) : b = (A.put (some d) (p m)).put (some d2) (p (m + 1)) := by
  obtain ⟨s1, f1⟩ := h.facts m (Nat.le_refl _)
  obtain ⟨t1, t2⟩ := h.tmps m (Nat.le_refl _)
  rw [h.last] at s1 f1 t1 t2
  obtain ⟨o', d', ho', hd', _, _, hsz, hpp⟩ := fresh_spec h.z (Nat.le_refl m) (by omega)
  obtain rfl : o' = o := Option.some.inj (ho'.symm.trans ho)
  obtain rfl : d' = d := Option.some.inj (hd'.symm.trans hd)
  obtain ⟨o3, d3, ho3, hd3, _, _, hsz2, _⟩ := fresh_spec h.z (k := m + 1) (by omega) (by omega)
  obtain rfl : o3 = o2 := Option.some.inj (ho3.symm.trans ho2)
  obtain rfl : d3 = d2 := Option.some.inj (hd3.symm.trans hd2)
  have hne : d3 ≠ d' := fun e => by
    obtain ⟨oj, hoj, hx⟩ := hpp (m + 1) (by omega) (by omega)
    obtain rfl : oj = o3 := Option.some.inj (hoj.symm.trans ho2)
    exact hx (by rw [hd2, e])
  have ht : b.tmps = ((A.put (some d') (p m)).put (some d3) (p (m + 1))).tmps := by
    apply Array.ext'
    apply List.ext_getElem?
    intro t
    rw [Array.getElem?_toList, Array.getElem?_toList]
    by_cases ht2 : t = d3
    · subst ht2
      rw [st.k (m + 1) o3 t (by omega) (by omega) ho2 hd2, hall _ (by omega), put_self (by rw [put_size, s1]; exact hsz2)]; rfl
    · rw [put_other (Ne.symm ht2)]
      by_cases htd : t = d'
      · subst htd
        rw [st.k m o' t (Nat.le_refl _) (by omega) ho hd, hall _ (by omega), put_self (by rw [s1]; exact hsz)]; rfl
      · rw [put_other (Ne.symm htd)]
        by_cases hex : ∃ j oj, j < m ∧ ops[j]? = some oj ∧ oj.dst = some t
        · obtain ⟨j, oj, hj, hoj, hdj⟩ := hex
          rw [st.q j oj t hj hoj hdj, hall _ (by omega), t2 j oj t hj hoj hdj]; rfl
        · have hno : ∀ j o, j < m → ops[j]? = some o → o.dst ≠ some t := fun j o hj ho hd => hex ⟨j, o, hj, ho, hd⟩
          rw [st.r t, t1 t hno]
          intro j oj hj hoj hdj
          by_cases hjm : j < m
          · exact hno j oj hjm hoj hdj
          · by_cases hj1 : j = m
            · subst hj1
              obtain rfl : oj = o' := Option.some.inj (hoj.symm.trans ho)
              exact htd (Option.some.inj (hdj.symm.trans hd))
            · obtain rfl : j = m + 1 := by omega
              obtain rfl : oj = o3 := Option.some.inj (hoj.symm.trans ho2)
              exact ht2 (Option.some.inj (hdj.symm.trans hd2))
  cases b with
  | mk bt bd =>
    have hd : bd = a.defers := st.defers
    have ht' : bt = ((A.put (some d') (p m)).put (some d3) (p (m + 1))).tmps := ht
    rw [hd, ht', ← f1]; rfl

/-- What is made so far. -/
def mk2 (U : List Nat) (k : Nat) (v : Value) : Option Value := if k ∈ U then none else some v
theorem Hd.puts2 (h : Hd P ops m (m + 2) sz a A D) {Q' : Exit → Act → World → Prop} (Inv : Option Value → Option Value → Prop → World → Prop) (hsel : ∀ (j : Nat) (o : Oper) cs b, ops[j]? = some o → o.op ≠ .select cs b)
    (hn : m + 3 < ops.size) (hs : Region.sinkB .any ops (m + 3) = true) (hc : Region.chainB .any ops (m + 3) = true) (hseq : Region.seqB .any ops (ops.size - (m + 3)) (m + 3) (headAll ops.size (m + 3)) = true)
    (hom : ops[m]? = some om) (hdm : om.dst = some dm) (hA : ∀ ρ w, (execOp ρ om).run P w = .ok (.value (.pointer (some ⟨w.heap.size, 0, none⟩))) (w.alloc z))
    (ho2 : ops[m + 1]? = some o2) (hd2 : o2.dst = some d2) (hA2 : ∀ ρ w, (execOp ρ o2).run P w = .ok (.value (.pointer (some ⟨w.heap.size, 0, none⟩))) (w.alloc z))
    (hos : ops[m + 2]? = some os) (hg : os.guard = none) (hdn : os.dst = none) (haf : ∀ e ∈ os.after, e.on < m + 2) (hw0 : Region.waitsFor .any ops (m + 2) m = true)
    (hnl : d2 ∉ os.looksAt ops) (hwt : ∀ j, j < m + 2 → j ≠ m → ∀ oj t, ops[j]? = some oj → oj.dst = some t → t ∈ os.looksAt ops → Region.waitsFor .any ops (m + 2) j = true)
    (hK : ∀ x y s V V', Inv x y s V → Below V.heap.size V V' → Inv x y s V') (hD : ∀ x y s V, Inv x y s V → D V)
    (hI1 : ∀ y V, Inv none y False V → Inv (some (.pointer (some ⟨V.heap.size, 0, none⟩))) y False (V.alloc z)) (hI2 : ∀ x s V, Inv x none s V → Inv x (some (.pointer (some ⟨V.heap.size, 0, none⟩))) s (V.alloc z))
    (hE : ∀ v y V, Inv (some v) y False V → ∃ V', (execOp (A.put (some dm) v).eval os).run P V = .ok .skip V' ∧ Inv (some v) y True V')
    {tl : List Oper} (htl : ∀ j, tl[j]? = ops[m + 3 + j]?) (hlen : tl.length = ops.size - (m + 3))
    (T : ∀ v v2 w', Inv (some v) (some v2) True w' → wpList P ops Q' tl ((A.put (some dm) v).put (some d2) v2) w') :
    ∀ (f : Nat) (U : List Nat) (listed : Array Bool) (b : Act) (w' : World) (p : Nat → Value), U.length = f → U.Nodup → (∀ j, j ∈ U → j < m + 3) → (∀ j, j < m + 3 → (listed.getD j true = false ↔ j ∈ U)) →
      HeadInv .any ops (m + 3) listed → Stq ops m (m + 2) a A listed p b → (m ∈ U → m + 2 ∈ U) → Inv (mk2 U m (p m)) (mk2 U (m + 1) (p (m + 1))) (m + 2 ∉ U) w' → wpAny P .any ops Q' (f + tl.length) listed b w' := by
  intro f
  induction f with
  | zero =>
    intro U listed b w' p hU _ _ hmem inv st _ hI
    have hU0 : U = [] := List.length_eq_zero_iff.1 hU
    subst hU0
    have hall : ∀ j, j < m + 3 → listed.getD j false = true := fun j hj => by
      have h1 : ¬ listed.getD j true = false := fun h => by have := (hmem j hj).1 h; cases this
      cases hv : listed.getD j false with
      | true => rfl
      | false => exact absurd (getD_in (by rw [inv.size]; omega) hv) h1
    have eb := st.made2 h (fun j hj => hall j (by omega)) hom hdm ho2 hd2
    have el := head_listed inv hall
    subst el; subst eb
    rw [Nat.zero_add]
    refine wpAny_of_seq tl (m + 3) _ _ _ htl (by rw [hlen]; exact hseq) (T _ _ w' ?_)
    have e1 : (m + 2 ∉ ([] : List Nat)) = True := by simp
    rw [e1] at hI
    exact hI
  | succ f ih =>
    intro U listed b w' p hU hnd hlt hmem inv st himp hI
    have hDw := hD _ _ _ _ hI
    obtain ⟨j0, hj0, hmin⟩ := least U (fun e => by rw [e] at hU; cases hU)
    have hj0m := hlt j0 hj0
    have hr0 : j0 ∈ Region.ready .any ops listed := by
      rw [mem_ready]
      refine ⟨(hmem j0 hj0m).2 hj0, ?_⟩
      have lst : ∀ k, k < j0 → listed.getD k false = true := fun k hk => by
        cases hv : listed.getD k false with
        | true => rfl
        | false =>
          have := hmin k ((hmem k (by omega)).1 (getD_in (by rw [inv.size]; omega) hv))
          omega
      by_cases hjm : j0 < m
      · obtain ⟨o, d, ho, _, _, hl, _⟩ := quiet_spec (h.q j0 hjm)
        exact ⟨o, ho, fun e he hb => lst _ (hl e he hb)⟩
      · by_cases hj1 : j0 < m + 2
        · obtain ⟨o, d, ho, _, _, ha, _, _⟩ := fresh_spec h.z (k := j0) (by omega) hj1
          exact ⟨o, ho, fun e he => by rw [ha] at he; simp at he⟩
        · obtain rfl : j0 = m + 2 := by omega
          exact ⟨os, hos, fun e he _ => lst _ (haf e he)⟩
    have only := head_only hs hc hn inv hj0m hr0
    rw [show f + 1 + tl.length = (f + tl.length) + 1 by omega]
    refine ⟨fun h0 => absurd h0 (List.ne_nil_of_mem hr0), fun i hi => ?_⟩
    have him := only i hi
    have hiU : i ∈ U := (hmem i him).1 (mem_ready.1 hi).1
    have hisz : i < listed.size := by rw [inv.size]; omega
    have hU' : (U.erase i).length = f := by rw [List.length_erase_of_mem hiU, hU]; rfl
    have hmem' : ∀ j, j < m + 3 → ((listed.setIfInBounds i true).getD j true = false ↔ j ∈ U.erase i) := fun j hj => by
      rw [hnd.mem_erase_iff]
      by_cases hji : j = i
      · subst hji
        simp [hisz]
      · rw [getD_set_ne true (Ne.symm hji)]
        simp only [hji, ne_eq, not_false_eq_true, true_and]
        exact hmem j hj
    have hlt' : ∀ j, j ∈ U.erase i → j < m + 3 := fun j hj => hlt j (List.mem_of_mem_erase hj)
    have same2 : ∀ k v, k ≠ i → mk2 (U.erase i) k v = mk2 U k v := fun k v hk => by
      unfold mk2
      simp only [hnd.mem_erase_iff, hk, ne_eq, not_false_eq_true, true_and]
    have sameP : m + 2 ≠ i → (m + 2 ∉ U.erase i) = (m + 2 ∉ U) := fun hk => by simp only [hnd.mem_erase_iff, hk, ne_eq, not_false_eq_true, true_and]
    have hin : ∀ k, k ≠ i → k ∈ U → k ∈ U.erase i := fun k hk hU => (hnd.mem_erase_iff).2 ⟨hk, hU⟩
    have self2 : ∀ v, mk2 (U.erase i) i v = some v := fun v => by
      unfold mk2
      rw [if_neg (fun hx => absurd rfl ((hnd.mem_erase_iff).1 hx).1)]
    have inv' := inv.set hi him
    unfold wpOp
    by_cases hie : i < m
    · obtain ⟨o, d, ho, hd, hsz, hpp, _, hyl⟩ := h.at hsel st hie hi hDw
      rw [ho]
      simp only
      have go : ∀ w'', Gr w' w'' → wpAny P .any ops Q' (f + tl.length) (listed.setIfInBounds i true) (b.put (some d) (A.tmps.getD d undef)) w'' := fun w'' hg' => by
        refine ih (U.erase i) _ _ _ p hU' (hnd.erase i) hlt' hmem' inv' (st.setQ h.mn hie ho hd (by rw [h.size]; exact hsz) hisz hpp) (fun hm => hin _ (by omega) (himp (List.mem_of_mem_erase hm))) ?_
        rw [same2 _ _ (by omega), same2 _ _ (by omega), sameP (by omega)]
        exact hK _ _ _ _ _ hI hg'.below
      rcases hyl with ⟨hwt, _⟩ | ⟨hwt, hund⟩
      · rw [if_pos hwt]
        refine .inl (Oper.wp_of_quiet (C := Gr w') (K := fun b' => b' = b.put (some d) (A.tmps.getD d undef)) (Gr.self w') (fun b' w'' hg' e => by rw [e]; exact go w'' hg') ⟨A.tmps.getD d undef, fun V hV => ?_, by rw [hd]⟩)
        obtain ⟨o2, d2, ho2, hd2, _, _, _, hy⟩ := h.at hsel st hie hi (hD _ _ _ _ (hK _ _ _ _ _ hI hV.below))
        obtain rfl : o2 = o := Option.some.inj (ho2.symm.trans ho)
        obtain rfl : d2 = d := Option.some.inj (hd2.symm.trans hd)
        rcases hy with ⟨_, hy⟩ | ⟨hw2, _⟩
        · exact quietAt_mono (fun x hx => hV.trans hx) hy
        · rw [hwt] at hw2; cases hw2
      · rw [if_neg (by rw [hwt]; exact Bool.false_ne_true), hd, ← hund]
        exact go w' (Gr.self w')
    · by_cases hi1 : i = m
      · subst hi1
        obtain ⟨o, d, ho, hd, hgd, _, hsz, hpp⟩ := fresh_spec h.z (Nat.le_refl i) (by omega)
        obtain rfl : o = om := Option.some.inj (ho.symm.trans hom)
        obtain rfl : d = dm := Option.some.inj (hd.symm.trans hdm)
        rw [ho]
        simp only
        rw [if_pos (by unfold Region.wanted; rw [hgd])]
        refine .inl ?_
        unfold Oper.wp
        rw [hA, Oper.upon_value, hd]
        have h1U := himp hiU
        refine ih (U.erase i) _ _ _ (fun j => if j = i then .pointer (some ⟨w'.heap.size, 0, none⟩) else p j) hU' (hnd.erase i) hlt' hmem' inv' (st.setA (Nat.le_refl _) (by omega) ho hd (by rw [h.size]; exact hsz) hisz hpp) (fun hm => absurd rfl ((hnd.mem_erase_iff).1 hm).1) ?_
        rw [self2, same2 _ _ (by omega), sameP (by omega)]
        simp only [if_true, show ¬ i + 1 = i by omega, if_false]
        have e0 : mk2 U i (p i) = none := by unfold mk2; rw [if_pos hiU]
        have ef : (i + 2 ∉ U) = False := by simp [h1U]
        rw [e0, ef] at hI
        rw [ef]
        exact hI1 _ _ hI
      · by_cases hi2 : i = m + 1
        · subst hi2
          obtain ⟨o, d, ho, hd, hgd, _, hsz, hpp⟩ := fresh_spec h.z (k := m + 1) (by omega) (by omega)
          obtain rfl : o = o2 := Option.some.inj (ho.symm.trans ho2)
          obtain rfl : d = d2 := Option.some.inj (hd.symm.trans hd2)
          rw [ho]
          simp only
          rw [if_pos (by unfold Region.wanted; rw [hgd])]
          refine .inl ?_
          unfold Oper.wp
          rw [hA2, Oper.upon_value, hd]
          refine ih (U.erase (m + 1)) _ _ _ (fun j => if j = m + 1 then .pointer (some ⟨w'.heap.size, 0, none⟩) else p j) hU' (hnd.erase _) hlt' hmem' inv' (st.setA (by omega) (by omega) ho hd (by rw [h.size]; exact hsz) hisz hpp) (fun hm => hin _ (by omega) (himp (List.mem_of_mem_erase hm))) ?_
          rw [self2, same2 _ _ (by omega), sameP (by omega)]
          simp only [if_true, show ¬ m = m + 1 by omega, if_false]
          have e0 : mk2 U (m + 1) (p (m + 1)) = none := by unfold mk2; rw [if_pos hiU]
          rw [e0] at hI
          exact hI2 _ _ _ hI
        · obtain rfl : i = m + 2 := by omega
          rw [hos]
          simp only
          rw [if_pos (by unfold Region.wanted; rw [hg])]
          refine .inl ?_
          have isl : ∀ j, Region.waitsFor .any ops (m + 2) j = true → listed.getD j false = true := fun j hj => by
            obtain ⟨o3, h3, e, he, hb, hon⟩ := Region.waitsFor_spec hj
            obtain rfl : o3 = os := Option.some.inj (h3.symm.trans hos)
            obtain ⟨_, o4, h5, hall⟩ := mem_ready.1 hi
            obtain rfl : o4 = o3 := Option.some.inj (h5.symm.trans h3)
            have h7 := hall e he hb
            rw [hon] at h7
            exact h7
          have hml := isl m hw0
          have hmU : m ∉ U := fun hx => by
            have h1 := (hmem m (by omega)).2 hx
            rw [show listed.getD m true = listed.getD m false by simp [show m < listed.size by rw [inv.size]; omega], hml] at h1
            cases h1
          obtain ⟨s1, f1⟩ := h.facts m (Nat.le_refl _)
          obtain ⟨t1, t2⟩ := h.tmps m (Nat.le_refl _)
          rw [h.last] at s1 t1 t2
          obtain ⟨o', d', ho', hd', _, _, hsz, _⟩ := fresh_spec h.z (Nat.le_refl m) (by omega)
          obtain rfl : o' = om := Option.some.inj (ho'.symm.trans hom)
          obtain rfl : d' = dm := Option.some.inj (hd'.symm.trans hdm)
          have same : execOp b.eval os = execOp (A.put (some d') (p m)).eval os := by
            refine execOp_congr os (fun cs b => hsel (m + 2) os cs b hos) fun x hx => ?_
            cases x with
            | tmp t =>
              have key : b.tmps[t]? = (A.put (some d') (p m)).tmps[t]? := by
                have look : t ∈ os.looksAt ops := List.mem_append_left _ (List.mem_filterMap.2 ⟨.tmp t, by simpa using hx, rfl⟩)
                by_cases htd : t = d'
                · subst htd
                  rw [st.k m o' t (Nat.le_refl _) (by omega) hom hdm, hml, put_self (by rw [s1]; exact hsz)]; rfl
                · rw [put_other (Ne.symm htd)]
                  by_cases hex : ∃ j oj, j < m ∧ ops[j]? = some oj ∧ oj.dst = some t
                  · obtain ⟨j, oj, hj, hoj, hdj⟩ := hex
                    rw [st.q j oj t hj hoj hdj, isl j (hwt j (by omega) (by omega) oj t hoj hdj look), t2 j oj t hj hoj hdj]; rfl
                  · have hno : ∀ j o, j < m → ops[j]? = some o → o.dst ≠ some t := fun j o hj ho hd => hex ⟨j, o, hj, ho, hd⟩
                    by_cases hx2 : t = d2
                    · subst hx2
                      exact absurd look hnl
                    · rw [st.r t, t1 t hno]
                      intro j oj hj hoj hdj
                      by_cases hjm : j < m
                      · exact hno j oj hjm hoj hdj
                      · by_cases hjm1 : j = m
                        · subst hjm1
                          obtain rfl : oj = o' := Option.some.inj (hoj.symm.trans hom)
                          exact htd (Option.some.inj (hdj.symm.trans hdm))
                        · obtain rfl : j = m + 1 := by omega
                          obtain rfl : oj = o2 := Option.some.inj (hoj.symm.trans ho2)
                          exact hx2 (Option.some.inj (hdj.symm.trans hd2))
              show b.tmps.getD t undef = (A.put (some d') (p m)).tmps.getD t undef
              simp only [Array.getD_eq_getD_getElem?, key]
            | _ => rfl
          have e0 : mk2 U m (p m) = some (p m) := by unfold mk2; rw [if_neg hmU]
          have ef : (m + 2 ∉ U) = False := by simp [hiU]
          rw [e0, ef] at hI
          obtain ⟨V', e1, e2⟩ := hE _ _ w' hI
          unfold Oper.wp
          rw [same, e1, Oper.upon_skip, hdn]
          have st' : Stq ops m (m + 2) a A (listed.setIfInBounds (m + 2) true) p b := by
            refine ⟨st.size, st.defers, fun j o d hj ho hd => ?_, fun j o d h1 h2 ho hd => ?_, st.r⟩
            · rw [getD_set_ne false (by omega)]; exact st.q j o d hj ho hd
            · rw [getD_set_ne false (by omega)]; exact st.k j o d h1 h2 ho hd
          refine ih (U.erase (m + 2)) _ _ _ p hU' (hnd.erase _) hlt' hmem' inv' st' (fun hm => absurd (List.mem_of_mem_erase hm) hmU) ?_
          rw [same2 _ _ (by omega), same2 _ _ (by omega), e0]
          have et : (m + 2 ∉ U.erase (m + 2)) = True := by simp [hnd.mem_erase_iff]
          rw [et]
          exact e2

/-- The state: the first block, the second one, whether the first is written. -/
def Inv2 (w : World) (n : Int) (x y : Option Value) (s : Prop) (V : World) : Prop :=
  Below w.heap.size w V ∧ (∀ v, x = some v → ∃ b, v = .pointer (some ⟨b, 0, none⟩) ∧ w.heap.size ≤ b ∧ (s → Var V b n) ∧ (¬ s → Blank V b)) ∧
  (∀ v, y = some v → ∃ b, v = .pointer (some ⟨b, 0, none⟩) ∧ w.heap.size ≤ b ∧ Blank V b) ∧ (∀ v v2, x = some v → y = some v2 → v ≠ v2)
theorem Blank.lt' {W : World} {b : Nat} (h : Blank W b) : b < W.heap.size := h.1.lt (by simp)
theorem Blank.zeroV {W : World} {b : Nat} (h : Blank W b) : Var W b 0 := by
  obtain ⟨z0, z1, z2, z3⟩ : l0 0 = 0 ∧ l1 0 = 0 ∧ l2 0 = 0 ∧ l3 0 = 0 := by decide
  refine ⟨Row.hold ?_, h.2⟩
  rw [z0, z1, z2, z3]; exact h.1
/-- 'x, y := f(.., g(..))', x and y numbers in new blocks: whatever comes first. -/
theorem put2_num {id : Nat} {Q : Exit → Act → World → Prop} {a A : Act} {w : World} {l : List Oper} (m : Nat) {om o2 os : Oper} {dm d2 : Nat} (n : Int) (hm : Tryd.prog.follows .mixedOrders = true) (hB : put2B l.toArray m a.tmps.size = true)
    (hom : l.toArray[m]? = some om) (hdm : om.dst = some dm) (ho2 : l.toArray[m + 1]? = some o2) (hd2 : o2.dst = some d2) (hos : l.toArray[m + 2]? = some os) (hnl : (os.looksAt l.toArray).contains d2 = false)
    (hA : ∀ ρ w, (execOp ρ om).run Tryd.prog w = .ok (.value (.pointer (some ⟨w.heap.size, 0, none⟩))) (w.alloc (.cells #[.int .u64 0, .int .u64 0, .int .u64 0, .int .u64 0] 24)))
    (hA2 : ∀ ρ w, (execOp ρ o2).run Tryd.prog w = .ok (.value (.pointer (some ⟨w.heap.size, 0, none⟩))) (w.alloc (.cells #[.int .u64 0, .int .u64 0, .int .u64 0, .int .u64 0] 24)))
    (H : ∀ V, Below w.heap.size w V → wpQuiet Tryd.prog l.toArray (Gr V) (fun a' => a' = A) (l.take m) a)
    (hE : ∀ V b, Blank V b → (execOp (A.put (some dm) (.pointer (some ⟨b, 0, none⟩))).eval os).run Tryd.prog V = .ok .skip ((((V.setCell ⟨b, 0, none⟩ (.int .u64 (l0 n))).setCell ⟨b, 1, none⟩ (.int .u64 (l1 n))).setCell ⟨b, 2, none⟩ (.int .u64 (l2 n))).setCell ⟨b, 3, none⟩ (.int .u64 (l3 n))))
    (T : ∀ b b2 w', b ≠ b2 → w.heap.size ≤ b → w.heap.size ≤ b2 → Below w.heap.size w w' → Var w' b n → Blank w' b2 → wpList Tryd.prog l.toArray Q (l.drop (m + 3)) ((A.put (some dm) (.pointer (some ⟨b, 0, none⟩))).put (some d2) (.pointer (some ⟨b2, 0, none⟩))) w') :
    (Code.region id l.toArray true).wp Tryd.prog Q a w := by
  unfold put2B at hB
  simp only [Bool.and_eq_true, decide_eq_true_eq] at hB
  obtain ⟨⟨⟨⟨⟨⟨⟨⟨hsel, hn⟩, hs⟩, hc⟩, hseq⟩, hq⟩, hz⟩, hw0⟩, hl⟩ := hB
  have hn' : m + 3 < l.length := by simpa using hn
  obtain ⟨g1, g2, g3, g4⟩ := put2_spec hos hl
  refine wp_region_any hm ?_
  have hd : Hd Tryd.prog l.toArray m (m + 2) a.tmps.size a A (Below w.heap.size w) :=
    ⟨by omega, ⟨w, Below.refl _ _⟩, fun i hi => List.all_eq_true.1 hq i (List.mem_range.2 hi), hz, rfl, fun V hV => ⟨l.take m, by simp; omega, fun i hi => by simp [hi], H V hV⟩⟩
  have := hd.puts2 (Q' := Q) (Inv2 w n) (Region.noSelect_spec hsel) hn hs hc hseq hom hdm hA ho2 hd2 hA2 hos g1 g2 g3 hw0 (by simpa using hnl) g4
    (fun x y s V V' ⟨h1, h2, h3, h4⟩ hb => ⟨h1.trans (hb.mono h1.size), fun v hv => by obtain ⟨b, e, g, p, q⟩ := h2 v hv; exact ⟨b, e, g, fun hs => (p hs).keep hb, fun hs => (q hs).keep hb⟩, fun v hv => by obtain ⟨b, e, g, q⟩ := h3 v hv; exact ⟨b, e, g, q.keep hb⟩, h4⟩)
    (fun x y s V h => h.1)
    (fun y V ⟨h1, _, h3, _⟩ => ⟨h1.alloc h1.size _, fun v hv => ⟨V.heap.size, (Option.some.inj hv).symm, h1.size, fun h => h.elim, fun _ => Blank.new rfl⟩, fun v hv => by obtain ⟨b, e, g, q⟩ := h3 v hv; exact ⟨b, e, g, q.alloc _⟩, fun v v2 hv hv2 e => by
      obtain ⟨b, e2, g, q⟩ := h3 v2 hv2
      have := q.lt'
      rw [← Option.some.inj hv, e2] at e
      have e3 : V.heap.size = b := by injection e with e; injection e with e; injection e
      omega⟩)
    (fun x s V ⟨h1, h2, _, _⟩ => ⟨h1.alloc h1.size _, fun v hv => by obtain ⟨b, e, g, p, q⟩ := h2 v hv; exact ⟨b, e, g, fun hs => (p hs).alloc _, fun hs => (q hs).alloc _⟩, fun v hv => ⟨V.heap.size, (Option.some.inj hv).symm, h1.size, Blank.new rfl⟩, fun v v2 hv hv2 e => by
      obtain ⟨b, e2, g, p, q⟩ := h2 v hv
      have : b < V.heap.size := by
        by_cases hs : s
        · exact (p hs).1.row.lt (by simp)
        · exact (q hs).lt'
      rw [← Option.some.inj hv2, e2] at e
      have e3 : b = V.heap.size := by injection e with e; injection e with e; injection e
      omega⟩)
    (fun v y V ⟨h1, h2, h3, h4⟩ => by
      obtain ⟨b, e, g, _, q⟩ := h2 v rfl
      have q := q (fun h => h)
      refine ⟨_, by rw [e]; exact hE V b q, below_set4 h1 g _ _ _ _, fun v' hv => ?_, fun v2 hv2 => ?_, h4⟩
      · obtain rfl : v = v' := Option.some.inj hv
        exact ⟨b, e, g, fun _ => (q.zeroV).sets n, fun h => absurd trivial h⟩
      · obtain ⟨b2, e2, g2, q2⟩ := h3 v2 hv2
        have ne : b ≠ b2 := fun eb => h4 v v2 rfl hv2 (by rw [e, e2, eb])
        exact ⟨b2, e2, g2, q2.set4 ne _ _ _ _⟩)
    (tl := l.drop (m + 3)) (fun j => by simp [List.getElem?_drop]) (by simp)
    (fun v v2 w' ⟨h1, h2, h3, h4⟩ => by
      obtain ⟨b, e, g, p, _⟩ := h2 v rfl
      obtain ⟨b2, e2, g2, q2⟩ := h3 v2 rfl
      have ne : b ≠ b2 := fun eb => h4 v v2 rfl rfl (by rw [e, e2, eb])
      rw [e, e2]
      exact T b b2 w' ne g g2 h1 (p trivial) q2)
    (m + 3) (List.range (m + 3)) (Array.replicate l.toArray.size false) a w.drew (fun _ => undef) (by simp) List.nodup_range (fun j hj => List.mem_range.1 hj)
    (fun j hj => ⟨fun _ => List.mem_range.2 hj, fun _ => getD_in (by simp; omega) (getD_replicate_false _ _)⟩) ⟨by simp, fun j oj _ hl => (by rw [getD_replicate_false] at hl; cases hl), fun t _ ht => getD_in (by simpa using ht) (getD_replicate_false _ _)⟩
    ⟨rfl, rfl, fun j o d _ _ _ => (by rw [getD_replicate_false]; rfl), fun j o d _ _ _ _ => (by rw [getD_replicate_false]; rfl), fun t _ => rfl⟩ (fun _ => List.mem_range.2 (by omega))
    (by
      have e1 : mk2 (List.range (m + 3)) m ((fun _ => undef) m) = none := by unfold mk2; rw [if_pos (List.mem_range.2 (by omega))]
      have e2 : mk2 (List.range (m + 3)) (m + 1) ((fun _ => undef) (m + 1)) = none := by unfold mk2; rw [if_pos (List.mem_range.2 (by omega))]
      rw [e1, e2]
      have h0 : Below w.heap.size w w.drew := (Below.refl _ _).drew
      unfold Inv2
      exact ⟨h0, (fun v h => nomatch h), (fun v h => nomatch h), (fun v v2 h => nomatch h)⟩)
  rw [show m + 3 + (l.drop (m + 3)).length = l.toArray.size by simp; omega] at this
  exact this
end
end Go.Proofs.YtifenjinbjlfdaaDoor

import Derived.Test.YtifenjinbjlfdaaDoorQAlloc
/- A region that draws its order: its first m operations are quiet, operation m stores and may come as soon as what it waits for is there, behind it the order is forced. -/
namespace Go.Proofs.YtifenjinbjlfdaaDoor
open Go.RowKit Go.Sort

section
variable {P : Program} {ops : Array Oper}

variable {m sz : Nat} {a A : Act} {Pre Post : World → Prop} {om : Oper}

theorem Stq.none {p : Nat → Value} {b : Act} {D : World → Prop} {listed : Array Bool} (h : Hd P ops m m sz a A D) (st : Stq ops m m a A listed p b) (hall : ∀ j, j < m → listed.getD j false = true) : b = A := by
  obtain ⟨s1, f1⟩ := h.facts m (Nat.le_refl _)
  obtain ⟨t1, t2⟩ := h.tmps m (Nat.le_refl _)
  rw [h.last] at s1 f1 t1 t2
  have ht : b.tmps = A.tmps := by
    apply Array.ext'
    apply List.ext_getElem?
    intro t
    rw [Array.getElem?_toList, Array.getElem?_toList]
    by_cases hex : ∃ j oj, j < m ∧ ops[j]? = some oj ∧ oj.dst = some t
    · obtain ⟨j, oj, hj, hoj, hdj⟩ := hex
      rw [st.q j oj t hj hoj hdj, hall j hj, t2 j oj t hj hoj hdj]; rfl
    · have hno : ∀ j o, j < m → ops[j]? = some o → o.dst ≠ some t := fun j o hj ho hd => hex ⟨j, o, hj, ho, hd⟩
      rw [st.r t hno, t1 t hno]
  cases b with
  | mk bt bd =>
    have hd : bd = a.defers := st.defers
    have ht' : bt = A.tmps := ht
    rw [hd, ht', ← f1]

end
end Go.Proofs.YtifenjinbjlfdaaDoor

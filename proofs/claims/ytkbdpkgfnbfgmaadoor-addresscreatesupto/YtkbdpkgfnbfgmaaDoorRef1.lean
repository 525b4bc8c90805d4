import Derived.Test.YtkbdpkgfnbfgmaaDoorHold
import Derived.Test.YtkbdpkgfnbfgmaaDoorRefNum
import Derived.Test.YtkbdpkgfnbfgmaaDoorLeaf
import Derived.LoopN
import Derived.BigRegion
import Derived.Deep.RegionWith
import Derived.Test.YtkbdpkgfnbfgmaaDoorQAlloc
import Derived.Test.YtkbdpkgfnbfgmaaDoorCmp
namespace Go.Proofs.YtkbdpkgfnbfgmaaDoor
open Go.RowKit

/-- Block b holds these digits and may be written. -/
def Dgs (W : World) (b : Nat) (l : List Int) : Prop := Row W b l ∧ Loose W b l.length
theorem Dgs.keep {W w1 : World} {b : Nat} {l : List Int} (h : Dgs W b l) (hl : 0 < l.length) (hb : Below W.heap.size W w1) : Dgs w1 b l := ⟨h.1.keep hb, h.2.keep hb (h.1.lt hl)⟩
theorem Dgs.alloc {W : World} {b : Nat} {l : List Int} (h : Dgs W b l) (hl : 0 < l.length) (o : Obj) : Dgs (W.alloc o) b l := h.keep hl ((Below.refl _ _).alloc (Nat.le_refl _) o)
theorem Dgs.new (W : World) (l : List Int) (t : TypeId) : Dgs (W.alloc (.cells (l.map (Value.int .u64)).toArray t)) W.heap.size l := ⟨Row.new W l t, Loose.new _ _ _ _⟩
theorem Dgs.set {W : World} {b : Nat} {l : List Int} (h : Dgs W b l) (i : Nat) (hi : i < l.length) (v : Int) : Dgs (W.setCell ⟨b, i, none⟩ (.int .u64 v)) b (l.set i v) := ⟨h.1.set i hi v, by rw [List.length_set]; exact h.2.set _ _⟩
theorem Dgs.drew {W : World} {b : Nat} {l : List Int} (h : Dgs W b l) : Dgs W.drew b l := h
theorem Dgs.other {W : World} {b b' i : Nat} {l : List Int} (h : Dgs W b l) (ne : b' ≠ b) (v : Value) : Dgs (W.setCell ⟨b', i, none⟩ v) b l := ⟨h.1.setOther ne v, h.2.set _ _⟩

end Go.Proofs.YtkbdpkgfnbfgmaaDoor

/- A region that draws its order: its first m operations are quiet, operation m stores and may come as soon as what it waits for is there, behind it the order is forced. -/
namespace Go.Proofs.YtkbdpkgfnbfgmaaDoor
open Go.RowKit Go.Sort

section
variable {P : Program} {ops : Array Oper}

variable {m sz : Nat} {a A : Act} {Pre Post : World → Prop} {om : Oper}

theorem Stq.none {p : Nat → Value} {b : Act} {D : World → Prop} {listed : Array Bool} (h : Hd P ops m m sz a A D) (st : Stq ops m m a A listed p b) (hall : ∀ j, j < m → listed.getD j false = true) : b = A := by
  obtain ⟨s1, f1⟩ := h.facts m (Nat.le_refl _)
  obtain ⟨t1, t2⟩ := h.tmps m (Nat.le_refl _)
  rw [h.last] at s1 f1 t1 t2
  have ht : b.tmps = A.tmps := by
    apply Array.ext'
    apply List.ext_getElem?
    intro t
    rw [Array.getElem?_toList, Array.getElem?_toList]
    by_cases hex : ∃ j oj, j < m ∧ ops[j]? = some oj ∧ oj.dst = some t
    · obtain ⟨j, oj, hj, hoj, hdj⟩ := hex
      rw [st.q j oj t hj hoj hdj, hall j hj, t2 j oj t hj hoj hdj]; rfl
    · have hno : ∀ j o, j < m → ops[j]? = some o → o.dst ≠ some t := fun j o hj ho hd => hex ⟨j, o, hj, ho, hd⟩
      rw [st.r t hno, t1 t hno]
  cases b with
  | mk bt bd =>
    have hd : bd = a.defers := st.defers
    have ht' : bt = A.tmps := ht
    rw [hd, ht', ← f1]

end
end Go.Proofs.YtkbdpkgfnbfgmaaDoor

namespace Go.Proofs.YtkbdpkgfnbfgmaaDoor
open Go.RowKit

theorem rfrom_any {v : Int} (h : Word v) (w : World) :
    Calls Tryd.prog 33 #[.int .u64 v] w fun e w' => e = .returned (.agg #[.int .u64 (l0 v), .int .u64 (l1 v), .int .u64 (l2 v), .int .u64 (l3 v)]) ∧ Below w.heap.size w w' := by
  obtain ⟨r0, r1, r2, r3⟩ := from_val h
  rw [r0, r1, r2, r3]
  clear r0 r1 r2 r3
  go_enter Tryd.func33, Tryd.ntmps33
  go_wp2
  simp [bodyPost, results, Tryd.results33, go_sem]
  repeat (first | with_reducible exact Below.refl _ _ | with_reducible refine Below.drew ?_ | with_reducible refine Below.alloc ?_ (by first | omega | (simp; done) | (simp; omega)) _)

end Go.Proofs.YtkbdpkgfnbfgmaaDoor

/- A region that draws its order: its first m operations are quiet, operation m makes a block at any time, operation m + 1 stores into it as soon as what it waits for is there ('x, ok := f(g(), a)'), behind it the order is forced. -/
namespace Go.Proofs.YtkbdpkgfnbfgmaaDoor
open Go.RowKit Go.Sort

section
variable {P : Program} {ops : Array Oper}

variable {m sz : Nat} {a A : Act} {Pre : World → Prop} {Mid Post : Value → World → Prop} {D : World → Prop} {om os : Oper} {dm : Nat} {z : Obj}

/-- The act behind the head. -/
theorem Stq.made {p : Nat → Value} {b : Act} {listed : Array Bool} (h : Hd P ops m (m + 1) sz a A D) (st : Stq ops m (m + 1) a A listed p b) (hall : ∀ j, j < m + 1 → listed.getD j false = true) (ho : ops[m]? = some om) (hd : om.dst = some dm) :
    b = A.put (some dm) (p m) := by
  obtain ⟨s1, f1⟩ := h.facts m (Nat.le_refl _)
  obtain ⟨t1, t2⟩ := h.tmps m (Nat.le_refl _)
  rw [h.last] at s1 f1 t1 t2
  obtain ⟨o', d', ho', hd', _, _, hsz, _⟩ := fresh_spec h.z (Nat.le_refl m) (by omega)
  obtain rfl : o' = om := Option.some.inj (ho'.symm.trans ho)
  obtain rfl : d' = dm := Option.some.inj (hd'.symm.trans hd)
  have ht : b.tmps = (A.put (some d') (p m)).tmps := by
    apply Array.ext'
    apply List.ext_getElem?
    intro t
    rw [Array.getElem?_toList, Array.getElem?_toList]
    by_cases htd : t = d'
    · subst htd
      rw [st.k m o' t (Nat.le_refl _) (by omega) ho hd, hall m (by omega), put_self (by rw [s1]; exact hsz)]; rfl
    · rw [put_other (Ne.symm htd)]
      by_cases hex : ∃ j oj, j < m ∧ ops[j]? = some oj ∧ oj.dst = some t
      · obtain ⟨j, oj, hj, hoj, hdj⟩ := hex
        rw [st.q j oj t hj hoj hdj, hall j (by omega), t2 j oj t hj hoj hdj]; rfl
      · have hno : ∀ j o, j < m → ops[j]? = some o → o.dst ≠ some t := fun j o hj ho hd => hex ⟨j, o, hj, ho, hd⟩
        rw [st.r t, t1 t hno]
        intro j oj hj hoj hdj
        by_cases hjm : j < m
        · exact hno j oj hjm hoj hdj
        · obtain rfl : j = m := by omega
          obtain rfl : oj = o' := Option.some.inj (hoj.symm.trans ho)
          exact htd (Option.some.inj (hdj.symm.trans hd))
  cases b with
  | mk bt bd =>
    have hd : bd = a.defers := st.defers
    have ht' : bt = (A.put (some d') (p m)).tmps := ht
    rw [hd, ht', ← f1]; rfl

end
end Go.Proofs.YtkbdpkgfnbfgmaaDoor

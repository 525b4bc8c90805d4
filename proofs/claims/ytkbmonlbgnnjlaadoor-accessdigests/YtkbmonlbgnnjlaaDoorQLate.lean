import Derived.Test.YtkbmonlbgnnjlaaDoorQAlloc
import Derived.Test.YtkbmonlbgnnjlaaDoorHold
import Derived.Test.YtkbmonlbgnnjlaaDoorRefNum
import Derived.Test.YtkbmonlbgnnjlaaDoorLeaf
import Derived.LoopN
import Derived.BigRegion
import Derived.Deep.RegionWith
import Derived.Test.YtkbmonlbgnnjlaaDoorCmp
/- A drawn region in which one operation, which takes a part out of a tuple, may come up behind a store that does not ask for it: it may be taken as if the store waited for it. -/
namespace Go.Proofs.YtkbmonlbgnnjlaaDoor
open Go.RowKit Go.Sort

section
variable {P : Program} {Q : Exit → Act → World → Prop} {md : Region.Mode}

def updL (q : Nat) (o : Oper) : Oper := { o with after := o.after.push { on := q, ground := .data } }
theorem modify_at {l : List Oper} {n q j : Nat} : (l.modify n (updL q)).toArray[j]? = if n = j then (l.toArray[j]?).map (updL q) else l.toArray[j]? := by
  simp only [List.getElem?_toArray, List.getElem?_modify]
  by_cases h : n = j
  · simp [h]
  · simp [h]
/-- b waits for i. -/
def waitsL (md : Region.Mode) (ops : Array Oper) (b i : Nat) : Bool := match ops[b]? with
  | some o => o.after.any fun e => Region.binds md e && e.on == i
  | none => false
theorem waitsL_listed {ops : Array Oper} {b i : Nat} {o : Oper} {listed : Array Bool} (h : waitsL md ops b i = true) (ho : ops[b]? = some o) (hall : ∀ e ∈ o.after, Region.binds md e = true → listed.getD e.on false = true) : listed.getD i false = true := by
  unfold waitsL at h
  rw [ho] at h
  simp only [Array.any_eq_true] at h
  obtain ⟨k, hk, he⟩ := h
  simp only [Bool.and_eq_true, beq_iff_eq] at he
  have := hall _ (Array.getElem_mem hk) he.1
  rwa [he.2] at this

structure Late (md : Region.Mode) (l : List Oper) (n q : Nat) (oq : Oper) : Prop where
  sel : Region.noSelect l.toArray = true
  at_ : l.toArray[q]? = some oq
  ext : ∃ t k, oq.op = .extract t k
  guard : oq.guard = none
  ne : q ≠ n
  lt : q < l.length
  deps : ∀ e ∈ oq.after, Region.binds md e = true → waitsL md l.toArray n e.on = true
  apart : ∀ (j : Nat) oj, l.toArray[j]? = some oj → j ≠ q → waitsL md l.toArray q j = false → waitsL md l.toArray j q = false → oq.apart l.toArray oj = true

section
variable {l : List Oper} {n q : Nat} {oq : Oper}

theorem Late.at' (h : Late md l n q oq) : (l.modify n (updL q)).toArray[q]? = some oq := by
  rw [modify_at, if_neg (fun e => h.ne e.symm)]; exact h.at_
theorem Late.ready (h : Late md l n q oq) {i : Nat} {listed : Array Bool} (hsz : listed.size = l.length) (hi : i ∈ Region.ready md l.toArray listed) :
    i ∈ Region.ready md (l.modify n (updL q)).toArray listed ∨ q ∈ Region.ready md (l.modify n (updL q)).toArray listed := by
  obtain ⟨h1, o, ho, hall⟩ := mem_ready.1 hi
  by_cases hin : n = i
  · subst hin
    cases hq : listed.getD q false with
    | true =>
      refine .inl (mem_ready.2 ⟨h1, updL q o, by rw [modify_at, if_pos rfl, ho]; rfl, fun e he hb => ?_⟩)
      unfold updL at he
      simp only [Array.mem_push] at he
      rcases he with he | rfl
      · exact hall e he hb
      · exact hq
    | false =>
      refine .inr (mem_ready.2 ⟨getD_in (by rw [hsz]; exact h.lt) hq, oq, h.at', fun e he hb => ?_⟩)
      exact waitsL_listed (h.deps e he hb) ho hall
  · exact .inl (mem_ready.2 ⟨h1, o, by rw [modify_at, if_neg hin]; exact ho, hall⟩)

end

end
end Go.Proofs.YtkbmonlbgnnjlaaDoor

/- A region that draws its order: its first m operations are quiet, operation m makes a block at any time, operation m + 1 stores into it as soon as what it waits for is there ('x, ok := f(g(), a)'), behind it the order is forced. -/
namespace Go.Proofs.YtkbmonlbgnnjlaaDoor
open Go.RowKit Go.Sort

section
variable {P : Program} {ops : Array Oper}

variable {m sz : Nat} {a A : Act} {Pre : World → Prop} {Mid Post : Value → World → Prop} {D : World → Prop} {om os : Oper} {dm : Nat} {z : Obj}

/-- The act behind the head. -/
theorem Stq.made {p : Nat → Value} {b : Act} {listed : Array Bool} (h : Hd P ops m (m + 1) sz a A D) (st : Stq ops m (m + 1) a A listed p b) (hall : ∀ j, j < m + 1 → listed.getD j false = true) (ho : ops[m]? = some om) (hd : om.dst = some dm) :
    b = A.put (some dm) (p m) := by
  obtain ⟨s1, f1⟩ := h.facts m (Nat.le_refl _)
  obtain ⟨t1, t2⟩ := h.tmps m (Nat.le_refl _)
  rw [h.last] at s1 f1 t1 t2
  obtain ⟨o', d', ho', hd', _, _, hsz, _⟩ := fresh_spec h.z (Nat.le_refl m) (by omega)
  obtain rfl : o' = om := Option.some.inj (ho'.symm.trans ho)
  obtain rfl : d' = dm := Option.some.inj (hd'.symm.trans hd)
  have ht : b.tmps = (A.put (some d') (p m)).tmps := by
    apply Array.ext'
    apply List.ext_getElem?
    intro t
    rw [Array.getElem?_toList, Array.getElem?_toList]
    by_cases htd : t = d'
    · subst htd
      rw [st.k m o' t (Nat.le_refl _) (by omega) ho hd, hall m (by omega), put_self (by rw [s1]; exact hsz)]; rfl
    · rw [put_other (Ne.symm htd)]
      by_cases hex : ∃ j oj, j < m ∧ ops[j]? = some oj ∧ oj.dst = some t
      · obtain ⟨j, oj, hj, hoj, hdj⟩ := hex
        rw [st.q j oj t hj hoj hdj, hall j (by omega), t2 j oj t hj hoj hdj]; rfl
      · have hno : ∀ j o, j < m → ops[j]? = some o → o.dst ≠ some t := fun j o hj ho hd => hex ⟨j, o, hj, ho, hd⟩
        rw [st.r t, t1 t hno]
        intro j oj hj hoj hdj
        by_cases hjm : j < m
        · exact hno j oj hjm hoj hdj
        · obtain rfl : j = m := by omega
          obtain rfl : oj = o' := Option.some.inj (hoj.symm.trans ho)
          exact htd (Option.some.inj (hdj.symm.trans hd))
  cases b with
  | mk bt bd =>
    have hd : bd = a.defers := st.defers
    have ht' : bt = (A.put (some d') (p m)).tmps := ht
    rw [hd, ht', ← f1]; rfl

end
end Go.Proofs.YtkbmonlbgnnjlaaDoor

namespace Go.Proofs.YtkbmonlbgnnjlaaDoor
open Go.RowKit

/-- Block b holds these digits and may be written. -/
def Dgs (W : World) (b : Nat) (l : List Int) : Prop := Row W b l ∧ Loose W b l.length
theorem Dgs.keep {W w1 : World} {b : Nat} {l : List Int} (h : Dgs W b l) (hl : 0 < l.length) (hb : Below W.heap.size W w1) : Dgs w1 b l := ⟨h.1.keep hb, h.2.keep hb (h.1.lt hl)⟩
theorem Dgs.alloc {W : World} {b : Nat} {l : List Int} (h : Dgs W b l) (hl : 0 < l.length) (o : Obj) : Dgs (W.alloc o) b l := h.keep hl ((Below.refl _ _).alloc (Nat.le_refl _) o)
theorem Dgs.new (W : World) (l : List Int) (t : TypeId) : Dgs (W.alloc (.cells (l.map (Value.int .u64)).toArray t)) W.heap.size l := ⟨Row.new W l t, Loose.new _ _ _ _⟩
theorem Dgs.set {W : World} {b : Nat} {l : List Int} (h : Dgs W b l) (i : Nat) (hi : i < l.length) (v : Int) : Dgs (W.setCell ⟨b, i, none⟩ (.int .u64 v)) b (l.set i v) := ⟨h.1.set i hi v, by rw [List.length_set]; exact h.2.set _ _⟩
theorem Dgs.drew {W : World} {b : Nat} {l : List Int} (h : Dgs W b l) : Dgs W.drew b l := h
theorem Dgs.other {W : World} {b b' i : Nat} {l : List Int} (h : Dgs W b l) (ne : b' ≠ b) (v : Value) : Dgs (W.setCell ⟨b', i, none⟩ v) b l := ⟨h.1.setOther ne v, h.2.set _ _⟩

end Go.Proofs.YtkbmonlbgnnjlaaDoor

namespace Go.Proofs.YtkbmonlbgnnjlaaDoor
open Go.RowKit

theorem rfrom_any {v : Int} (h : Word v) (w : World) :
    Calls Tryd.prog 25 #[.int .u64 v] w fun e w' => e = .returned (.agg #[.int .u64 (l0 v), .int .u64 (l1 v), .int .u64 (l2 v), .int .u64 (l3 v)]) ∧ Below w.heap.size w w' := by
  obtain ⟨r0, r1, r2, r3⟩ := from_val h
  rw [r0, r1, r2, r3]
  clear r0 r1 r2 r3
  go_enter Tryd.func25, Tryd.ntmps25
  go_wp2
  simp [bodyPost, results, Tryd.results25, go_sem]
  repeat (first | with_reducible exact Below.refl _ _ | with_reducible refine Below.drew ?_ | with_reducible refine Below.alloc ?_ (by first | omega | (simp; done) | (simp; omega)) _)

end Go.Proofs.YtkbmonlbgnnjlaaDoor

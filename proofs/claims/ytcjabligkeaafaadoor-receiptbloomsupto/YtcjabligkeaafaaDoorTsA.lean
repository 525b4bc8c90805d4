import Derived.Test.YtcjabligkeaafaaDoorTxP
import Derived.Deep.AppendLies
/- Rows of k cells each, one behind the other: appended, read. -/
namespace Go.Proofs.YtcjabligkeaafaaDoor.tq
open Go.RowKit Go.Sort
theorem range_app {W : World} {b o : Nat} {A D : List Value} : W.rangeAt b o (A ++ D) ↔ W.rangeAt b o A ∧ W.rangeAt b (o + A.length) D := by
  constructor
  · intro h
    refine ⟨fun j v hv => h j v (by rw [List.getElem?_append_left (List.getElem?_eq_some_iff.1 hv).1]; exact hv), fun j v hv => ?_⟩
    have := h (A.length + j) v (by rw [List.getElem?_append_right (by omega), Nat.add_sub_cancel_left]; exact hv)
    rw [← Nat.add_assoc] at this
    exact this
  · rintro ⟨h1, h2⟩ j v hv
    by_cases hj : j < A.length
    · rw [List.getElem?_append_left hj] at hv
      exact h1 j v hv
    · rw [List.getElem?_append_right (by omega)] at hv
      have := h2 _ v hv
      rw [show o + A.length + (j - A.length) = o + j by omega] at this
      exact this
theorem range_keep {W W' : World} {b o : Nat} {A : List Value} (h : W.rangeAt b o A) (B : Below W.heap.size W W') : W'.rangeAt b o A := fun j v hv => cell_keep B (h j v hv)
/-- What append asks of a type of elements. -/
def rowInfo (P : Program) (e : TypeId) (k b : Nat) : Bool := match P.info? e with
  | some i => (match i.zero with
    | some z => decide (i.size = k) && (decide (i.bytes = b) && decide (z.cells.size = k))
    | none => false)
  | none => false
theorem rowInfo_of {P : Program} {e : TypeId} {k b : Nat} (h : rowInfo P e k b = true) : ∃ i z, P.info? e = some i ∧ i.zero = some z ∧ i.size = k ∧ i.bytes = b ∧ z.cells.size = k := by
  unfold rowInfo at h
  cases hi : P.info? e with
  | none => rw [hi] at h; simp at h
  | some i =>
    rw [hi] at h
    cases hz : i.zero with
    | none => simp [hz] at h
    | some z =>
      simp [hz] at h
      exact ⟨i, z, rfl, hz, h⟩
/-- append(v, x...): x any rows that can be read. -/
theorem run_append_rw {B k bytes : Nat} {t e ty : TypeId} (ht : Tryd.prog.underlying t = some (.slice e)) (hI : rowInfo Tryd.prog e k bytes = true) (k0 : 0 < k) {w : World} {v : Value} {n : Nat} {xs : List Value} (h : w.ownsRow B e k v n xs)
    {a : Option Addr} {g p m c : Nat} {news : List Value} (hl : news.length = m * k) (ha : m = 0 ∨ a = some ⟨g, p, none⟩) (hnc : a = none → c = 0) (hr : w.rangeAt g p news) (h1 : ∀ u ∈ news, u.oneCell' = true) (hm : n + m ≤ maxLen) (hby : (n + m) * bytes ≤ 140737488355328) (hB : B ≤ w.heap.size) :
    ∃ v' w', (Builtin.append_ #[t, t] ty #[v, .slice a m c]).run Tryd.prog w = .ok v' w' ∧ w'.ownsRow B e k v' (n + m) (xs ++ news) ∧ w.grownBy w' v.ownBlock ∧ (v'.ownBlock = v.ownBlock ∨ v'.ownBlock = some w.heap.size) := by
  obtain ⟨i, z, hi, hz, hs, hb, hzs⟩ := rowInfo_of hI
  cases a with
  | none =>
    obtain rfl := hnc rfl
    obtain rfl : m = 0 := ha.resolve_right (by simp)
    obtain rfl : news = [] := List.length_eq_zero_iff.1 (by simpa using hl)
    exact ⟨v, w, run_append_owned_none (P := Tryd.prog) w B t ty e i k ht hi v n _ h, by simpa using h, World.grownBy.refl _ _, .inl rfl⟩
  | some ad =>
    have hn : ∀ j u, news[j]? = some u → w.cell? (ad.add j) = some u := by
      intro j u hu
      rcases ha with rfl | e
      · obtain rfl : news = [] := List.length_eq_zero_iff.1 (by simpa using hl)
        simp at hu
      · obtain rfl := Option.some.inj e
        rw [Addr.add_lit]
        exact hr j u hu
    obtain ⟨v', w', r1, r2, r3, _, r5⟩ := run_append_own_at (P := Tryd.prog) w B t ty e i z k bytes ht hi hz hs hb hzs k0 v n xs h ad m c news hl hn h1 hm hby hB
    exact ⟨v', w', r1, r2, r3, r5⟩
theorem wpList_append_rw {ops : Array Oper} {rest : List Oper} {o : Oper} {a : Act} {Q : Exit → Act → World → Prop} {w : World} {B n : Nat} {v : Value} {xs : List Value} {sa : Option Addr} {g p m c : Nat} {news : List Value} (k bytes : Nat) (t e : TypeId) (ht : Tryd.prog.underlying t = some (.slice e)) (hI : rowInfo Tryd.prog e k bytes = true) (k0 : 0 < k)
    (hgd : o.guard = none) (s x : Operand) (ho : o.op = .call { callee := .builtin .append, args := #[s, x], argTypes := #[t, t] }) (hs : a.eval s = v) (hx : a.eval x = .slice sa m c) (h : w.ownsRow B e k v n xs) (hl : news.length = m * k) (ha : m = 0 ∨ sa = some ⟨g, p, none⟩) (hnc : sa = none → c = 0) (hr : w.rangeAt g p news) (h1 : ∀ u ∈ news, u.oneCell' = true) (hm : n + m ≤ maxLen) (hby : (n + m) * bytes ≤ 140737488355328) (hB : B ≤ w.heap.size)
    (hK : ∀ v' w', w'.ownsRow B e k v' (n + m) (xs ++ news) → w.grownBy w' v.ownBlock → (v'.ownBlock = v.ownBlock ∨ v'.ownBlock = some w.heap.size) → wpList Tryd.prog ops Q rest (a.put o.dst v') w') :
    wpList Tryd.prog ops Q (o :: rest) a w := by
  refine wpList_plain hgd fun K hK2 => ?_
  obtain ⟨v', w', hr', h2, h3, h4⟩ := run_append_rw (ty := o.type) (c := c) ht hI k0 h hl ha hnc hr h1 hm hby hB
  unfold Oper.wp execOp
  simp only [ho, resolve, invoke, builtin, Sem.run_bind, Sem.run_pure, Result.andThen_ok, List.map_toArray, List.map_cons, List.map_nil, hs, hx, hr']
  exact hK2 _ _ (hK v' w' h2 h3 h4)
theorem row_keep {B k n : Nat} {W W' : World} {e : TypeId} {v : Value} {xs : List Value} (h : W.ownsRow B e k v n xs) (hb : Below W.heap.size W W') : W'.ownsRow B e k v n xs := h.kept (grown_of_below hb Option.none) (by
  cases hv : v.ownBlock with
  | none => exact .inl rfl
  | some k => exact .inr (by simp))
end Go.Proofs.YtcjabligkeaafaaDoor.tq

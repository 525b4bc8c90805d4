import Derived.Test.YtanokeeffbiijaaDoorRcF
import Derived.Test.YtanokeeffbiijaaDoorRcD
import Derived.Test.YtanokeeffbiijaaDoorCut
/- ReceiptGas: tools. -/
namespace Go.Proofs.YtanokeeffbiijaaDoor.tq
open Go.RowKit Go.Sort
/-- A value stored whole, into a row. -/
theorem wpList_storeO {P : Program} {ops : Array Oper} {rest : List Oper} {op : Oper} {a : Act} {w : World} {Q : Exit → Act → World → Prop} (hgd : op.guard = none) (ty : TypeId) (x y : Operand) (ho : op.op = .store ty x y) (b o : Nat) (cs : List Value) (hx : a.eval x = .pointer (some ⟨b, o, none⟩)) (hy : a.eval y = .agg cs.toArray)
    (ht : w.there b o cs.length) (hi : (P.info? ty).map (·.size) = some cs.length) (h1 : ∀ u ∈ cs, u.oneCell' = true)
    (h : ∀ W, But w W b → W.rangeAt b o cs → (∀ (o' : Nat) (X : List Value), w.rangeAt b o' X → (o' + X.length ≤ o ∨ o + cs.length ≤ o') → W.rangeAt b o' X) → (∀ o' m, w.there b o' m → W.there b o' m) → wpList P ops Q rest (a.put op.dst undef) W) : wpList P ops Q (op :: rest) a w := by
  refine wpList_store_mid hgd ty x y ho b o cs.toArray hx hy (by simpa using ht) (by simpa using hi) (all_oneCell_toArray h1) (h _ (but_sets _ _ _) (World.rangeAt_setCells_same _ _ _ _ (by simpa using ht)) (fun o' X hX hd => World.rangeAt_setCells_apart hX _ _ _ (.inr hd)) fun o' m hm j hj => ⟨?_, by rw [World.frozen?_setCells]; exact (hm j hj).2⟩)
  by_cases c : o ≤ o' + j ∧ o' + j < o + cs.length
  · have hj2 : o' + j - o < cs.length := by omega
    have := World.rangeAt_setCells_same w b o cs (by simpa using ht) (o' + j - o) _ (List.getElem?_eq_getElem hj2)
    rw [show o + (o' + j - o) = o' + j by omega] at this
    rw [this]; rfl
  · obtain ⟨v, hv⟩ := Option.isSome_iff_exists.1 (hm j hj).1
    have h1 : w.rangeAt b (o' + j) [v] := fun k u hk => by
      have : k = 0 := by have := (List.getElem?_eq_some_iff.1 hk).1; simpa using this
      subst this
      simp at hk; subst hk; simpa using hv
    have h2 := World.rangeAt_setCells_apart h1 b o cs (.inr (by simp; omega)) 0 v rfl
    rw [Nat.add_zero] at h2
    rw [h2]; rfl
theorem there_newR {W : World} {cs : Array Value} {t : TypeId} {n : Nat} (hn : n = cs.size) : (W.alloc (.cells cs t)).there W.heap.size 0 n := by
  subst hn
  intro j hj
  rw [Nat.zero_add, World.cell?_alloc_mark, World.frozen?_alloc_mark]
  refine ⟨by simp [hj], ?_⟩
  simp
theorem there_part {W : World} {b n o m : Nat} (h : W.there b 0 n) (e : o + m ≤ n) : W.there b o m := fun j hj => by
  have := h (o + j) (by omega)
  rwa [Nat.zero_add] at this
end Go.Proofs.YtanokeeffbiijaaDoor.tq

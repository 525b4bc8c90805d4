import Derived.Test.YtdehcohfcbopkaaBmC
/- BloomMakes: the law. -/
namespace Go.Proofs.Ytdehcohfcbopkaa
open Go.RowKit Go.Sort

def vals (L : List Int) : List Value := L.map (Value.int .i64)
theorem vals_len (L : List Int) : (vals L).length = L.length := by simp [vals]
/-- Ints in a block of one's own. -/
def IxR (W : World) (g : Nat) (T : List Int) : Prop := Ixs W g 0 T ∧ Loose W g T.length
theorem IxR.keep {W w1 : World} {g : Nat} {T : List Int} (h : IxR W g T) (hl : g < W.heap.size) (hb : Below W.heap.size W w1) : IxR w1 g T := ⟨h.1.keep hb, h.2.keep hb hl⟩
theorem ixR_of {W : World} {g : Nat} {T : List Int} {t : TypeId} (h : W.heap[g]? = some (.cells (vals T).toArray t (0, 0))) : IxR W g T := by
  refine ⟨fun i hi => ?_, fun i _ => frozen_of_row W g i _ t h⟩
  rw [Nat.zero_add, cell_of_row W g i _ t _ h]
  simp [vals, List.getD, hi]
theorem IxR.set {W : World} {g : Nat} {T : List Int} (h : IxR W g T) (i : Nat) (hi : i < T.length) (v : Int) : IxR (W.setCell ⟨g, i, none⟩ (.int .i64 v)) g (T.set i v) := by
  refine ⟨fun j hj => ?_, by rw [List.length_set]; exact h.2.set _ _⟩
  rw [List.length_set] at hj
  rw [Nat.zero_add]
  have hc := h.1 j hj
  rw [Nat.zero_add] at hc
  by_cases e : i = j
  · subst e
    rw [World.cell?_setCell_same _ _ _ hc]
    simp [List.getD, hi]
  · have ne : (⟨g, i, none⟩ : Addr) ≠ ⟨g, j, none⟩ := by first | (simp; done) | (simp; omega)
    rw [World.cell?_setCell_other _ _ _ _ ne, hc]
    simp [List.getD, List.getElem?_set_ne e]
theorem IxR.cell {W : World} {g : Nat} {T : List Int} (h : IxR W g T) {i : Nat} (hi : i < T.length) : W.cell? ⟨g, i, none⟩ = some (.int .i64 (T.getD i 0)) := by
  have := h.1 i hi
  rwa [Nat.zero_add] at this
theorem IxR.front {W : World} {g : Nat} {L M : List Int} (h : IxR W g (L ++ M)) : Ixs W g 0 L := fun i hi => by
  have := h.1 i (by rw [List.length_append]; omega)
  rw [this, List.getD, List.getElem?_append_left hi, ← List.getD]
theorem IxR.far {W : World} {b' g i : Nat} {v : Value} {T : List Int} (h : IxR W g T) (ne : b' ≠ g) : IxR (W.setCell ⟨b', i, none⟩ v) g T := ⟨fun j hj => by rw [World.cell?_setCell_far _ _ _ _ ne]; exact h.1 j hj, h.2.set _ _⟩
theorem IxR.farCells {W : World} {b' g o : Nat} {T : List Int} (h : IxR W g T) (ne : b' ≠ g) (cs : List Value) : IxR (W.setCells b' o cs) g T := ⟨fun j hj => by rw [World.cell?_setCells_out _ _ _ _ _ (fun e => absurd e.symm ne)]; exact h.1 j hj, h.2.setCells _ _ _⟩
theorem info_int : (Try.prog.info? 3).map (fun i => (i.zero, i.size, i.bytes)) = some (some (.int .i64 0), 1, 8) := by kernel_rfl
/-- 'make([]T, n, m)'. -/
theorem wpList_make_8 {P : Program} (w : World) {ops : Array Oper} {rest : List Oper} {o : Oper} {a : Act} {Q : Exit → Act → World → Prop}
    (hg : o.guard = none) (l c : Operand) (t : TypeId) (hop : o.op = Op.makeSlice t l c)
    (e : TypeId) (i : TypeInfo) (z : Value) (ht : P.underlying t = some (.slice e)) (hi : P.info? e = some i) (hz : i.zero = some z) (hsize : i.size = 1) (hz1 : z.cells = #[z]) (hby : i.bytes = 8)
    (kl kc : IntKind) (L C : Int) (n m : Nat) (hl : a.eval l = .int kl L) (hc : a.eval c = .int kc C) (eL : L = (n : Int)) (eC : C = (m : Int)) (hnm : n ≤ m) (hm : 8 * m ≤ 281474976710656)
    (hK : wpList P ops Q rest (a.put o.dst (.slice (some ⟨w.heap.size, 0, none⟩) n m)) (w.alloc (.cells (madeCells #[z] m) e))) :
    wpList P ops Q (o :: rest) a w := by
  subst eL eC
  refine wpList_plain hg fun K hK' => ?_
  have hr := run_make (P := P) w t e i z ht hi hz kl kc n m (by omega) (by omega) (by rw [hby]; omega) (by omega)
  simp only [Int.toNat_natCast, hsize, Nat.mul_one, hz1] at hr
  unfold Oper.wp
  simp [execOp, hop, hl, hc, hr, Result.andThen]
  exact hK' _ _ hK
theorem made_ints (n : Nat) : madeCells #[Value.int .i64 0] n = (List.replicate n (Value.int .i64 0)).toArray := by
  have := toList_madeCells_one (Value.int .i64 0) n
  apply Array.toList_inj.1
  rw [this]
theorem splice_vals (L : List Int) (k : Nat) : splice (List.replicate (L.length + k) (Value.int .i64 0)) 0 (vals L) = vals (L ++ List.replicate k 0) := by
  simp [splice, vals, List.drop_replicate]
theorem ints_src {a : Option Addr} {bd od g : Nat} {L : List Int} {w w1 : World} (ha : AtI a bd od L) (hX : Ixs w bd od L) (B : Below w.heap.size w w1) :
    0 < (vals L).length → (some (⟨g, 0, none⟩ : Addr)) = some ⟨g, 0, none⟩ ∧ ∃ ad, a = some ad ∧ ∀ j v, (vals L)[j]? = some v → w1.cell? (ad.add j) = some v := by
  intro h0
  refine ⟨rfl, ?_⟩
  rcases ha with h | h
  · rw [h] at h0; simp [vals] at h0
  · refine ⟨_, h, fun j v hv => ?_⟩
    unfold vals at hv
    rw [List.getElem?_map] at hv
    obtain ⟨x, hx, rfl⟩ := Option.map_eq_some_iff.1 hv
    have hj : j < L.length := (List.getElem?_eq_some_iff.1 hx).1
    have hc := hX j hj
    rw [Addr.add_mid, B.cell (p := ⟨bd, od + j, none⟩) (World.block_lt_of_cell? w _ hc), hc]
    simp [List.getD, hx]
/-- The list written over, so far. -/
def sevs (L : List Int) (i : Nat) : List Int := ((List.range i).map fun k : Nat => 7 * (k : Int)) ++ (L.drop i ++ [-164])
theorem sevs_0 (L : List Int) : sevs L 0 = L ++ [-164] := by simp [sevs]
theorem sevs_len {L : List Int} {i : Nat} (h : i ≤ L.length) : (sevs L i).length = L.length + 1 := by simp [sevs]; omega
theorem sevs_set {L : List Int} {i : Nat} (h : i < L.length) : (sevs L i).set i (7 * (i : Int)) = sevs L (i + 1) := by
  rw [sevs, sevs, List.set_append_right _ _ (by simp), List.length_map, List.length_range, Nat.sub_self, List.drop_eq_getElem_cons h, List.cons_append, List.set_cons_zero, List.range_succ, List.map_append, List.append_assoc]
  rfl
theorem sevs_all (L : List Int) : sevs L L.length = ((List.range L.length).map fun k : Nat => 7 * (k : Int)) ++ [-164] := by simp [sevs]

end Go.Proofs.Ytdehcohfcbopkaa

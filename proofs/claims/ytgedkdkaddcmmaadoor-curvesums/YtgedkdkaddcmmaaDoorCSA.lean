import Derived.Test.YtgedkdkaddcmmaaDoorCSumK
import Derived.Test.YtgedkdkaddcmmaaDoorCPnt
import Derived.Deep.MidRow
import Derived.Laws.CopyOwn
import Derived.Deep.OwnRows
/- Lists of points in blocks. -/
namespace Go.Proofs.YtgedkdkaddcmmaaDoor
open Go.RowKit Go.Sort

/-- A point's nine cells. -/
def ptC (q : PP) : List Value := [.int .u64 (l0 q.x), .int .u64 (l1 q.x), .int .u64 (l2 q.x), .int .u64 (l3 q.x), .int .u64 (l0 q.y), .int .u64 (l1 q.y), .int .u64 (l2 q.y), .int .u64 (l3 q.y), .bool q.i]
/-- The cells of a list of points. -/
def flC : List PP → List Value
  | [] => []
  | q :: L => ptC q ++ flC L
theorem flC_len : ∀ L : List PP, (flC L).length = L.length * 9
  | [] => rfl
  | q :: L => by rw [flC, List.length_append, flC_len L, List.length_cons]; simp [ptC]; omega
theorem flC_app : ∀ L M : List PP, flC (L ++ M) = flC L ++ flC M
  | [], _ => rfl
  | q :: L, M => by rw [List.cons_append, flC, flC, flC_app L M, List.append_assoc]
theorem flC_at : ∀ (L : List PP) (i j : Nat), i < L.length → j < 9 → (flC L)[i * 9 + j]? = (ptC (L.getD i ⟨0, 0, true⟩))[j]?
  | [], i, _, h, _ => absurd h (Nat.not_lt_zero _)
  | q :: L, 0, j, _, hj => by
    rw [flC, Nat.zero_mul, Nat.zero_add, List.getElem?_append_left (by simpa [ptC] using hj)]; rfl
  | q :: L, i + 1, j, h, hj => by
    have e : (i + 1) * 9 + j = 9 + (i * 9 + j) := by omega
    rw [flC, e, List.getElem?_append_right (by simp [ptC]), show 9 + (i * 9 + j) - (ptC q).length = i * 9 + j by simp [ptC]]
    exact flC_at L i j (by simpa using h) hj
theorem flC_one (L : List PP) : ∀ v ∈ flC L, v.oneCell' = true := by
  induction L with
  | nil => intro v hv; cases hv
  | cons q L ih =>
    intro v hv
    rw [flC, List.mem_append] at hv
    rcases hv with hv | hv
    · simp only [ptC, List.mem_cons, List.not_mem_nil, or_false] at hv
      rcases hv with rfl | rfl | rfl | rfl | rfl | rfl | rfl | rfl | rfl <;> rfl
    · exact ih v hv
theorem pts_range {w : World} {b o : Nat} {L : List PP} (h : w.rangeAt b o (flC L)) : Pts w b o L := fun i hi => by
  have q : ∀ k v, k < 9 → (ptC (L.getD i ⟨0, 0, true⟩))[k]? = some v → w.cell? ⟨b, o + i * 9 + k, none⟩ = some v := fun k v hk hv => by
    have := h (i * 9 + k) v (by rw [flC_at L i k hi hk]; exact hv)
    rw [Nat.add_assoc]; exact this
  exact ⟨q 0 _ (by decide) rfl, q 1 _ (by decide) rfl, q 2 _ (by decide) rfl, q 3 _ (by decide) rfl, q 4 _ (by decide) rfl, q 5 _ (by decide) rfl, q 6 _ (by decide) rfl, q 7 _ (by decide) rfl, q 8 _ (by decide) rfl⟩
theorem range_pts {w : World} {b o : Nat} {L : List PP} (h : Pts w b o L) : w.rangeAt b o (flC L) := fun j v hv => by
  have hj : j < L.length * 9 := by rw [← flC_len]; exact (List.getElem?_eq_some_iff.1 hv).1
  obtain ⟨i, k, rfl, hk⟩ : ∃ i k, j = i * 9 + k ∧ k < 9 := ⟨j / 9, j % 9, by omega, by omega⟩
  have hi : i < L.length := by omega
  rw [flC_at L i k hi hk] at hv
  obtain ⟨a0, a1, a2, a3, a4, a5, a6, a7, a8⟩ := h i hi
  rw [← Nat.add_assoc]
  have hc : k = 0 ∨ k = 1 ∨ k = 2 ∨ k = 3 ∨ k = 4 ∨ k = 5 ∨ k = 6 ∨ k = 7 ∨ k = 8 := by omega
  rcases hc with rfl | rfl | rfl | rfl | rfl | rfl | rfl | rfl | rfl
  · exact a0.trans hv
  · exact a1.trans hv
  · exact a2.trans hv
  · exact a3.trans hv
  · exact a4.trans hv
  · exact a5.trans hv
  · exact a6.trans hv
  · exact a7.trans hv
  · exact a8.trans hv
/-- The zero value. -/
def zPP : PP := ⟨0, 0, false⟩
theorem zPP_c : ptC zPP = [.int .u64 0, .int .u64 0, .int .u64 0, .int .u64 0, .int .u64 0, .int .u64 0, .int .u64 0, .int .u64 0, .bool false] := by
  obtain ⟨z0, z1, z2, z3⟩ := zero_limbs
  unfold ptC zPP
  rw [z0, z1, z2, z3]
theorem rep_getD (n i : Nat) (h : i < n) : (List.replicate n zPP).getD i ⟨0, 0, true⟩ = zPP := by
  rw [List.getD, List.getElem?_replicate, if_pos h]; rfl
theorem made_pts (n : Nat) : (madeCells #[Value.int .u64 0, .int .u64 0, .int .u64 0, .int .u64 0, .int .u64 0, .int .u64 0, .int .u64 0, .int .u64 0, .bool false] (n * 9)).toList = flC (List.replicate n zPP) := by
  apply List.ext_getElem?
  intro j
  by_cases hj : j < n * 9
  · obtain ⟨i, k, rfl, hk⟩ : ∃ i k, j = i * 9 + k ∧ k < 9 := ⟨j / 9, j % 9, by omega, by omega⟩
    have hi : i < n := by omega
    rw [flC_at _ i k (by simpa using hi) hk, rep_getD n i hi, zPP_c]
    have e : (i * 9 + k) % 9 = k := by omega
    have hs : i * 9 + k < (madeCells #[Value.int .u64 0, .int .u64 0, .int .u64 0, .int .u64 0, .int .u64 0, .int .u64 0, .int .u64 0, .int .u64 0, .bool false] (n * 9)).size := by simpa [madeCells] using hj
    have h1 : (madeCells #[Value.int .u64 0, .int .u64 0, .int .u64 0, .int .u64 0, .int .u64 0, .int .u64 0, .int .u64 0, .int .u64 0, .bool false] (n * 9))[i * 9 + k] = #[Value.int .u64 0, .int .u64 0, .int .u64 0, .int .u64 0, .int .u64 0, .int .u64 0, .int .u64 0, .int .u64 0, .bool false][(i * 9 + k) % 9]! := by simp [madeCells]
    rw [Array.getElem?_toList, Array.getElem?_eq_getElem hs, h1, e]
    have hc : k = 0 ∨ k = 1 ∨ k = 2 ∨ k = 3 ∨ k = 4 ∨ k = 5 ∨ k = 6 ∨ k = 7 ∨ k = 8 := by omega
    rcases hc with rfl | rfl | rfl | rfl | rfl | rfl | rfl | rfl | rfl <;> rfl
  · rw [List.getElem?_eq_none (by simp [madeCells]; omega), List.getElem?_eq_none (by rw [flC_len]; simp; omega)]
theorem copied_pts (L : List PP) (n : Nat) : splice (flC (List.replicate (L.length + n) zPP)) 0 (flC L) = flC (L ++ List.replicate n zPP) := by
  rw [flC_app, ← List.replicate_append_replicate, flC_app]
  unfold splice
  rw [List.take_zero, List.nil_append, Nat.zero_add, flC_len, show L.length * 9 = (flC (List.replicate L.length zPP)).length by rw [flC_len]; simp, List.drop_left]
theorem range_block {W : World} {g : Nat} {cs : List Value} {t : TypeId} (h : W.heap[g]? = some (.cells cs.toArray t (0, 0))) : W.rangeAt g 0 cs ∧ W.there g 0 cs.length := by
  refine ⟨fun j v hv => ?_, fun j hj => ⟨?_, ?_⟩⟩
  · rw [Nat.zero_add, cell_of_row W g j _ _ _ h]; simpa using hv
  · rw [Nat.zero_add, cell_of_row W g j _ _ _ h]; simp [hj]
  · rw [Nat.zero_add]; exact frozen_of_row W g j _ _ h
theorem run_copyP {P : Program} (w : World) (dT sT ty elem : TypeId) (s g o dLen dCap : Nat) (ad : Addr) (sp : Option Addr) (sLen sCap : Nat) (cur : Array Value) (t : TypeId) (cs : List Value) (n : Nat)
    (hu : P.underlying dT = some (.slice elem)) (hs : (P.info? elem).map (·.size) = some s)
    (hg : w.heap[g]? = some (.cells cur t (0, 0))) (hn : n = Nat.min sLen dLen) (hc : cs.length = n * s) (hp : sp = some ad ∨ (sp = none ∧ cs = []))
    (hsrc : ∀ j v, cs[j]? = some v → w.cell? (ad.add j) = some v) (hfit : o + cs.length ≤ cur.size) (h1 : ∀ v ∈ cs, v.oneCell' = true) :
    (Builtin.copy_ #[dT, sT] ty #[.slice (some ⟨g, o, none⟩) dLen dCap, .slice sp sLen sCap]).run P w =
      .ok (goInt n) (w.setRow g (cur.toList.take o ++ cs ++ cur.toList.drop (o + cs.length)).toArray) := by
  have hl := run_loadCells_list (P := P) w ad cs hsrc
  have hst := run_storeCells_at P g o t cs 0 cur w hg (by simpa using hfit) h1
  cases hq : P.info? elem with
  | none => simp [hq] at hs
  | some i =>
    have hi : i.size = s := by simpa [hq] using hs
    rw [hc] at hl
    rcases hp with rfl | ⟨rfl, rfl⟩
    · simp [Builtin.copy_, run_underlying hu, Builtin.lenOf, Builtin.firstCells, sizeOf, typeInfo, hq, hi, ← hn, hl, hst]
    · simp only [Nat.add_zero, List.append_nil, List.length_nil] at hst
      simp [Builtin.copy_, run_underlying hu, Builtin.lenOf, Builtin.firstCells, sizeOf, typeInfo, hq, ← hn, hst]
theorem wpList_copyP {P : Program} {w : World} {ops : Array Oper} {rest : List Oper} {o : Oper} {a : Act} {Q : Exit → Act → World → Prop} (hgd : o.guard = none) (d x : Operand) (dT sT : TypeId)
    (ho : o.op = .call { callee := .builtin .copy, args := #[d, x], argTypes := #[dT, sT] }) (elem : TypeId) (s : Nat) (hu : P.underlying dT = some (.slice elem)) (hsz : (P.info? elem).map (·.size) = some s)
    (g off dLen dCap : Nat) (ad : Addr) (sp : Option Addr) (sLen sCap : Nat) (hd : a.eval d = .slice (some ⟨g, off, none⟩) dLen dCap) (hs : a.eval x = .slice sp sLen sCap)
    (cur : List Value) (t : TypeId) (hg : w.heap[g]? = some (.cells cur.toArray t (0, 0))) (cs : List Value) (n : Nat) (hn : n = Nat.min sLen dLen) (hc : cs.length = n * s) (hp : sp = some ad ∨ (sp = none ∧ cs = []))
    (hsrc : ∀ j v, cs[j]? = some v → w.cell? (ad.add j) = some v) (hfit : off + cs.length ≤ cur.length) (h1 : ∀ v ∈ cs, v.oneCell' = true) (B : Nat) (w0 : World) (hb : Below B w0 w) (hBg : B ≤ g)
    (h : ∀ w', Hid (w'.heap[g]? = some (.cells (splice cur off cs).toArray t (0, 0))) → Below B w0 w' → wpList P ops Q rest (a.put o.dst (goInt n)) w') : wpList P ops Q (o :: rest) a w := by
  refine wpList_plain hgd fun K hK => ?_
  have hrun := run_copyP (P := P) w dT sT o.type elem s g off dLen dCap ad sp sLen sCap cur.toArray t cs n hu hsz hg hn hc hp hsrc (by simpa using hfit) h1
  unfold Oper.wp
  simp [execOp, ho, resolve, invoke, builtin, hd, hs, hrun, Result.andThen]
  refine hK _ _ (h _ ?_ (below_setRow hb hBg _))
  have e := setRow_heap w g cur.toArray (cur.take off ++ (cs ++ cur.drop (off + cs.length))).toArray t _ hg
  exact e
theorem info_pt : (Tryd.prog.info? 27).map (fun i => (i.zero, i.size, i.bytes)) = some (some (.agg #[.int .u64 0, .int .u64 0, .int .u64 0, .int .u64 0, .int .u64 0, .int .u64 0, .int .u64 0, .int .u64 0, .bool false]), 9, 72) := by kernel_rfl
theorem info_parts9 {i : Option TypeInfo} {z : Option Value} {s b : Nat} (h : i.map (fun i => (i.zero, i.size, i.bytes)) = some (z, s, b)) : ∃ j, i = some j ∧ j.zero = z ∧ j.size = s ∧ j.bytes = b := by
  cases i with
  | none => simp at h
  | some j => simp at h; exact ⟨j, rfl, h.1, h.2.1, h.2.2⟩
theorem wpList_make_pts (w : World) {ops : Array Oper} {rest : List Oper} {o : Oper} {a : Act} {Q : Exit → Act → World → Prop}
    (hg : o.guard = none) (l c : Operand) (hop : o.op = Op.makeSlice 22 l c)
    (kl kc : IntKind) (L C : Int) (m : Nat) (hl : a.eval l = .int kl L) (hc : a.eval c = .int kc C) (eL : L = (m : Int)) (eC : C = (m : Int)) (hm : m ≤ 3000000000000)
    (hK : wpList Tryd.prog ops Q rest (a.put o.dst (.slice (some ⟨w.heap.size, 0, none⟩) m m)) (w.alloc (.cells (flC (List.replicate m zPP)).toArray 27))) :
    wpList Tryd.prog ops Q (o :: rest) a w := by
  subst eL eC
  obtain ⟨i, hi, hz, hs, hby⟩ := info_parts9 info_pt
  refine wpList_plain hg fun K hK' => ?_
  have hr := run_make (P := Tryd.prog) w 22 27 i _ Tryd.underlying22 hi hz kl kc m m (by omega) (by omega) (by rw [hby]; omega) (by omega)
  have ez : (Value.agg #[.int .u64 0, .int .u64 0, .int .u64 0, .int .u64 0, .int .u64 0, .int .u64 0, .int .u64 0, .int .u64 0, .bool false]).cells = #[.int .u64 0, .int .u64 0, .int .u64 0, .int .u64 0, .int .u64 0, .int .u64 0, .int .u64 0, .int .u64 0, .bool false] := rfl
  have em : madeCells #[Value.int .u64 0, .int .u64 0, .int .u64 0, .int .u64 0, .int .u64 0, .int .u64 0, .int .u64 0, .int .u64 0, .bool false] (m * 9) = (flC (List.replicate m zPP)).toArray := by
    rw [← made_pts]
  rw [Int.toNat_natCast, hs, ez, em] at hr
  unfold Oper.wp
  generalize (flC (List.replicate m zPP)).toArray = Z at *
  simp [execOp, hop, hl, hc, hr, Result.andThen]
  exact hK' _ _ hK
end Go.Proofs.YtgedkdkaddcmmaaDoor

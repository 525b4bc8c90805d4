import Derived.Test.YtllfmlgnemkklaaDoorTsC
import Derived.Laws.StructEq
/- '==' of numbers, arrays of bytes and authorizations: any two. -/
namespace Go.Proofs.YtllfmlgnemkklaaDoor.tq
open Go.RowKit Go.Sort
theorem eq_lim (d : Nat) (a0 a1 a2 a3 b0 b1 b2 b3 : Int) (w : World) : (Op.equalIn (d + 2) 24 (.agg #[.int .u64 a0, .int .u64 a1, .int .u64 a2, .int .u64 a3]) (.agg #[.int .u64 b0, .int .u64 b1, .int .u64 b2, .int .u64 b3])).run Tryd.prog w = .ok (decide (a0 = b0) && (decide (a1 = b1) && (decide (a2 = b2) && decide (a3 = b3)))) w := by
  have tu := Tryd.underlying22
  have ta := Tryd.isAgg22
  have tz := Tryd.sizeOf22
  rw [Op.equalIn]
  simp only [Sem.run_bind, run_underlying Tryd.underlying24, Result.andThen_ok]
  simp only [Std.Legacy.Range.forIn_eq_forIn_range', Std.Legacy.Range.size, Nat.sub_zero, Nat.add_sub_cancel, Nat.div_one, List.range'_succ, List.range'_zero, List.forIn_cons, List.forIn_nil]
  by_cases h0 : a0 = b0
  · subst h0
    by_cases h1 : a1 = b1
    · subst h1
      by_cases h2 : a2 = b2
      · subst h2
        by_cases h3 : a3 = b3
        · subst h3; go_simp
        · go_simp
      · go_simp
    · go_simp
  · go_simp
theorem eq_num (d : Nat) {x y : Int} (hx : Num x) (hy : Num y) (w : World) : (Op.equalIn (d + 2) 24 (.agg #[.int .u64 (l0 x), .int .u64 (l1 x), .int .u64 (l2 x), .int .u64 (l3 x)]) (.agg #[.int .u64 (l0 y), .int .u64 (l1 y), .int .u64 (l2 y), .int .u64 (l3 y)])).run Tryd.prog w = .ok (decide (x = y)) w := by
  rw [eq_lim]
  congr 1
  by_cases h : x = y
  · subst h; simp
  · rw [decide_eq_false h]
    by_cases h0 : l0 x = l0 y
    · by_cases h1 : l1 x = l1 y
      · by_cases h2 : l2 x = l2 y
        · by_cases h3 : l3 x = l3 y
          · exact absurd (by rw [← num_l hx, ← num_l hy, h0, h1, h2, h3]) h
          · simp [h3]
        · simp [h2]
      · simp [h1]
    · simp [h0]
end Go.Proofs.YtllfmlgnemkklaaDoor.tq

/- StillHashes of what LentHashes made; sameEntry; slices.EqualFunc of entries. -/
namespace Go.Proofs.YtllfmlgnemkklaaDoor.tq
open Go.RowKit Go.Sort
theorem getD_app {α : Type} {z : α} {L M : List α} {i : Nat} (h : i < L.length) : (L ++ M).getD i z = L.getD i z := by
  simp [List.getD, List.getElem?_append_left h]
theorem getD_appR {α : Type} {z : α} {L M : List α} (i : Nat) : (L ++ M).getD (L.length + i) z = M.getD i z := by
  simp [List.getD, List.getElem?_append_right (Nat.le_add_right _ _)]
theorem lent_len {ks : List (List Int)} (h : ∀ i, i < ks.length → (hC (ks.getD i [])).length = 32) (i : Nat) (hi : i < (ks ++ [mkHs, mkHs]).length) : (hC ((ks ++ [mkHs, mkHs]).getD i [])).length = 32 := by
  by_cases e : i < ks.length
  · rw [getD_app e]; exact h i e
  · rw [List.length_append] at hi
    have : i = ks.length + 0 ∨ i = ks.length + 1 := by simp at hi; omega
    rcases this with rfl | rfl <;> (rw [getD_appR]; rfl)
theorem size_en : (Tryd.prog.info? 41).map (·.size) = some 21 := by kernel_rfl
theorem enC_len {e : En} (h : e.adr.length = 20) : (enC e).length = 21 := by rw [enC, List.length_append, hC_len, h]; rfl
theorem EnG.keep {W W' : World} {e : En} (h : EnG W e) (B : Below W.heap.size W W') : EnG W' e := ⟨h.1, h.2.1, h.2.2.1, fun i hi => ⟨(h.2.2.2 i hi).1, range_keep (h.2.2.2 i hi).2 B⟩⟩
theorem KsG.keep {W W' : World} {a : Option Addr} {b o c : Nat} {ks : List (List Int)} (h : KsG W a b o c ks) (B : Below W.heap.size W W') : KsG W' a b o c ks := ⟨h.1, h.2.1, fun i hi => ⟨(h.2.2 i hi).1, range_keep (h.2.2 i hi).2 B⟩⟩
theorem UsG.keep {W W' : World} {a : Option Addr} {b o c : Nat} {us : List Aun} (h : UsG W a b o c us) (B : Below W.heap.size W W') : UsG W' a b o c us := ⟨h.1, h.2.1, fun i hi => ⟨(h.2.2 i hi).1, range_keep (h.2.2 i hi).2 B⟩⟩
theorem EsG.keep {W W' : World} {a : Option Addr} {b o c : Nat} {es : List En} (h : EsG W a b o c es) (B : Below W.heap.size W W') : EsG W' a b o c es := ⟨h.1, h.2.1, fun i hi => ⟨(h.2.2 i hi).1.keep B, range_keep (h.2.2 i hi).2 B⟩⟩
theorem BtG.keep {W W' : World} {a : Option Addr} {b o c : Nat} {X : List Int} (h : BtG W a b o c X) (B : Below W.heap.size W W') : BtG W' a b o c X := ⟨h.1, h.2.1, h.2.2.1.keep B, h.2.2.2⟩
theorem TxG.keep {W W' : World} {t : Txv} (h : TxG W t) (B : Below W.heap.size W W') : TxG W' t := ⟨h.ty, h.ch, h.no, h.pr, h.ti, h.ca, h.gas, h.to, h.va, h.D.keep B, h.E.keep B, h.bc, h.Hs.keep B, h.U.keep B, h.sv, h.sr, h.ss⟩
end Go.Proofs.YtllfmlgnemkklaaDoor.tq

/- Tools: a value put into a block; a row loaded, two compared, under a guard. -/
namespace Go.Proofs.YtllfmlgnemkklaaDoor.tq
open Go.RowKit Go.Sort
theorem wpList_boxT {P : Program} {ops : Array Oper} {rest : List Oper} {o : Oper} {a : Act} {w : World} {Q : Exit → Act → World → Prop} (hg : o.guard = none) (t : TypeId) (x : Operand) (ho : o.op = .box t x) (cs : List Value) (hx : a.eval x = .agg cs.toArray)
    (h : ∀ (b : Nat) (W : World), Hid (b = w.heap.size ∧ W.heap.size = b + 1) → Below w.heap.size w W → W.rangeAt b 0 cs → wpList P ops Q rest (a.put o.dst (.pointer (some ⟨b, 0, none⟩))) W) : wpList P ops Q (o :: rest) a w := by
  refine wpList_plain hg fun K hK => ?_
  unfold Oper.wp execOp
  simp only [ho, Sem.run_bind, Instr.box, newVar, newRow, run_newObj_alloc, Sem.run_pure, Result.andThen_ok]
  refine hK _ _ (h _ _ ⟨rfl, World.size_alloc _ _⟩ ((Below.refl _ _).alloc (Nat.le_refl _) _) ?_)
  rw [hx]
  exact new_range
theorem wpList_load_midT {P : Program} {ops : Array Oper} {rest : List Oper} {op : Oper} {a : Act} {w : World} {Q : Exit → Act → World → Prop} (hw : Region.wanted op (yielded ops a.tmps) = true) (ty : TypeId) (x : Operand) (ho : op.op = .load ty x)
    (b o : Nat) (hx : a.eval x = .pointer (some ⟨b, o, none⟩)) (cs : List Value) (d : TypeDesc) (hc : w.rangeAt b o cs)
    (hu : P.underlying ty = some d) (hd : d.isRow = true) (hi : (P.info? ty).map (·.size) = some cs.length)
    (h : wpList P ops Q rest (a.put op.dst (.agg cs.toArray)) w) : wpList P ops Q (op :: rest) a w := by
  unfold wpList
  rw [if_pos hw]
  exact .inl (wp_load_mid ty x ho b o hx cs d hc hu hd hi h)
end Go.Proofs.YtllfmlgnemkklaaDoor.tq

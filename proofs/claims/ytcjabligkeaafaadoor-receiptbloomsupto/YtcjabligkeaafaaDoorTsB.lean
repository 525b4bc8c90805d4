import Derived.Test.YtcjabligkeaafaaDoorTsA
import Derived.Test.YtcjabligkeaafaaDoorAdEqB
import Derived.Great.BuildSlice
/- waybillplay: Copy, Lent, LentHashes. -/
namespace Go.Proofs.YtcjabligkeaafaaDoor.tq
open Go.RowKit Go.Sort
theorem size_hs : (Tryd.prog.info? 26).map (·.size) = some 32 := by kernel_rfl
theorem size_ad : (Tryd.prog.info? 24).map (·.size) = some 20 := by kernel_rfl
theorem hC_len (X : List Int) : (hC X).length = X.length := List.length_map _
theorem hC_one (X : List Int) : ∀ u ∈ hC X, u.oneCell' = true := fun u hu => by
  obtain ⟨y, _, rfl⟩ := List.mem_map.1 hu; rfl
theorem eq_hs {X Y : List Int} (hx : X.length = 32) (hy : Y.length = 32) (w : World) : (Op.equalIn 10000 26 (.agg (hC X).toArray) (.agg (hC Y).toArray)).run Tryd.prog w = .ok (decide (X = Y)) w := by
  unfold hC
  rw [show (10000 : Nat) = 9999 + 1 from rfl, Op.equalIn]
  have tz : (sizeOf 5).run Tryd.prog w = .ok 1 w := by have := Tryd.sizeOf5; simp [go_sem, this]
  simp only [Sem.run_bind, run_underlying Tryd.underlying26, Result.andThen_ok, tz]
  simp only [Std.Legacy.Range.forIn_eq_forIn_range', Std.Legacy.Range.size, Nat.sub_zero, Nat.add_sub_cancel, Nat.div_one]
  have h := eq_loopJ (X := X) (Y := Y) w 32 0 (by omega) (by omega)
  rw [h, sameJ_eq hx hy]
  by_cases e : X = Y <;> simp [e]
theorem eq_ad {X Y : List Int} (hx : X.length = 20) (hy : Y.length = 20) (w : World) : (Op.equalIn 10000 24 (.agg (hC X).toArray) (.agg (hC Y).toArray)).run Tryd.prog w = .ok (decide (X = Y)) w := eq_adrJ hx hy w
theorem quiet_load_midT {P : Program} {C : World → Prop} {a : Act} {o : Oper} {K : Act → Prop} (ty : TypeId) (x : Operand) (ho : o.op = .load ty x)
    (b f : Nat) (hx : a.eval x = .pointer (some ⟨b, f, none⟩)) (cs : List Value) (d : TypeDesc) (hS : ∀ w, C w → w.rangeAt b f cs)
    (hu : P.underlying ty = some d) (hd : d.isRow = true) (hi : (P.info? ty).map (·.size) = some cs.length) (h : K (a.put o.dst (.agg cs.toArray))) : o.quiet P a C K :=
  ⟨.agg cs.toArray, fun w hw => by
    unfold Oper.quietAt execOp
    simp only [ho, hx, Instr.loadAt, Instr.sureAddr, Sem.run_bind, Sem.run_pure, Result.andThen_ok, run_loadVar_mid w b f ty cs d (hS w hw) hu hd hi]
    exact ⟨rfl, rfl⟩, h⟩
theorem new_range {W : World} {cs : List Value} {t : TypeId} : (W.alloc (.cells cs.toArray t)).rangeAt W.heap.size 0 cs := fun j v hv => by
  have hn : (W.alloc (.cells cs.toArray t)).heap[W.heap.size]? = some (.cells cs.toArray t) := by
    show (W.heap.push _)[W.heap.size]? = _
    simp
  rw [Nat.zero_add, cell_of_row _ _ j _ _ _ hn]; simpa using hv
theorem rI_h : rowInfo Tryd.prog 26 32 32 = true := by kernel_rfl
theorem KsG.len {W : World} {a : Option Addr} {b o c : Nat} {ks : List (List Int)} (h : KsG W a b o c ks) (i : Nat) (hi : i < ks.length) : (hC (ks.getD i [])).length = 32 := by
  rw [hC_len]; exact (h.2.2 i hi).1.1
end Go.Proofs.YtcjabligkeaafaaDoor.tq

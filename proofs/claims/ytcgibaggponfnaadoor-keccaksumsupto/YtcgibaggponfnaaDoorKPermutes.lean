import Derived.Test.YtcgibaggponfnaaDoorKRPerm
import Derived.Test.YtcgibaggponfnaaDoorKEq
namespace Go.Proofs.YtcgibaggponfnaaDoor
open Go.RowKit Go.Sort

theorem Tab.grown {W : World} {b : Nat} {l : List Nat} (h : Tab W b l) (d : Nat) (os : Array Obj) : Tab (grow (redrawn W d) os) b l := fun i hi => cell_regrown (h i hi) d os
theorem Lns.grown {W : World} {b : Nat} {L : List (BitVec 64)} (h : Lns W b L) (d : Nat) (os : Array Obj) : Lns (grow (redrawn W d) os) b L := fun i hi => cell_regrown (h i hi) d os

theorem quiet_load_mid {P : Program} {C : World → Prop} {a : Act} {o : Oper} {K : Act → Prop} (ty : TypeId) (x : Operand) (ho : o.op = .load ty x)
    (b f : Nat) (hx : a.eval x = .pointer (some ⟨b, f, none⟩)) (cs : List Value) (d : TypeDesc) (hS : ∀ w, C w → w.rangeAt b f cs)
    (hu : P.underlying ty = some d) (hd : d.isRow = true) (hi : (P.info? ty).map (·.size) = some cs.length) (h : K (a.put o.dst (.agg cs.toArray))) : o.quiet P a C K :=
  ⟨.agg cs.toArray, fun w hw => by
    unfold Oper.quietAt execOp
    simp only [ho, hx, Instr.loadAt, Instr.sureAddr, Sem.run_bind, Sem.run_pure, Result.andThen_ok, run_loadVar_mid w b f ty cs d (hS w hw) hu hd hi]
    exact ⟨rfl, rfl⟩, h⟩

set_option maxRecDepth 100000 in
set_option maxHeartbeats 4000000 in
theorem permutes_any {L : List (BitVec 64)} (hl : L.length = 25) (w : World) (ht : Tab w 3 turnsN) (hm : Lns w 0 marksN) (rt : Tab w 2 turnsN) (rm : Lns w 1 marksN) :
    Calls Tryd.prog 4 #[.agg (lanes L).toArray] w fun e w' => e = .returned (.bool true) ∧ Below w.heap.size w w' := by
  have HH : Hid (Tab w 3 turnsN ∧ Lns w 0 marksN ∧ Tab w 2 turnsN ∧ Lns w 1 marksN) := ⟨ht, hm, rt, rm⟩
  clear ht hm rt rm
  go_enter Tryd.func4, Tryd.ntmps4
  go_wp2_with fail
  refine wp_world (fun W => Below w.heap.size w W ∧ Arr W w.heap.size L) ⟨(Below.refl _ _).alloc (Nat.le_refl _) _, Arr.new hl _ rfl⟩ ?_
  rintro W ⟨B, hA⟩
  have HB : Hid (Below w.heap.size w W) := B
  have HM : Hid ((lanes L).length = 25) := by rw [lanes_len]; exact hl
  have ld : Hid (∀ w', (∃ p : Regrown, w' = grow (redrawn W p.d) p.os) → w'.rangeAt w.heap.size 0 (lanes L)) := by rintro w' ⟨p, rfl⟩; exact (hA.2.1.grown _ _).range
  have HL : Hid (L.length = 25) := hl
  have TT : Hid (Tab W 3 turnsN ∧ Lns W 0 marksN ∧ Tab W 2 turnsN ∧ Lns W 1 marksN) := ⟨HH.out.1.keep B, HH.out.2.1.keep B, HH.out.2.2.1.keep B, HH.out.2.2.2.keep B⟩
  have eqq := fun w => eq_lanes (perm_len hl) (perm_len hl) w
  simp only [decide_true] at eqq
  clear B hA hl HH
  refine wp_region_quiet_below (by kernel_rfl) (by kernel_rfl) ?_
  repeat
    first
      | go_big_quiet_skip
      | (go_big_quiet_want; go_big_quiet_op; go_big_quiet_on)
      | (go_big_quiet_want
         refine quiet_load_mid 23 _ rfl w.heap.size 0 rfl (lanes L) _ ld.out Tryd.underlying23 rfl (by rw [HM.out]; kernel_rfl) ?_
         simp only [Act.put, List.setIfInBounds_toArray, List.set_cons_succ, List.set_cons_zero]
         go_big_quiet_on)
      | (go_big_quiet_want
         go_big_quiet_op
         apply Exists.intro
         refine ⟨fun p => ?_, ?_⟩
         · first
             | (go_at_call 9; exact Calls.regrown_of (perm_any HL.out _ (TT.out.1.grown _ _) (TT.out.2.1.grown _ _)))
             | (go_at_call 10; exact Calls.regrown_of (rperm_any HL.out _ (TT.out.2.2.1.grown _ _) (TT.out.2.2.2.grown _ _)))
         go_big_quiet_on)
  refine wpQuiet_nil ?_
  rintro w1 ⟨p, rfl⟩
  have hb := HB.out.trans ((below_regrown W p.d p.os).mono HB.out.size)
  generalize grow (redrawn W p.d) p.os = w1 at *
  go_wp2
  go_ret
  exact ⟨rfl, hb⟩

end Go.Proofs.YtcgibaggponfnaaDoor

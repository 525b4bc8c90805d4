import Derived.Test.YtihcbllefnbejaaGreatDoorKBase
import Derived.Deep.MidRow
import Derived.Laws.StructEq
/- Layer 24: a nil pool. -/
namespace Go.Proofs.YtihcbllefnbejaaGreatDoor
open Go.RowKit Go.Sort
theorem wpList_worldQ {P : Program} {ops : Array Oper} {Q : Exit → Act → World → Prop} {l : List Oper} {a : Act} {w : World} (I : World → Prop) (h : I w) (k : ∀ W, I W → wpList P ops Q l a W) : wpList P ops Q l a w := k w h
theorem there_newQ {W : World} {b : Nat} {cs : Array Value} {t : TypeId} (e : b = W.heap.size) {n : Nat} (hn : n = cs.size) : (W.alloc (.cells cs t)).there b 0 n := by
  subst e hn
  intro j hj
  rw [Nat.zero_add, World.cell?_alloc_mark, World.frozen?_alloc_mark]
  refine ⟨by simp [hj], ?_⟩
  simp
theorem below_setCellsQ {n : Nat} {w : World} {b : Nat} (hb : n ≤ b) (vs : List Value) (k : Nat) (W : World) (h : Below n w W) : Below n w (W.setCells b k vs) := by
  induction vs generalizing k W with
  | nil => exact h
  | cons v vs ih => exact ih _ _ (h.setCell hb _)
theorem laid_inQ {w W : World} {n b : Nat} {D : List Value} (B : Below n w W) (hb : n ≤ b) (ht : W.there b 0 D.length) : Below n w (W.setCells b 0 D) ∧ (W.setCells b 0 D).rangeAt b 0 D := ⟨below_setCellsQ hb D 0 W B, World.rangeAt_setCells_same _ _ _ _ ht⟩
def haQ : List Value := List.replicate 32 (.int .u8 0)
theorem haQ_len : haQ.length = 32 := by simp [haQ]
theorem haQ_one : haQ.toArray.all (·.oneCell') = true := all_oneCell_toArray fun v hv => by rw [(List.mem_replicate.1 hv).2]; rfl
theorem rangeBoxQ {W : World} {M : List Value} {t : TypeId} : (W.alloc (.cells M.toArray t)).rangeAt W.heap.size 0 M := fun j v hv => by
  rw [Nat.zero_add, World.cell?_alloc_mark]
  simpa using hv
theorem range_keepQ {W W' : World} {b o : Nat} {M : List Value} (h : W.rangeAt b o M) (hb : Below W.heap.size W W') : W'.rangeAt b o M := fun j v hv => by
  rw [hb.cell (World.block_lt_of_cell? W _ (h j v hv))]; exact h j v hv
theorem haQ_zero (w : World) : (zeroValue 24).run Tryz.prog w = .ok (.agg haQ.toArray) w := by
  have h : (Tryz.prog.info? 24).map (·.zero) = some (some (.agg haQ.toArray)) := by kernel_rfl
  obtain ⟨i, hi, hz⟩ := Option.map_eq_some_iff.1 h
  simp [zeroValue, typeInfo, go_sem, hi, hz]
theorem built_haQ : Tryz.prog.built 24 [] = some haQ.toArray := by kernel_rfl
theorem wpList_load_midQ {P : Program} {ops : Array Oper} {rest : List Oper} {op : Oper} {a : Act} {w : World} {Q : Exit → Act → World → Prop} (hw : Region.wanted op (yielded ops a.tmps) = true) (ty : TypeId) (x : Operand) (ho : op.op = .load ty x)
    (b o : Nat) (hx : a.eval x = .pointer (some ⟨b, o, none⟩)) (cs : List Value) (d : TypeDesc) (hc : w.rangeAt b o cs)
    (hu : P.underlying ty = some d) (hd : d.isRow = true) (hi : (P.info? ty).map (·.size) = some cs.length)
    (h : wpList P ops Q rest (a.put op.dst (.agg cs.toArray)) w) : wpList P ops Q (op :: rest) a w := by
  unfold wpList
  rw [if_pos hw]
  exact .inl (wp_load_mid ty x ho b o hx cs d hc hu hd hi h)
theorem ha_sizeQ : (Tryz.prog.info? 24).map (·.size) = some 32 := by kernel_rfl
theorem eq_haQ (w : World) : (Op.equalIn 10000 24 (.agg haQ.toArray) (.agg haQ.toArray)).run Tryz.prog w = .ok true w := by kernel_rfl
set_option maxRecDepth 100000 in
set_option maxHeartbeats 4000000 in
theorem Raw_nilQ (h : Array Value) (w : World) : Calls Tryz.prog 5 #[.pointer none, .agg h] w fun e w' => e = .returned (.tuple #[.slice none 0 0, .int .i64 1]) ∧ Below w.heap.size w w' := by
  go_enter Tryz.func5, Tryz.ntmps5
  go_wp2
  simp [bodyPost, results, Tryz.results5, go_sem]
  repeat (first | with_reducible exact Below.refl _ _ | with_reducible refine Below.alloc ?_ (by first | omega | (simp; done) | (simp; omega)) _)
set_option maxRecDepth 100000 in
set_option maxHeartbeats 4000000 in
theorem SetAccount_nilQ (a v : Array Value) (w : World) : Calls Tryz.prog 6 #[.pointer none, .agg a, .int .u64 0, .agg v] w fun e w' => e = .returned (.int .i64 1) ∧ Below w.heap.size w w' := by
  go_enter Tryz.func6, Tryz.ntmps6
  go_wp2
  simp [bodyPost, results, Tryz.results6, go_sem]
  repeat (first | with_reducible exact Below.refl _ _ | with_reducible refine Below.alloc ?_ (by first | omega | (simp; done) | (simp; omega)) _)
set_option maxRecDepth 100000 in
set_option maxHeartbeats 4000000 in
theorem SetBase_nilQ (v : Array Value) (w : World) : Calls Tryz.prog 7 #[.pointer none, .agg v] w fun e w' => e = .returned (.int .i64 1) ∧ Below w.heap.size w w' := by
  go_enter Tryz.func7, Tryz.ntmps7
  go_wp2
  simp [bodyPost, results, Tryz.results7, go_sem]
  repeat (first | with_reducible exact Below.refl _ _ | with_reducible refine Below.alloc ?_ (by first | omega | (simp; done) | (simp; omega)) _)
set_option maxRecDepth 100000 in
set_option maxHeartbeats 4000000 in
theorem Drop_nilQ (h : Array Value) (w : World) : Calls Tryz.prog 8 #[.pointer none, .agg h] w fun e w' => e = .returned (.int .i64 1) ∧ Below w.heap.size w w' := by
  go_enter Tryz.func8, Tryz.ntmps8
  go_wp2
  simp [bodyPost, results, Tryz.results8, go_sem]
  repeat (first | with_reducible exact Below.refl _ _ | with_reducible refine Below.alloc ?_ (by first | omega | (simp; done) | (simp; omega)) _)
set_option maxRecDepth 100000 in
set_option maxHeartbeats 4000000 in
theorem Has_nilQ (h : Array Value) (w : World) : Calls Tryz.prog 9 #[.pointer none, .agg h] w fun e w' => e = .returned (.bool false) ∧ Below w.heap.size w w' := by
  go_enter Tryz.func9, Tryz.ntmps9
  go_wp2
  simp [bodyPost, results, Tryz.results9, go_sem]
  repeat (first | with_reducible exact Below.refl _ _ | with_reducible refine Below.alloc ?_ (by first | omega | (simp; done) | (simp; omega)) _)
set_option maxRecDepth 100000 in
set_option maxHeartbeats 4000000 in
theorem Len_nilQ  (w : World) : Calls Tryz.prog 10 #[.pointer none] w fun e w' => e = .returned (.int .i64 0) ∧ Below w.heap.size w w' := by
  go_enter Tryz.func10, Tryz.ntmps10
  go_wp2
  simp [bodyPost, results, Tryz.results10, go_sem]
  repeat (first | with_reducible exact Below.refl _ _ | with_reducible refine Below.alloc ?_ (by first | omega | (simp; done) | (simp; omega)) _)
set_option maxRecDepth 100000 in
set_option maxHeartbeats 4000000 in
theorem Next_nilQ (a : Array Value) (w : World) : Calls Tryz.prog 11 #[.pointer none, .agg a] w fun e w' => e = .returned (.int .u64 0) ∧ Below w.heap.size w w' := by
  go_enter Tryz.func11, Tryz.ntmps11
  go_wp2
  simp [bodyPost, results, Tryz.results11, go_sem]
  repeat (first | with_reducible exact Below.refl _ _ | with_reducible refine Below.alloc ?_ (by first | omega | (simp; done) | (simp; omega)) _)
set_option maxRecDepth 100000 in
set_option maxHeartbeats 4000000 in
theorem Waiting_nilQ  (w : World) : Calls Tryz.prog 12 #[.pointer none] w fun e w' => e = .returned (.slice none 0 0) ∧ Below w.heap.size w w' := by
  go_enter Tryz.func12, Tryz.ntmps12
  go_wp2
  simp [bodyPost, results, Tryz.results12, go_sem]
  repeat (first | with_reducible exact Below.refl _ _ | with_reducible refine Below.alloc ?_ (by first | omega | (simp; done) | (simp; omega)) _)
set_option maxRecDepth 100000 in
set_option maxHeartbeats 4000000 in
theorem Ready_nilQ  (w : World) : Calls Tryz.prog 13 #[.pointer none, .int .u64 1] w fun e w' => e = .returned (.slice none 0 0) ∧ Below w.heap.size w w' := by
  go_enter Tryz.func13, Tryz.ntmps13
  go_wp2
  simp [bodyPost, results, Tryz.results13, go_sem]
  repeat (first | with_reducible exact Below.refl _ _ | with_reducible refine Below.alloc ?_ (by first | omega | (simp; done) | (simp; omega)) _)
set_option maxRecDepth 100000 in
set_option maxHeartbeats 4000000 in
theorem Mined_nilQ (v : Value) (w : World) : Calls Tryz.prog 14 #[.pointer none, v] w fun e w' => e = .returned (.int .i64 0) ∧ Below w.heap.size w w' := by
  go_enter Tryz.func14, Tryz.ntmps14
  go_wp2
  simp [bodyPost, results, Tryz.results14, go_sem]
  repeat (first | with_reducible exact Below.refl _ _ | with_reducible refine Below.alloc ?_ (by first | omega | (simp; done) | (simp; omega)) _)
set_option maxRecDepth 100000 in
set_option maxHeartbeats 4000000 in
theorem Add_nilQ (v : Value) (w : World) : Calls Tryz.prog 4 #[.pointer none, v] w fun e w' => e = .returned (.tuple #[.agg haQ.toArray, .int .i64 1]) ∧ Below w.heap.size w w' := by
  have zh := haQ_zero
  have bz := built_haQ
  have on := haQ_one
  have iz : (Tryz.prog.info? 24).map (·.size) = some haQ.toArray.size := by rw [List.size_toArray, haQ_len]; exact ha_sizeQ
  have iz' : (Tryz.prog.info? 24).map (·.size) = some haQ.length := by rw [haQ_len]; exact ha_sizeQ
  generalize haQ = Z at *
  go_enter Tryz.func4, Tryz.ntmps4
  have B0 : Below w.heap.size w (w.alloc (.cells Z.toArray 24)) := (Below.refl _ _).alloc (Nat.le_refl _) _
  have T0 : (w.alloc (.cells Z.toArray 24)).there w.heap.size 0 Z.toArray.size := there_newQ rfl rfl
  go_wp2_with ((refine wpList_store_mid rfl 24 _ _ rfl w.heap.size 0 Z.toArray rfl rfl T0 iz on ?_); (refine wpList_worldQ (fun W' => Below w.heap.size w W' ∧ W'.rangeAt w.heap.size 0 Z) (laid_inQ B0 (by omega) (by simpa using T0)) ?_); rintro W' ⟨B', hD⟩)
  have ld := run_loadVar_mid (P := Tryz.prog) W' w.heap.size 0 24 Z _ hD Tryz.underlying24 rfl iz'
  refine bodyPost_ret (v := .tuple #[.agg Z.toArray, .int .i64 1]) ?_ rfl ⟨rfl, B'⟩
  simp [results, Tryz.results4, asAddr, ld]
set_option maxRecDepth 100000 in
set_option maxHeartbeats 16000000 in
theorem poolnil_any (w : World) : Calls Tryz.prog 3 #[] w fun e w' => e = .returned (.bool true) ∧ Below w.heap.size w w' := by
  have zh := haQ_zero
  have bz := built_haQ
  have on := haQ_one
  have eq := eq_haQ
  have AN : Hid (∀ v w, Calls Tryz.prog 4 #[.pointer none, v] w fun e w' => e = .returned (.tuple #[.agg haQ.toArray, .int .i64 1]) ∧ Below w.heap.size w w') := Add_nilQ
  have LZ : Hid ((Tryz.prog.info? 24).map (·.size) = some haQ.toArray.size ∧ (Tryz.prog.info? 24).map (·.size) = some haQ.length ∧ haQ.length = 32) := ⟨by rw [List.size_toArray, haQ_len]; exact ha_sizeQ, by rw [haQ_len]; exact ha_sizeQ, haQ_len⟩
  generalize haQ = Z at *
  go_enter Tryz.func3, Tryz.ntmps3
  have BB : Below w.heap.size w w := Below.refl _ _
  have RW : Hid (∀ h w, Calls Tryz.prog 5 #[.pointer none, .agg h] w fun e w' => e = .returned (.tuple #[.slice none 0 0, .int .i64 1]) ∧ Below w.heap.size w w') := Raw_nilQ
  go_wp2_with fail
  refine calls_world (fun W => Below w.heap.size w W) (BB.alloc BB.size _) ?_
  clear BB
  intro W1 BB
  refine (AN.out _ W1).mono ?_
  rintro e1 w1 ⟨rfl, hb⟩
  replace BB := BB.trans (hb.mono BB.size)
  clear hb AN
  have iz : (Tryz.prog.info? 24).map (·.size) = some Z.toArray.size := LZ.out.1
  have iz' : (Tryz.prog.info? 24).map (·.size) = some Z.length := LZ.out.2.1
  have lZ : Z.length = 32 := LZ.out.2.2
  go_wp2_with first
    | ((refine wpList_store_mid rfl 24 _ _ rfl w1.heap.size 0 Z.toArray rfl rfl (there_newQ rfl rfl) iz on ?_); (refine wpList_worldQ (fun U => Below w1.heap.size w1 U ∧ U.rangeAt w1.heap.size 0 Z) (laid_inQ ((Below.refl _ _).alloc (Nat.le_refl _) _) (Nat.le_refl _) (there_newQ rfl (by simp))) ?_); rintro U5 ⟨bU5, rZ⟩; (replace BB := BB.trans (bU5.mono BB.size)); (clear bU5))
    | (refine wpList_load_midQ (by rfl) 24 _ rfl w1.heap.size 0 rfl Z _ rZ Tryz.underlying24 rfl iz' ?_)
    | (go_at_call 5; (refine (RW.out _ _).mono ?_); rintro e1 w9 ⟨rfl, hb⟩; (replace BB := BB.trans (hb.mono BB.size)); (replace rZ := range_keepQ rZ hb); (clear hb))
    | (go_at_call 6; (refine (SetAccount_nilQ _ _ _).mono ?_); rintro e1 w9 ⟨rfl, hb⟩; (replace BB := BB.trans (hb.mono BB.size)); (replace rZ := range_keepQ rZ hb); (clear hb))
    | (go_at_call 7; (refine (SetBase_nilQ _ _).mono ?_); rintro e1 w9 ⟨rfl, hb⟩; (replace BB := BB.trans (hb.mono BB.size)); (replace rZ := range_keepQ rZ hb); (clear hb))
    | (go_at_call 8; (refine (Drop_nilQ _ _).mono ?_); rintro e1 w9 ⟨rfl, hb⟩; (replace BB := BB.trans (hb.mono BB.size)); (replace rZ := range_keepQ rZ hb); (clear hb))
    | (go_at_call 9; (refine (Has_nilQ _ _).mono ?_); rintro e1 w9 ⟨rfl, hb⟩; (replace BB := BB.trans (hb.mono BB.size)); (replace rZ := range_keepQ rZ hb); (clear hb))
    | (go_at_call 10; (refine (Len_nilQ _).mono ?_); rintro e1 w9 ⟨rfl, hb⟩; (replace BB := BB.trans (hb.mono BB.size)); (replace rZ := range_keepQ rZ hb); (clear hb))
    | (go_at_call 11; (refine (Next_nilQ _ _).mono ?_); rintro e1 w9 ⟨rfl, hb⟩; (replace BB := BB.trans (hb.mono BB.size)); (replace rZ := range_keepQ rZ hb); (clear hb))
    | (go_at_call 12; (refine (Waiting_nilQ _).mono ?_); rintro e1 w9 ⟨rfl, hb⟩; (replace BB := BB.trans (hb.mono BB.size)); (replace rZ := range_keepQ rZ hb); (clear hb))
    | (go_at_call 13; (refine (Ready_nilQ _).mono ?_); rintro e1 w9 ⟨rfl, hb⟩; (replace BB := BB.trans (hb.mono BB.size)); (replace rZ := range_keepQ rZ hb); (clear hb))
    | (go_at_call 14; (refine calls_world (fun W => Below w.heap.size w W) (BB.alloc BB.size _) ?_); (clear BB); intro W9 BB; (refine (Mined_nilQ _ _).mono ?_); rintro e1 w10 ⟨rfl, hb⟩; (replace BB := BB.trans (hb.mono BB.size)); (clear hb))
  have HB : Hid (Below w.heap.size w w10) := BB
  clear BB
  simp [bodyPost, results, Tryz.results3, go_sem]
  exact HB.out
end Go.Proofs.YtihcbllefnbejaaGreatDoor

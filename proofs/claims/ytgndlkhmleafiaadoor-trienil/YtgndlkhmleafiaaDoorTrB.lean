import Derived.Test.YtgndlkhmleafiaaDoorTrA
import Derived.Test.YtgndlkhmleafiaaDoorNbB
import Derived.Test.YtgndlkhmleafiaaDoorSNil
/- Layer 12: TrieNil. -/
namespace Go.Proofs.YtgndlkhmleafiaaDoor
open Go.RowKit Go.Sort

theorem bz_one (W : World) (x : Int) : Bz (W.alloc (.cells #[.int .u8 x] 5)) W.heap.size 0 [x] := fun i hi => by
  have e : i = 0 := by simpa using hi
  subst e
  rw [World.cell?_alloc_mark]; rfl
set_option maxRecDepth 100000 in
theorem find_nil (v : Value) (w : World) :
    Calls Tryd.prog 23 #[.nilIface, v] w fun e w' => e = .returned (.tuple #[.slice none 0 0, .bool false]) ∧ w' = w := by
  have t1 := ta_leaf
  have t2 := ta_ext
  have t3 := ta_branch
  go_enter Tryd.func23, Tryd.ntmps23
  go_wp2
  simp [bodyPost, results, Tryd.results23, go_sem]
theorem sl_nil (w : World) : (binOp .eql 23 (.slice none 0 0) (.slice none 0 0)).run Tryd.prog w = .ok (.bool true) w := by kernel_rfl
set_option maxRecDepth 100000 in
theorem clone_nil (w : World) : Calls Tryd.prog 13 #[.slice none 0 0] w fun e w' => e = .returned (.slice none 0 0) ∧ w' = w := by
  have h := sl_nil
  go_enter Tryd.func13, Tryd.ntmps13
  go_wp2
  simp [bodyPost, results, Tryd.results13, go_sem]
set_option maxRecDepth 100000 in
theorem held_nil {b c : Nat} {x : Int} (hx : 0 ≤ x ∧ x < 256) (w : World) (hz : Bz w b 0 [x]) :
    Calls Tryd.prog 12 #[.pointer none, .slice (some ⟨b, 0, none⟩) 1 c] w fun e w' => e = .returned (.tuple #[.slice none 0 0, .bool false]) ∧ Below w.heap.size w w' := by
  have ho := of_any (c := c) (X := [x]) (fun y hy => by simp at hy; subst hy; exact hx) (by simp) (.inr rfl) w hz
  rw [show ([x] : List Int).length = 1 from rfl] at ho
  go_enter Tryd.func12, Tryd.ntmps12
  go_wp2_with (first | ((with_reducible refine (top_nil _).mono ?_); rintro e1 w9 ⟨rfl, hw9⟩; (rw [hw9]); (clear hw9 w9)) | ((with_reducible refine ho.mono ?_); rintro e1 w1 ⟨v1, rfl, _, B1⟩) | ((with_reducible refine (find_nil _ _).mono ?_); rintro e1 w9 ⟨rfl, hw9⟩; (rw [hw9]); (clear hw9 w9)))
  simp [bodyPost, results, Tryd.results12, go_sem]
  exact B1
set_option maxRecDepth 100000 in
theorem get_nil {b c : Nat} {x : Int} (hx : 0 ≤ x ∧ x < 256) (w : World) (hz : Bz w b 0 [x]) :
    Calls Tryd.prog 4 #[.pointer none, .slice (some ⟨b, 0, none⟩) 1 c] w fun e w' => e = .returned (.tuple #[.slice none 0 0, .bool false]) ∧ Below w.heap.size w w' := by
  have ho := held_nil (c := c) hx w hz
  go_enter Tryd.func4, Tryd.ntmps4
  go_wp2_with (first | ((with_reducible refine ho.mono ?_); rintro e1 w1 ⟨rfl, B1⟩) | ((with_reducible refine (clone_nil _).mono ?_); rintro e1 w9 ⟨rfl, hw9⟩; (rw [hw9]); (clear hw9 w9)))
  simp [bodyPost, results, Tryd.results4, go_sem]
  exact B1
set_option maxRecDepth 100000 in
theorem delete_nil {b c : Nat} {x : Int} (hx : 0 ≤ x ∧ x < 256) (w : World) (hz : Bz w b 0 [x]) :
    Calls Tryd.prog 7 #[.pointer none, .slice (some ⟨b, 0, none⟩) 1 c] w fun e w' => e = .returned (.bool false) ∧ Below w.heap.size w w' := by
  have ho := held_nil (c := c) hx w hz
  go_enter Tryd.func7, Tryd.ntmps7
  go_wp2_with (first | ((with_reducible refine ho.mono ?_); rintro e1 w1 ⟨rfl, B1⟩))
  simp [bodyPost, results, Tryd.results7, go_sem]
  exact B1
set_option maxRecDepth 100000 in
theorem put_nil (v1 v2 : Value) (w : World) :
    Calls Tryd.prog 6 #[.pointer none, v1, v2] w fun e w' => e = .returned (.int .i64 1) ∧ w' = w := by
  go_enter Tryd.func6, Tryd.ntmps6
  go_wp2
  simp [bodyPost, results, Tryd.results6, go_sem]
set_option maxRecDepth 100000 in
theorem len_nil (w : World) : Calls Tryd.prog 8 #[.pointer none] w fun e w' => e = .returned (.int .i64 0) ∧ w' = w := by
  go_enter Tryd.func8, Tryd.ntmps8
  go_wp2
  simp [bodyPost, results, Tryd.results8, go_sem]
set_option maxRecDepth 100000 in
theorem copy_nil (w : World) : Calls Tryd.prog 11 #[.pointer none] w fun e w' => e = .returned (.pointer none) ∧ w' = w := by
  go_enter Tryd.func11, Tryd.ntmps11
  go_wp2
  simp [bodyPost, results, Tryd.results11, go_sem]
set_option maxRecDepth 100000 in
theorem nodes_nil (v : Value) (w : World) : Calls Tryd.prog 10 #[.pointer none, v] w fun e w' => e = .returned (.slice none 0 0) ∧ w' = w := by
  go_enter Tryd.func10, Tryd.ntmps10
  go_wp2_with ((with_reducible refine (top_nil _).mono ?_); rintro e1 w9 ⟨rfl, hw9⟩; (rw [hw9]); (clear hw9 w9))
  simp [bodyPost, results, Tryd.results10, go_sem]
set_option maxRecDepth 100000 in
set_option maxHeartbeats 1000000 in
theorem root_nil (w : World) : Calls Tryd.prog 9 #[.pointer none] w fun e w' => e = .returned (.agg (byts (List.replicate 32 0)).toArray) ∧ Below w.heap.size w w' := by
  go_enter Tryd.func9, Tryd.ntmps9
  have oc := one_byts (List.replicate 32 0)
  have sz : ((byts (List.replicate 32 0)).toArray).size = 32 := by simp [byts_len]
  rw [zeros32] at oc sz
  have il : (Tryd.prog.info? 34).map (·.size) = some 32 := by kernel_rfl
  have hc : Hid (([.int .u8 0, .int .u8 0, .int .u8 0, .int .u8 0, .int .u8 0, .int .u8 0, .int .u8 0, .int .u8 0, .int .u8 0, .int .u8 0, .int .u8 0, .int .u8 0, .int .u8 0, .int .u8 0, .int .u8 0, .int .u8 0, .int .u8 0, .int .u8 0, .int .u8 0, .int .u8 0, .int .u8 0, .int .u8 0, .int .u8 0, .int .u8 0, .int .u8 0, .int .u8 0, .int .u8 0, .int .u8 0, .int .u8 0, .int .u8 0, .int .u8 0, .int .u8 0] : List Value) = byts (List.replicate 32 0)) := (congrArg Array.toList zeros32).symm
  have lN : Hid ((byts (List.replicate 32 0)).length = 32) := by rw [byts_len]; exact List.length_replicate
  go_wp2_with (refine wpList_store_mid rfl 34 _ _ rfl w.heap.size 0 _ rfl rfl ?th ?sz oc ?go; rw [sz]; exact (Hsh.zeros _ rfl).there; rw [sz]; exact il; refine wpList_world (fun W => Below w.heap.size w W ∧ W.rangeAt w.heap.size 0 (byts (List.replicate 32 0))) ⟨below_setCells (Nat.le_refl _) _ 0 _ ((Below.refl _ _).alloc (Nat.le_refl _) _), none_laid hc.out lN.out⟩ ?_; intro W2 hh)
  have ld := run_loadVar_mid (P := Tryd.prog) W2 w.heap.size 0 34 (byts (List.replicate 32 0)) _ hh.2 Tryd.underlying34 rfl (by rw [lN.out]; exact il)
  refine bodyPost_ret (v := .agg (byts (List.replicate 32 0)).toArray) ?_ rfl ⟨rfl, hh.1⟩
  simp [results, Tryd.results9, Act.put, asAddr, ld]

set_option maxRecDepth 100000 in
set_option maxHeartbeats 4000000 in
theorem nil_any (w : World) : Calls Tryd.prog 3 #[] w fun e w' => e = .returned (.bool true) ∧ Below w.heap.size w w' := by
  go_enter Tryd.func3, Tryd.ntmps3
  go_wp2_with fail
  refine calls_world (fun W => Bz W w.heap.size 0 [1] ∧ Below w.heap.size w W) ⟨bz_one w 1, (Below.refl _ _).alloc (Nat.le_refl _) _⟩ ?_
  rintro W1 ⟨z1, BB⟩
  have hc := get_nil (c := 1) (x := 1) (by omega) W1 z1
  with_reducible refine hc.mono ?_
  rintro e w1 ⟨rfl, BN⟩
  replace BB := BB.trans (BN.mono BB.size)
  clear hc BN z1
  go_wp2_with fail
  with_reducible refine (each_nil w1).mono ?_
  rintro e w2 ⟨rfl, BN⟩
  replace BB := BB.trans (BN.mono BB.size)
  clear BN
  go_wp2_with fail
  refine calls_world (fun W => Below w.heap.size w W) ((BB.alloc BB.size _).alloc (by have := BB.size; simp; omega) _) ?_
  clear BB
  intro W3 BB
  with_reducible refine (put_nil _ _ W3).mono ?_
  rintro e w3 ⟨rfl, hw3⟩
  subst hw3
  go_wp2_with fail
  refine calls_world (fun W => Bz W w3.heap.size 0 [1] ∧ Below w.heap.size w W) ⟨bz_one w3 1, BB.alloc BB.size _⟩ ?_
  clear BB
  rintro W4 ⟨z1, BB⟩
  have hc := delete_nil (c := 1) (x := 1) (by omega) W4 z1
  with_reducible refine hc.mono ?_
  rintro e w4 ⟨rfl, BN⟩
  replace BB := BB.trans (BN.mono BB.size)
  clear hc BN z1
  go_wp2_with fail
  with_reducible refine (len_nil w4).mono ?_
  rintro e w5 ⟨rfl, hw5⟩
  rw [hw5]
  clear hw5 w5
  have q0 := fun w => eq_hash (X := List.replicate 32 0) (Zs := List.replicate 32 0) (by simp) (by simp) w
  simp only [decide_true] at q0
  rw [zeros32] at q0
  go_wp2_with fail
  refine (root_nil w4).mono ?_
  rw [zeros32]
  rintro e w5 ⟨rfl, BN⟩
  replace BB := BB.trans (BN.mono BB.size)
  clear BN
  go_wp2_with fail
  refine calls_world (fun W => Below w.heap.size w W) (BB.alloc BB.size _) ?_
  clear BB
  intro W6 BB
  with_reducible refine (nodes_nil _ W6).mono ?_
  rintro e w6 ⟨rfl, hw6⟩
  subst hw6
  go_wp2_with fail
  with_reducible refine (copy_nil w6).mono ?_
  rintro e w7 ⟨rfl, hw7⟩
  subst hw7
  have HB : Hid (Below w.heap.size w w7) := BB
  clear BB
  go_wp2
  go_ret
  exact ⟨rfl, HB.out⟩
end Go.Proofs.YtgndlkhmleafiaaDoor

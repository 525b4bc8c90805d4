import Derived.Test.YtniabadlbockaaaDoorSEqH
/- A nil hasher. -/
namespace Go.Proofs.YtniabadlbockaaaDoor
open Go.RowKit Go.Sort

theorem nil_write (a : Option Addr) (n c : Nat) (w : World) : Calls Tryd.prog 7 #[.pointer none, .slice a n c] w fun e w' => e = .returned (.tuple #[]) ∧ w' = w := by
  go_enter Tryd.func7, Tryd.ntmps7
  go_wp2
  (try simp only [Exit.inBlock, Exit.then])
  refine bodyPost_ret (results_none rfl _ _ _) rfl ⟨rfl, rfl⟩
theorem nil_reset (w : World) : Calls Tryd.prog 8 #[.pointer none] w fun e w' => e = .returned (.tuple #[]) ∧ w' = w := by
  go_enter Tryd.func8, Tryd.ntmps8
  go_wp2
  (try simp only [Exit.inBlock, Exit.then])
  refine bodyPost_ret (results_none rfl _ _ _) rfl ⟨rfl, rfl⟩
theorem nil_len (w : World) : Calls Tryd.prog 9 #[.pointer none] w fun e w' => e = .returned (.int .i64 0) ∧ w' = w := by
  go_enter Tryd.func9, Tryd.ntmps9
  go_wp2
  go_ret
  exact ⟨rfl, rfl⟩
theorem nil_copy (w : World) : Calls Tryd.prog 11 #[.pointer none] w fun e w' => e = .returned (.pointer none) ∧ w' = w := by
  go_enter Tryd.func11, Tryd.ntmps11
  go_wp2
  go_ret
  exact ⟨rfl, rfl⟩
theorem none_laid {w : World} {cs ds : List Value} (e : cs = ds) (hl : ds.length = 32) : ((w.alloc (.cells #[.int .u8 0, .int .u8 0, .int .u8 0, .int .u8 0, .int .u8 0, .int .u8 0, .int .u8 0, .int .u8 0, .int .u8 0, .int .u8 0, .int .u8 0, .int .u8 0, .int .u8 0, .int .u8 0, .int .u8 0, .int .u8 0, .int .u8 0, .int .u8 0, .int .u8 0, .int .u8 0, .int .u8 0, .int .u8 0, .int .u8 0, .int .u8 0, .int .u8 0, .int .u8 0, .int .u8 0, .int .u8 0, .int .u8 0, .int .u8 0, .int .u8 0, .int .u8 0] 27)).setCells w.heap.size 0 cs).rangeAt w.heap.size 0 ds := by
  subst e
  exact World.rangeAt_setCells_same _ _ _ _ (by rw [hl]; exact (Hsh.zeros _ rfl).there)
theorem zeros32 : (byts (List.replicate 32 0)).toArray = #[.int .u8 0, .int .u8 0, .int .u8 0, .int .u8 0, .int .u8 0, .int .u8 0, .int .u8 0, .int .u8 0, .int .u8 0, .int .u8 0, .int .u8 0, .int .u8 0, .int .u8 0, .int .u8 0, .int .u8 0, .int .u8 0, .int .u8 0, .int .u8 0, .int .u8 0, .int .u8 0, .int .u8 0, .int .u8 0, .int .u8 0, .int .u8 0, .int .u8 0, .int .u8 0, .int .u8 0, .int .u8 0, .int .u8 0, .int .u8 0, .int .u8 0, .int .u8 0] := by
  have h : Y 0#8 = 0 := Y_zero
  simp [byts, List.replicate, h]
set_option maxRecDepth 100000 in
set_option maxHeartbeats 1000000 in
theorem nil_sum (w : World) : Calls Tryd.prog 10 #[.pointer none] w fun e w' => e = .returned (.agg (byts (List.replicate 32 0)).toArray) ∧ Below w.heap.size w w' := by
  go_enter Tryd.func10, Tryd.ntmps10
  have oc := one_byts (List.replicate 32 0)
  have sz : ((byts (List.replicate 32 0)).toArray).size = 32 := by simp [byts_len]
  rw [zeros32] at oc sz
  have il : (Tryd.prog.info? 27).map (·.size) = some 32 := by kernel_rfl
  have hc : Hid (([.int .u8 0, .int .u8 0, .int .u8 0, .int .u8 0, .int .u8 0, .int .u8 0, .int .u8 0, .int .u8 0, .int .u8 0, .int .u8 0, .int .u8 0, .int .u8 0, .int .u8 0, .int .u8 0, .int .u8 0, .int .u8 0, .int .u8 0, .int .u8 0, .int .u8 0, .int .u8 0, .int .u8 0, .int .u8 0, .int .u8 0, .int .u8 0, .int .u8 0, .int .u8 0, .int .u8 0, .int .u8 0, .int .u8 0, .int .u8 0, .int .u8 0, .int .u8 0] : List Value) = byts (List.replicate 32 0)) := (congrArg Array.toList zeros32).symm
  have lN : Hid ((byts (List.replicate 32 0)).length = 32) := by rw [byts_len]; exact List.length_replicate
  go_wp2_with (refine wpList_store_mid rfl 27 _ _ rfl w.heap.size 0 _ rfl rfl ?th ?sz oc ?go; rw [sz]; exact (Hsh.zeros _ rfl).there; rw [sz]; exact il; refine wpList_world (fun W => Below w.heap.size w W ∧ W.rangeAt w.heap.size 0 (byts (List.replicate 32 0))) ⟨below_setCells (Nat.le_refl _) _ 0 _ ((Below.refl _ _).alloc (Nat.le_refl _) _), none_laid hc.out lN.out⟩ ?_; intro W2 hh)
  have ld := run_loadVar_mid (P := Tryd.prog) W2 w.heap.size 0 27 (byts (List.replicate 32 0)) _ hh.2 Tryd.underlying27 rfl (by rw [lN.out]; exact il)
  refine bodyPost_ret (v := .agg (byts (List.replicate 32 0)).toArray) ?_ rfl ⟨rfl, hh.1⟩
  simp [results, Tryd.results10, Act.put, asAddr, ld]

set_option maxRecDepth 100000 in
set_option maxHeartbeats 1000000 in
theorem shaNil_any (w : World) : Calls Tryd.prog 3 #[] w fun e w' => e = .returned (.bool true) ∧ Below w.heap.size w w' := by
  go_enter Tryd.func3, Tryd.ntmps3
  go_wp2_with fail
  refine (nil_write _ _ _ _).mono ?_
  rintro e w1 ⟨rfl, rfl⟩
  go_wp2_with fail
  refine (nil_reset _).mono ?_
  rintro e w1 ⟨rfl, rfl⟩
  go_wp2_with fail
  refine (nil_len _).mono ?_
  rintro e w1 ⟨rfl, rfl⟩
  have q0 := fun w => eq_hash (X := List.replicate 32 0) (Zs := List.replicate 32 0) (by simp) (by simp) w
  simp only [decide_true] at q0
  rw [zeros32] at q0
  go_wp2_with fail
  refine (nil_sum _).mono ?_
  rw [zeros32]
  rintro e w1 ⟨rfl, hb⟩
  have HB : Hid (Below w.heap.size w w1) := ((Below.refl _ _).alloc (Nat.le_refl _) _).trans (hb.mono (by simp))
  clear hb
  go_wp2_with fail
  refine (nil_copy _).mono ?_
  rintro e w2 ⟨rfl, rfl⟩
  go_wp2
  go_ret
  exact ⟨rfl, HB.out⟩

end Go.Proofs.YtniabadlbockaaaDoor

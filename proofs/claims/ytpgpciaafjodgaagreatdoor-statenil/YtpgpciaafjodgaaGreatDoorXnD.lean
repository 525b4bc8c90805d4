import Derived.Test.YtpgpciaafjodgaaGreatDoorXnC
import Derived.Test.YtpgpciaafjodgaaGreatDoorShelf
/- Layer 21: a nil map's keys, sorted; the trie of no storage; the addresses of a nil state. -/
namespace Go.Proofs.YtpgpciaafjodgaaGreatDoor
open Go.RowKit Go.Shelf
attribute [local go_sem] Oper.semAt_some
set_option maxRecDepth 100000 in
set_option maxHeartbeats 4000000 in
theorem pdq_no {n : Int} {v : Value} (w : World) : Calls Tryz.prog 111 #[.slice none 0 0, .int .i64 0, .int .i64 0, .int .i64 n, v] w fun e w' => (∃ x, e = .returned x) ∧ Below w.heap.size w w' := by
  have IS : Hid (∀ w, Calls Tryz.prog 142 #[.slice none 0 0, .int .i64 0, .int .i64 0, v] w fun e w' => (∃ x, e = .returned x) ∧ Below w.heap.size w w') := fun w => insert_no w
  go_enter Tryz.func111, Tryz.ntmps111
  go_wp2_with fail
  go_loopg [1, 2] 1 (fun k av bv wr => k = 1 ∧ av = .int .i64 0 ∧ bv = .int .i64 0 ∧ wr = w)
  case atStart => exact ⟨rfl, rfl, rfl, rfl⟩
  case round =>
    obtain ⟨rfl, rfl, rfl, rfl⟩ := hrel
    go_wp2_with fail
    with_reducible refine (IS.out _).mono ?_
    rintro e w1 ⟨⟨x, rfl⟩, hb⟩
    go_wp2
    simp [bodyPost, results, Tryz.results111, go_sem]
    exact hb
set_option maxRecDepth 100000 in
set_option maxHeartbeats 4000000 in
theorem sort_no {v : Value} (w : World) : Calls Tryz.prog 87 #[.slice none 0 0, v] w fun e w' => (∃ x, e = .returned x) ∧ Below w.heap.size w w' := by
  have PD : Hid (∀ (n : Int) w, Calls Tryz.prog 111 #[.slice none 0 0, .int .i64 0, .int .i64 0, .int .i64 n, v] w fun e w' => (∃ x, e = .returned x) ∧ Below w.heap.size w w') := fun n w => pdq_no w
  have BL := fun w => Tryz.bits_Len 0 w (by decide) (by decide)
  go_enter Tryz.func87, Tryz.ntmps87
  go_wp2_with fail
  refine (BL _).mono ?_
  rintro e w1 ⟨rfl, hw⟩
  subst hw
  go_wp2_with fail
  refine (PD.out _ _).mono ?_
  rintro e w2 ⟨⟨x, rfl⟩, hb⟩
  go_wp2
  simp [bodyPost, results, Tryz.results87, go_sem]
  exact hb
set_option maxRecDepth 100000 in
set_option maxHeartbeats 4000000 in
theorem append_no {b : Nat} (w : World) (hc : w.cell? ⟨b, 0, none⟩ = some (.map none)) : Calls Tryz.prog 110 #[.slice none 0 0, .func (.func 88) #[] #[.pointer (some ⟨b, 0, none⟩)]] w fun e w' => e = .returned (.slice none 0 0) ∧ Below w.heap.size w w' := by
  refine (callsIn_wide (n := 3)).1 ?_
  have cs : (w.alloc (.cells #[.slice none 0 0] 108)).cell? ⟨w.heap.size, 0, none⟩ = some (.slice none 0 0) := World.cell?_alloc_mark w #[.slice none 0 0] _ (0, 0) 0
  have B0 : Below w.heap.size w (w.alloc (.cells #[.slice none 0 0] 108)) := (Below.refl _ _).alloc (Nat.le_refl _) _
  refine callsIn_of_wp_marks Tryz.func110 rfl trivial ?_ rfl
  simp only [Tryz.ntmps110, List.size_toArray, List.length_cons, List.length_nil, Nat.reduceAdd, Nat.reduceSub, Array.replicate_succ, Array.replicate_zero, List.push_toArray, List.append_toArray, List.nil_append, List.cons_append]
  gi_wp2
  refine wpIn_range_none (F := Fence.wide) (n := 3) (P := Tryz.prog) rfl (by decide) (gf := 88) (lb := #[.pointer (some ⟨b, 0, none⟩)]) ?_ trivial (enters_of Tryz.func88 (by kernel_rfl) rfl) ?_ ?_
  · rfl
  · intro l W B
    exact callsIn_wide.2 (keys1_no W (cell_keep (B0.trans (B.mono B0.size)) hc))
  · intro D W hD B hK
    have c6 : W.cell? ⟨w.heap.size, 0, none⟩ = some (.slice none 0 0) := cell_keep B cs
    gi_wp2
    have BK := belowK_b (w := w) (n₀ := w.heap.size) (Nat.le_refl _) W D _ (.deferred none) (Nat.le_trans B0.size hD) hK rfl rfl
    refine ⟨by simp, .inl ⟨_, _, rfl, run_takeDeferred hK, ?_⟩⟩
    refine ⟨.slice none 0 0, ?_, rfl, (B0.trans (B.mono B0.size)).trans BK⟩
    simp [results, Tryz.f110, go_sem]
set_option maxRecDepth 100000 in
set_option maxHeartbeats 4000000 in
theorem collect_no {b : Nat} (w : World) (hc : w.cell? ⟨b, 0, none⟩ = some (.map none)) : Calls Tryz.prog 86 #[.func (.func 88) #[] #[.pointer (some ⟨b, 0, none⟩)]] w fun e w' => e = .returned (.slice none 0 0) ∧ Below w.heap.size w w' := by
  have C := append_no w hc
  go_enter Tryz.func86, Tryz.ntmps86
  go_wp2_with fail
  refine C.mono ?_
  rintro e w1 ⟨rfl, hb⟩
  go_wp2
  simp [bodyPost, results, Tryz.results86, go_sem]
  exact hb
set_option maxRecDepth 100000 in
set_option maxHeartbeats 4000000 in
theorem sorted_no {b : Nat} {v : Value} (w : World) (hc : w.cell? ⟨b, 0, none⟩ = some (.map none)) : Calls Tryz.prog 62 #[.func (.func 88) #[] #[.pointer (some ⟨b, 0, none⟩)], v] w fun e w' => e = .returned (.slice none 0 0) ∧ Below w.heap.size w w' := by
  have C := collect_no w hc
  have SN : Hid (∀ w, Calls Tryz.prog 87 #[.slice none 0 0, v] w fun e w' => (∃ x, e = .returned x) ∧ Below w.heap.size w w') := fun w => sort_no w
  clear hc
  go_enter Tryz.func62, Tryz.ntmps62
  go_wp2_with fail
  refine C.mono ?_
  rintro e w1 ⟨rfl, B1⟩
  clear C
  go_wp2_with fail
  refine (SN.out _).mono ?_
  rintro e w2 ⟨⟨x, rfl⟩, hb⟩
  have B2 := B1.trans (hb.mono B1.size)
  go_wp2
  simp [bodyPost, results, Tryz.results62, go_sem]
  exact B2
set_option maxRecDepth 100000 in
set_option maxHeartbeats 4000000 in
theorem storTrie_no (w : World) : Calls Tryz.prog 44 #[.agg #[.int .u64 0, .int .u64 0, .int .u64 0, .int .u64 0, .int .u64 0, .slice none 0 0, .map none]] w fun e w' => ∃ b, e = .returned (.pointer (some ⟨b, 0, none⟩)) ∧ w'.cell? ⟨b, 0, none⟩ = some .nilIface ∧ Below w.heap.size w w' := by
  have B0 : Below w.heap.size w (w.alloc (.cells #[.int .u64 0, .int .u64 0, .int .u64 0, .int .u64 0, .int .u64 0, .slice none 0 0, .map none] 63)) := (Below.refl _ _).alloc (Nat.le_refl _) _
  have c3 : (w.alloc (.cells #[.int .u64 0, .int .u64 0, .int .u64 0, .int .u64 0, .int .u64 0, .slice none 0 0, .map none] 63)).cell? ⟨w.heap.size, 6, none⟩ = some (.map none) := by simp [go_sem]
  have NW : Hid (∀ w, Calls Tryz.prog 58 #[] w fun e w' => e = .returned (.pointer (some ⟨w.heap.size, 0, none⟩)) ∧ w'.cell? ⟨w.heap.size, 0, none⟩ = some .nilIface ∧ Below w.heap.size w w') := new_no
  have KN : Hid (∀ w, Calls Tryz.prog 63 #[.map none] w fun e w' => e = .returned (.func (.func 88) #[] #[.pointer (some ⟨w.heap.size, 0, none⟩)]) ∧ w'.cell? ⟨w.heap.size, 0, none⟩ = some (.map none) ∧ Below w.heap.size w w') := keys_no
  go_enter Tryz.func44, Tryz.ntmps44
  go_wp2_with fail
  with_reducible refine (NW.out _).mono ?_
  rintro e w1 ⟨rfl, c1, B1⟩
  replace c3 := cell_keep B1 c3
  have BB := B0.trans (B1.mono B0.size)
  clear B0 B1 NW
  go_wp2_with fail
  with_reducible refine (KN.out _).mono ?_
  rintro e w2 ⟨rfl, c2, B2⟩
  replace c1 := cell_keep B2 c1
  have BB2 := BB.trans (B2.mono BB.size)
  clear BB B2 KN c3
  go_wp2_with fail
  refine (sorted_no _ c2).mono ?_
  rintro e w3 ⟨rfl, B3⟩
  replace c1 := cell_keep B3 c1
  have BB3 := BB2.trans (B3.mono BB2.size)
  clear BB2 B3 c2
  go_wp2_with fail
  go_loopg [17] 1 (fun k iv wr => k = 1 ∧ iv = .int .i64 0 ∧ wr = w3)
  case atStart => exact ⟨rfl, rfl, rfl⟩
  case round =>
    obtain ⟨rfl, rfl, rfl⟩ := hrel
    go_wp2
    simp [bodyPost, results, Tryz.results44, go_sem]
    rw [World.size_alloc] at c1
    exact ⟨c1, BB3⟩
theorem fn_nilN (w : World) : (binOp .eql 85 (.func (.func 52) #[] #[]) .nilFunc).run Tryz.prog w = .ok (.bool false) w := by kernel_rfl
set_option maxRecDepth 100000 in
set_option maxHeartbeats 4000000 in
theorem addr_no (w : World) : Calls Tryz.prog 13 #[.pointer none] w fun e w' => e = .returned (.tuple #[.slice none 0 0, .bool true]) ∧ Below w.heap.size w w' := by
  have fn := fn_nilN
  refine (callsIn_wide (n := 3)).1 ?_
  have cs : (w.alloc (.cells #[.slice none 0 0] 42)).cell? ⟨w.heap.size, 0, none⟩ = some (.slice none 0 0) := World.cell?_alloc_mark w #[.slice none 0 0] _ (0, 0) 0
  refine callsIn_of_wp_marks Tryz.func13 rfl trivial ?_ rfl
  simp only [Tryz.ntmps13, List.size_toArray, List.length_cons, List.length_nil, Nat.reduceAdd, Nat.reduceSub, Array.replicate_succ, Array.replicate_zero, List.push_toArray, List.append_toArray, List.nil_append, List.cons_append]
  gi_wp2_with (refine ⟨trivial, ?_⟩; gi_at_call 39; refine (callsIn_wide.2 (Each_no _)).mono ?_; rintro e w1 ⟨rfl, B1⟩)
  have c5 := cell_keep B1 cs
  have BW : Below w.heap.size w w1 := ((Below.refl _ w).alloc (Nat.le_refl _) _).trans (B1.mono (by simp))
  refine wpIn_range_none (F := Fence.wide) (n := 3) (P := Tryz.prog) rfl (by decide) (gf := 52) (lb := #[]) ?_ trivial (enters_of Tryz.func52 (by kernel_rfl) rfl) ?_ ?_
  · rfl
  · intro l W B
    exact callsIn_wide.2 (Each1_no _ W)
  · intro D W hD B hK
    have c6 : W.cell? ⟨w.heap.size, 0, none⟩ = some (.slice none 0 0) := cell_keep B c5
    gi_wp2
    have BK := belowK_b (w := w) (n₀ := w.heap.size) (Nat.le_refl _) W D _ (.deferred none) (Nat.le_trans BW.size hD) hK rfl rfl
    refine ⟨by simp, .inl ⟨_, _, rfl, run_takeDeferred hK, ?_⟩⟩
    refine ⟨.tuple #[.slice none 0 0, .bool true], ?_, rfl, (BW.trans (B.mono BW.size)).trans BK⟩
    simp [results, Tryz.f13, go_sem]
end Go.Proofs.YtpgpciaafjodgaaGreatDoor

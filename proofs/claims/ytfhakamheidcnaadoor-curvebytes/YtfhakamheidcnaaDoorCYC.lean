import Derived.Test.YtfhakamheidcnaaDoorCYB
import Derived.Test.YtfhakamheidcnaaDoorCBlend
import Derived.Test.YtfhakamheidcnaaDoorUbA
namespace Go.Proofs.YtfhakamheidcnaaDoor
open Go.RowKit Go.Sort

set_option maxRecDepth 100000 in
set_option maxHeartbeats 8000000 in
theorem rcompress_no {x y : Int} {i : Bool} (ON : Hid (∀ w, Calls Tryd.prog 14 #[.agg #[.int .u64 (l0 x), .int .u64 (l1 x), .int .u64 (l2 x), .int .u64 (l3 x), .int .u64 (l0 y), .int .u64 (l1 y), .int .u64 (l2 y), .int .u64 (l3 y), .bool i]] w fun e w' => e = .returned (.bool false) ∧ Below w.heap.size w w')) (w : World) :
    Calls Tryd.prog 6 #[.agg #[.int .u64 (l0 x), .int .u64 (l1 x), .int .u64 (l2 x), .int .u64 (l3 x), .int .u64 (l0 y), .int .u64 (l1 y), .int .u64 (l2 y), .int .u64 (l3 y), .bool i]] w fun e w' => e = .returned (.tuple #[.slice none 0 0, .int .i64 50]) ∧ Below w.heap.size w w' := by
  go_enter Tryd.func6, Tryd.ntmps6
  go_wp2_with fail
  refine calls_world (fun W => Below w.heap.size w W ∧ Pnt W w.heap.size x y i) ⟨by repeat (first | with_reducible exact Below.refl _ _ | with_reducible refine Below.alloc ?_ (by first | omega | (simp; done) | (simp; omega)) _), Pnt.new rfl⟩ ?_
  rintro W ⟨B, hP⟩
  with_reducible refine (ON.out _).mono ?_
  rintro e w9 ⟨rfl, hb⟩
  replace B := B.trans (hb.mono B.size)
  replace hP := hP.keep hb
  clear hb W
  have gP := hP.cells
  go_wp2
  simp [bodyPost, results, Tryd.results6, go_sem]
  exact B
set_option maxRecDepth 100000 in
set_option maxHeartbeats 8000000 in
theorem rcompress_id {x y : Int} (ON : Hid (∀ w, Calls Tryd.prog 14 #[.agg #[.int .u64 (l0 x), .int .u64 (l1 x), .int .u64 (l2 x), .int .u64 (l3 x), .int .u64 (l0 y), .int .u64 (l1 y), .int .u64 (l2 y), .int .u64 (l3 y), .bool true]] w fun e w' => e = .returned (.bool true) ∧ Below w.heap.size w w')) (w : World) :
    Calls Tryd.prog 6 #[.agg #[.int .u64 (l0 x), .int .u64 (l1 x), .int .u64 (l2 x), .int .u64 (l3 x), .int .u64 (l0 y), .int .u64 (l1 y), .int .u64 (l2 y), .int .u64 (l3 y), .bool true]] w fun e w' => e = .returned (.tuple #[.slice none 0 0, .int .i64 51]) ∧ Below w.heap.size w w' := by
  go_enter Tryd.func6, Tryd.ntmps6
  go_wp2_with fail
  refine calls_world (fun W => Below w.heap.size w W ∧ Pnt W w.heap.size x y true) ⟨by repeat (first | with_reducible exact Below.refl _ _ | with_reducible refine Below.alloc ?_ (by first | omega | (simp; done) | (simp; omega)) _), Pnt.new rfl⟩ ?_
  rintro W ⟨B, hP⟩
  with_reducible refine (ON.out _).mono ?_
  rintro e w9 ⟨rfl, hb⟩
  replace B := B.trans (hb.mono B.size)
  replace hP := hP.keep hb
  clear hb W
  have gP := hP.cells
  go_wp2
  simp [bodyPost, results, Tryd.results6, go_sem]
  exact B
set_option maxRecDepth 100000 in
set_option maxHeartbeats 8000000 in
theorem rexpand_no {x y : Int} {i : Bool} (ON : Hid (∀ w, Calls Tryd.prog 14 #[.agg #[.int .u64 (l0 x), .int .u64 (l1 x), .int .u64 (l2 x), .int .u64 (l3 x), .int .u64 (l0 y), .int .u64 (l1 y), .int .u64 (l2 y), .int .u64 (l3 y), .bool i]] w fun e w' => e = .returned (.bool false) ∧ Below w.heap.size w w')) (w : World) :
    Calls Tryd.prog 7 #[.agg #[.int .u64 (l0 x), .int .u64 (l1 x), .int .u64 (l2 x), .int .u64 (l3 x), .int .u64 (l0 y), .int .u64 (l1 y), .int .u64 (l2 y), .int .u64 (l3 y), .bool i]] w fun e w' => e = .returned (.tuple #[.slice none 0 0, .int .i64 50]) ∧ Below w.heap.size w w' := by
  go_enter Tryd.func7, Tryd.ntmps7
  go_wp2_with fail
  refine calls_world (fun W => Below w.heap.size w W ∧ Pnt W w.heap.size x y i) ⟨by repeat (first | with_reducible exact Below.refl _ _ | with_reducible refine Below.alloc ?_ (by first | omega | (simp; done) | (simp; omega)) _), Pnt.new rfl⟩ ?_
  rintro W ⟨B, hP⟩
  with_reducible refine (ON.out _).mono ?_
  rintro e w9 ⟨rfl, hb⟩
  replace B := B.trans (hb.mono B.size)
  replace hP := hP.keep hb
  clear hb W
  have gP := hP.cells
  go_wp2
  simp [bodyPost, results, Tryd.results7, go_sem]
  exact B
set_option maxRecDepth 100000 in
set_option maxHeartbeats 8000000 in
theorem rexpand_id {x y : Int} (ON : Hid (∀ w, Calls Tryd.prog 14 #[.agg #[.int .u64 (l0 x), .int .u64 (l1 x), .int .u64 (l2 x), .int .u64 (l3 x), .int .u64 (l0 y), .int .u64 (l1 y), .int .u64 (l2 y), .int .u64 (l3 y), .bool true]] w fun e w' => e = .returned (.bool true) ∧ Below w.heap.size w w')) (w : World) :
    Calls Tryd.prog 7 #[.agg #[.int .u64 (l0 x), .int .u64 (l1 x), .int .u64 (l2 x), .int .u64 (l3 x), .int .u64 (l0 y), .int .u64 (l1 y), .int .u64 (l2 y), .int .u64 (l3 y), .bool true]] w fun e w' => e = .returned (.tuple #[.slice none 0 0, .int .i64 51]) ∧ Below w.heap.size w w' := by
  go_enter Tryd.func7, Tryd.ntmps7
  go_wp2_with fail
  refine calls_world (fun W => Below w.heap.size w W ∧ Pnt W w.heap.size x y true) ⟨by repeat (first | with_reducible exact Below.refl _ _ | with_reducible refine Below.alloc ?_ (by first | omega | (simp; done) | (simp; omega)) _), Pnt.new rfl⟩ ?_
  rintro W ⟨B, hP⟩
  with_reducible refine (ON.out _).mono ?_
  rintro e w9 ⟨rfl, hb⟩
  replace B := B.trans (hb.mono B.size)
  replace hP := hP.keep hb
  clear hb W
  have gP := hP.cells
  go_wp2
  simp [bodyPost, results, Tryd.results7, go_sem]
  exact B
set_option maxRecDepth 100000 in
set_option maxHeartbeats 8000000 in
theorem rcompress_0 {x y : Int} {L1 : List Int} (K1 : Hid (L1.length = 32)) (hy : (l0 y).tmod 2 = 0) (ON : Hid (∀ w, Calls Tryd.prog 14 #[.agg #[.int .u64 (l0 x), .int .u64 (l1 x), .int .u64 (l2 x), .int .u64 (l3 x), .int .u64 (l0 y), .int .u64 (l1 y), .int .u64 (l2 y), .int .u64 (l3 y), .bool false]] w fun e w' => e = .returned (.bool true) ∧ Below w.heap.size w w')) (P1 : Hid (∀ w, Calls Tryd.prog 15 #[.agg #[.int .u64 (l0 x), .int .u64 (l1 x), .int .u64 (l2 x), .int .u64 (l3 x)]] w fun e w' => e = .returned (.agg (L1.map (Value.int .u8)).toArray) ∧ Below w.heap.size w w')) (w : World) :
    Calls Tryd.prog 6 #[.agg #[.int .u64 (l0 x), .int .u64 (l1 x), .int .u64 (l2 x), .int .u64 (l3 x), .int .u64 (l0 y), .int .u64 (l1 y), .int .u64 (l2 y), .int .u64 (l3 y), .bool false]] w fun e w' => ∃ v, e = .returned (.tuple #[v, .int .i64 0]) ∧ World.ownsRow w' w.heap.size 5 1 v 33 (((2 : Int) :: L1).map (Value.int .u8)) ∧ Below w.heap.size w w' := by
  have s1 : (L1.map (Value.int .u8)).toArray.size = 32 := by simp [K1.out]
  have oc1 := one_cells L1
  have tr : ∀ W : World, (W.alloc (.cells #[.int .u8 0, .int .u8 0, .int .u8 0, .int .u8 0, .int .u8 0, .int .u8 0, .int .u8 0, .int .u8 0, .int .u8 0, .int .u8 0, .int .u8 0, .int .u8 0, .int .u8 0, .int .u8 0, .int .u8 0, .int .u8 0, .int .u8 0, .int .u8 0, .int .u8 0, .int .u8 0, .int .u8 0, .int .u8 0, .int .u8 0, .int .u8 0, .int .u8 0, .int .u8 0, .int .u8 0, .int .u8 0, .int .u8 0, .int .u8 0, .int .u8 0, .int .u8 0] 37)).there W.heap.size 0 32 := fun W => (Bts.new (W := W) (List.replicate 32 0) 37 rfl).there rfl
  obtain ⟨i0, hi, hz0, hz1, hz2⟩ := info_partsC info_byteC
  go_enter Tryd.func6, Tryd.ntmps6
  go_wp2_with fail
  refine calls_world (fun W => Below w.heap.size w W ∧ Pnt W w.heap.size x y false) ⟨by repeat (first | with_reducible exact Below.refl _ _ | with_reducible refine Below.alloc ?_ (by first | omega | (simp; done) | (simp; omega)) _), Pnt.new rfl⟩ ?_
  rintro W ⟨B, hP⟩
  with_reducible refine (ON.out W).mono ?_
  rintro e w1 ⟨rfl, hb⟩
  replace B := B.trans (hb.mono B.size)
  replace hP := hP.keep hb
  clear hb W
  have gP := hP.cells
  go_wp2_with fail
  with_reducible refine (P1.out w1).mono ?_
  rintro e w2 ⟨rfl, hb⟩
  replace B := B.trans (hb.mono B.size)
  replace hP := hP.keep hb
  clear hb gP
  have t2 := tr w2
  have bn : Below w2.heap.size w2 ((w2.alloc (.cells #[.int .u8 0, .int .u8 0, .int .u8 0, .int .u8 0, .int .u8 0, .int .u8 0, .int .u8 0, .int .u8 0, .int .u8 0, .int .u8 0, .int .u8 0, .int .u8 0, .int .u8 0, .int .u8 0, .int .u8 0, .int .u8 0, .int .u8 0, .int .u8 0, .int .u8 0, .int .u8 0, .int .u8 0, .int .u8 0, .int .u8 0, .int .u8 0, .int .u8 0, .int .u8 0, .int .u8 0, .int .u8 0, .int .u8 0, .int .u8 0, .int .u8 0, .int .u8 0] 37)).setCells w2.heap.size 0 (L1.map (Value.int .u8)).toArray.toList) := below_setCells (Nat.le_refl _) _ 0 _ ((Below.refl _ _).alloc (Nat.le_refl _) _)
  have hN := bts_setCells (l := L1) (W := w2.alloc (.cells #[.int .u8 0, .int .u8 0, .int .u8 0, .int .u8 0, .int .u8 0, .int .u8 0, .int .u8 0, .int .u8 0, .int .u8 0, .int .u8 0, .int .u8 0, .int .u8 0, .int .u8 0, .int .u8 0, .int .u8 0, .int .u8 0, .int .u8 0, .int .u8 0, .int .u8 0, .int .u8 0, .int .u8 0, .int .u8 0, .int .u8 0, .int .u8 0, .int .u8 0, .int .u8 0, .int .u8 0, .int .u8 0, .int .u8 0, .int .u8 0, .int .u8 0, .int .u8 0] 37)) (b := w2.heap.size) (by rw [List.length_map, K1.out]; exact t2)
  have hP2 := hP.keep bn
  have B2 := B.trans (bn.mono B.size)
  have gP2 := hP2.cells
  have FF : Hid (Below w.heap.size w ((w2.alloc (.cells #[.int .u8 0, .int .u8 0, .int .u8 0, .int .u8 0, .int .u8 0, .int .u8 0, .int .u8 0, .int .u8 0, .int .u8 0, .int .u8 0, .int .u8 0, .int .u8 0, .int .u8 0, .int .u8 0, .int .u8 0, .int .u8 0, .int .u8 0, .int .u8 0, .int .u8 0, .int .u8 0, .int .u8 0, .int .u8 0, .int .u8 0, .int .u8 0, .int .u8 0, .int .u8 0, .int .u8 0, .int .u8 0, .int .u8 0, .int .u8 0, .int .u8 0, .int .u8 0] 37)).setCells w2.heap.size 0 (L1.map (Value.int .u8)).toArray.toList) ∧ Pnt ((w2.alloc (.cells #[.int .u8 0, .int .u8 0, .int .u8 0, .int .u8 0, .int .u8 0, .int .u8 0, .int .u8 0, .int .u8 0, .int .u8 0, .int .u8 0, .int .u8 0, .int .u8 0, .int .u8 0, .int .u8 0, .int .u8 0, .int .u8 0, .int .u8 0, .int .u8 0, .int .u8 0, .int .u8 0, .int .u8 0, .int .u8 0, .int .u8 0, .int .u8 0, .int .u8 0, .int .u8 0, .int .u8 0, .int .u8 0, .int .u8 0, .int .u8 0, .int .u8 0, .int .u8 0] 37)).setCells w2.heap.size 0 (L1.map (Value.int .u8)).toArray.toList) w.heap.size x y false ∧ Bts ((w2.alloc (.cells #[.int .u8 0, .int .u8 0, .int .u8 0, .int .u8 0, .int .u8 0, .int .u8 0, .int .u8 0, .int .u8 0, .int .u8 0, .int .u8 0, .int .u8 0, .int .u8 0, .int .u8 0, .int .u8 0, .int .u8 0, .int .u8 0, .int .u8 0, .int .u8 0, .int .u8 0, .int .u8 0, .int .u8 0, .int .u8 0, .int .u8 0, .int .u8 0, .int .u8 0, .int .u8 0, .int .u8 0, .int .u8 0, .int .u8 0, .int .u8 0, .int .u8 0, .int .u8 0] 37)).setCells w2.heap.size 0 (L1.map (Value.int .u8)).toArray.toList) w2.heap.size L1) := ⟨B2, hP2, hN⟩
  clear B2 hP2 gP2 bn hN hP B
  go_wp2_with (first
    | ((refine wpList_store_mid rfl 37 _ _ rfl w2.heap.size 0 _ rfl rfl (by rw [s1]; exact t2) (by rw [s1]; kernel_rfl) oc1 ?_); (refine wpList_world (fun W => Below w.heap.size w W ∧ Pnt W w.heap.size x y false ∧ Bts W w2.heap.size L1) FF.out ?_); (clear FF); (rintro W ⟨B, hP, hX⟩); (have gP := hP.cells); (have HO := fun o => hX.alloc (by rw [K1.out]; decide) o); (have sA : ∀ o, w.heap.size ≤ (W.alloc o).heap.size := fun o => by have := B.size; simp; omega); (have sB := B.size); (have BB : Hid (Below w.heap.size w W) := B); (clear B))
    | (at_builtin; (refine wpList_append_own_at _ rfl _ _ 27 rfl w.heap.size 5 i0 (.int .u8 0) 1 1 Tryd.underlying27 hi hz0 hz1 hz2 rfl (by decide) (.slice (some ⟨W.heap.size, 0, none⟩) 1 1) 1 [.int .u8 2] rfl (own_one sB) ⟨w2.heap.size, 0, none⟩ 32 32 (L1.map (Value.int .u8)) rfl (by rw [Nat.mul_one, List.length_map]; exact K1.out) (cells_at rfl (HO _)) (fun u hu => by obtain ⟨z, _, rfl⟩ := List.mem_map.1 hu; rfl) (by unfold maxLen; decide) (by decide) (sA _) ?_); (intro v' w5 hown' hgrow5 hnil5 hblk5)))
  have HR : Hid (World.ownsRow w5 w.heap.size 5 1 v' 33 (((2 : Int) :: L1).map (Value.int .u8)) ∧ Below w.heap.size w w5) := ⟨hown', (BB.out.alloc BB.out.size _).grown hgrow5 (sA _) (fun k hk => by cases hk; exact sB)⟩
  clear hown' hgrow5 hnil5 hblk5
  go_wp2
  simp [bodyPost, results, Tryd.results6, go_sem]
  exact HR.out
set_option maxRecDepth 100000 in
set_option maxHeartbeats 8000000 in
theorem rcompress_1 {x y : Int} {L1 : List Int} (K1 : Hid (L1.length = 32)) (hy : (l0 y).tmod 2 = 1) (ON : Hid (∀ w, Calls Tryd.prog 14 #[.agg #[.int .u64 (l0 x), .int .u64 (l1 x), .int .u64 (l2 x), .int .u64 (l3 x), .int .u64 (l0 y), .int .u64 (l1 y), .int .u64 (l2 y), .int .u64 (l3 y), .bool false]] w fun e w' => e = .returned (.bool true) ∧ Below w.heap.size w w')) (P1 : Hid (∀ w, Calls Tryd.prog 15 #[.agg #[.int .u64 (l0 x), .int .u64 (l1 x), .int .u64 (l2 x), .int .u64 (l3 x)]] w fun e w' => e = .returned (.agg (L1.map (Value.int .u8)).toArray) ∧ Below w.heap.size w w')) (w : World) :
    Calls Tryd.prog 6 #[.agg #[.int .u64 (l0 x), .int .u64 (l1 x), .int .u64 (l2 x), .int .u64 (l3 x), .int .u64 (l0 y), .int .u64 (l1 y), .int .u64 (l2 y), .int .u64 (l3 y), .bool false]] w fun e w' => ∃ v, e = .returned (.tuple #[v, .int .i64 0]) ∧ World.ownsRow w' w.heap.size 5 1 v 33 (((3 : Int) :: L1).map (Value.int .u8)) ∧ Below w.heap.size w w' := by
  have s1 : (L1.map (Value.int .u8)).toArray.size = 32 := by simp [K1.out]
  have oc1 := one_cells L1
  have tr : ∀ W : World, (W.alloc (.cells #[.int .u8 0, .int .u8 0, .int .u8 0, .int .u8 0, .int .u8 0, .int .u8 0, .int .u8 0, .int .u8 0, .int .u8 0, .int .u8 0, .int .u8 0, .int .u8 0, .int .u8 0, .int .u8 0, .int .u8 0, .int .u8 0, .int .u8 0, .int .u8 0, .int .u8 0, .int .u8 0, .int .u8 0, .int .u8 0, .int .u8 0, .int .u8 0, .int .u8 0, .int .u8 0, .int .u8 0, .int .u8 0, .int .u8 0, .int .u8 0, .int .u8 0, .int .u8 0] 37)).there W.heap.size 0 32 := fun W => (Bts.new (W := W) (List.replicate 32 0) 37 rfl).there rfl
  obtain ⟨i0, hi, hz0, hz1, hz2⟩ := info_partsC info_byteC
  go_enter Tryd.func6, Tryd.ntmps6
  go_wp2_with fail
  refine calls_world (fun W => Below w.heap.size w W ∧ Pnt W w.heap.size x y false) ⟨by repeat (first | with_reducible exact Below.refl _ _ | with_reducible refine Below.alloc ?_ (by first | omega | (simp; done) | (simp; omega)) _), Pnt.new rfl⟩ ?_
  rintro W ⟨B, hP⟩
  with_reducible refine (ON.out W).mono ?_
  rintro e w1 ⟨rfl, hb⟩
  replace B := B.trans (hb.mono B.size)
  replace hP := hP.keep hb
  clear hb W
  have gP := hP.cells
  go_wp2_with fail
  with_reducible refine (P1.out w1).mono ?_
  rintro e w2 ⟨rfl, hb⟩
  replace B := B.trans (hb.mono B.size)
  replace hP := hP.keep hb
  clear hb gP
  have t2 := tr w2
  have bn : Below w2.heap.size w2 ((w2.alloc (.cells #[.int .u8 0, .int .u8 0, .int .u8 0, .int .u8 0, .int .u8 0, .int .u8 0, .int .u8 0, .int .u8 0, .int .u8 0, .int .u8 0, .int .u8 0, .int .u8 0, .int .u8 0, .int .u8 0, .int .u8 0, .int .u8 0, .int .u8 0, .int .u8 0, .int .u8 0, .int .u8 0, .int .u8 0, .int .u8 0, .int .u8 0, .int .u8 0, .int .u8 0, .int .u8 0, .int .u8 0, .int .u8 0, .int .u8 0, .int .u8 0, .int .u8 0, .int .u8 0] 37)).setCells w2.heap.size 0 (L1.map (Value.int .u8)).toArray.toList) := below_setCells (Nat.le_refl _) _ 0 _ ((Below.refl _ _).alloc (Nat.le_refl _) _)
  have hN := bts_setCells (l := L1) (W := w2.alloc (.cells #[.int .u8 0, .int .u8 0, .int .u8 0, .int .u8 0, .int .u8 0, .int .u8 0, .int .u8 0, .int .u8 0, .int .u8 0, .int .u8 0, .int .u8 0, .int .u8 0, .int .u8 0, .int .u8 0, .int .u8 0, .int .u8 0, .int .u8 0, .int .u8 0, .int .u8 0, .int .u8 0, .int .u8 0, .int .u8 0, .int .u8 0, .int .u8 0, .int .u8 0, .int .u8 0, .int .u8 0, .int .u8 0, .int .u8 0, .int .u8 0, .int .u8 0, .int .u8 0] 37)) (b := w2.heap.size) (by rw [List.length_map, K1.out]; exact t2)
  have hP2 := hP.keep bn
  have B2 := B.trans (bn.mono B.size)
  have gP2 := hP2.cells
  have FF : Hid (Below w.heap.size w ((w2.alloc (.cells #[.int .u8 0, .int .u8 0, .int .u8 0, .int .u8 0, .int .u8 0, .int .u8 0, .int .u8 0, .int .u8 0, .int .u8 0, .int .u8 0, .int .u8 0, .int .u8 0, .int .u8 0, .int .u8 0, .int .u8 0, .int .u8 0, .int .u8 0, .int .u8 0, .int .u8 0, .int .u8 0, .int .u8 0, .int .u8 0, .int .u8 0, .int .u8 0, .int .u8 0, .int .u8 0, .int .u8 0, .int .u8 0, .int .u8 0, .int .u8 0, .int .u8 0, .int .u8 0] 37)).setCells w2.heap.size 0 (L1.map (Value.int .u8)).toArray.toList) ∧ Pnt ((w2.alloc (.cells #[.int .u8 0, .int .u8 0, .int .u8 0, .int .u8 0, .int .u8 0, .int .u8 0, .int .u8 0, .int .u8 0, .int .u8 0, .int .u8 0, .int .u8 0, .int .u8 0, .int .u8 0, .int .u8 0, .int .u8 0, .int .u8 0, .int .u8 0, .int .u8 0, .int .u8 0, .int .u8 0, .int .u8 0, .int .u8 0, .int .u8 0, .int .u8 0, .int .u8 0, .int .u8 0, .int .u8 0, .int .u8 0, .int .u8 0, .int .u8 0, .int .u8 0, .int .u8 0] 37)).setCells w2.heap.size 0 (L1.map (Value.int .u8)).toArray.toList) w.heap.size x y false ∧ Bts ((w2.alloc (.cells #[.int .u8 0, .int .u8 0, .int .u8 0, .int .u8 0, .int .u8 0, .int .u8 0, .int .u8 0, .int .u8 0, .int .u8 0, .int .u8 0, .int .u8 0, .int .u8 0, .int .u8 0, .int .u8 0, .int .u8 0, .int .u8 0, .int .u8 0, .int .u8 0, .int .u8 0, .int .u8 0, .int .u8 0, .int .u8 0, .int .u8 0, .int .u8 0, .int .u8 0, .int .u8 0, .int .u8 0, .int .u8 0, .int .u8 0, .int .u8 0, .int .u8 0, .int .u8 0] 37)).setCells w2.heap.size 0 (L1.map (Value.int .u8)).toArray.toList) w2.heap.size L1) := ⟨B2, hP2, hN⟩
  clear B2 hP2 gP2 bn hN hP B
  go_wp2_with (first
    | ((refine wpList_store_mid rfl 37 _ _ rfl w2.heap.size 0 _ rfl rfl (by rw [s1]; exact t2) (by rw [s1]; kernel_rfl) oc1 ?_); (refine wpList_world (fun W => Below w.heap.size w W ∧ Pnt W w.heap.size x y false ∧ Bts W w2.heap.size L1) FF.out ?_); (clear FF); (rintro W ⟨B, hP, hX⟩); (have gP := hP.cells); (have HO := fun o => hX.alloc (by rw [K1.out]; decide) o); (have sA : ∀ o, w.heap.size ≤ (W.alloc o).heap.size := fun o => by have := B.size; simp; omega); (have sB := B.size); (have BB : Hid (Below w.heap.size w W) := B); (clear B))
    | (at_builtin; (refine wpList_append_own_at _ rfl _ _ 27 rfl w.heap.size 5 i0 (.int .u8 0) 1 1 Tryd.underlying27 hi hz0 hz1 hz2 rfl (by decide) (.slice (some ⟨W.heap.size, 0, none⟩) 1 1) 1 [.int .u8 3] rfl (own_one sB) ⟨w2.heap.size, 0, none⟩ 32 32 (L1.map (Value.int .u8)) rfl (by rw [Nat.mul_one, List.length_map]; exact K1.out) (cells_at rfl (HO _)) (fun u hu => by obtain ⟨z, _, rfl⟩ := List.mem_map.1 hu; rfl) (by unfold maxLen; decide) (by decide) (sA _) ?_); (intro v' w5 hown' hgrow5 hnil5 hblk5)))
  have HR : Hid (World.ownsRow w5 w.heap.size 5 1 v' 33 (((3 : Int) :: L1).map (Value.int .u8)) ∧ Below w.heap.size w w5) := ⟨hown', (BB.out.alloc BB.out.size _).grown hgrow5 (sA _) (fun k hk => by cases hk; exact sB)⟩
  clear hown' hgrow5 hnil5 hblk5
  go_wp2
  simp [bodyPost, results, Tryd.results6, go_sem]
  exact HR.out
set_option maxRecDepth 100000 in
set_option maxHeartbeats 8000000 in
theorem rexpand_walk {x y : Int} {L1 L2 : List Int} (K1 : Hid (L1.length = 32)) (K2 : Hid (L2.length = 32)) (ON : Hid (∀ w, Calls Tryd.prog 14 #[.agg #[.int .u64 (l0 x), .int .u64 (l1 x), .int .u64 (l2 x), .int .u64 (l3 x), .int .u64 (l0 y), .int .u64 (l1 y), .int .u64 (l2 y), .int .u64 (l3 y), .bool false]] w fun e w' => e = .returned (.bool true) ∧ Below w.heap.size w w')) (P1 : Hid (∀ w, Calls Tryd.prog 15 #[.agg #[.int .u64 (l0 x), .int .u64 (l1 x), .int .u64 (l2 x), .int .u64 (l3 x)]] w fun e w' => e = .returned (.agg (L1.map (Value.int .u8)).toArray) ∧ Below w.heap.size w w')) (P2 : Hid (∀ w, Calls Tryd.prog 15 #[.agg #[.int .u64 (l0 y), .int .u64 (l1 y), .int .u64 (l2 y), .int .u64 (l3 y)]] w fun e w' => e = .returned (.agg (L2.map (Value.int .u8)).toArray) ∧ Below w.heap.size w w')) (w : World) :
    Calls Tryd.prog 7 #[.agg #[.int .u64 (l0 x), .int .u64 (l1 x), .int .u64 (l2 x), .int .u64 (l3 x), .int .u64 (l0 y), .int .u64 (l1 y), .int .u64 (l2 y), .int .u64 (l3 y), .bool false]] w fun e w' => ∃ v, e = .returned (.tuple #[v, .int .i64 0]) ∧ World.ownsRow w' w.heap.size 5 1 v 65 ((((4 : Int) :: L1) ++ L2).map (Value.int .u8)) ∧ Below w.heap.size w w' := by
  obtain ⟨LL, eLL⟩ : ∃ LL, LL = (((4 : Int) :: L1) ++ L2).map (Value.int .u8) := ⟨_, rfl⟩
  rw [← eLL]
  have EL : Hid (LL = (((4 : Int) :: L1) ++ L2).map (Value.int .u8)) := eLL
  clear eLL
  have s1 : (L1.map (Value.int .u8)).toArray.size = 32 := by simp [K1.out]
  have oc1 := one_cells L1
  have s2 : (L2.map (Value.int .u8)).toArray.size = 32 := by simp [K2.out]
  have oc2 := one_cells L2
  have tr : ∀ W : World, (W.alloc (.cells #[.int .u8 0, .int .u8 0, .int .u8 0, .int .u8 0, .int .u8 0, .int .u8 0, .int .u8 0, .int .u8 0, .int .u8 0, .int .u8 0, .int .u8 0, .int .u8 0, .int .u8 0, .int .u8 0, .int .u8 0, .int .u8 0, .int .u8 0, .int .u8 0, .int .u8 0, .int .u8 0, .int .u8 0, .int .u8 0, .int .u8 0, .int .u8 0, .int .u8 0, .int .u8 0, .int .u8 0, .int .u8 0, .int .u8 0, .int .u8 0, .int .u8 0, .int .u8 0] 37)).there W.heap.size 0 32 := fun W => (Bts.new (W := W) (List.replicate 32 0) 37 rfl).there rfl
  obtain ⟨i0, hi, hz0, hz1, hz2⟩ := info_partsC info_byteC
  go_enter Tryd.func7, Tryd.ntmps7
  go_wp2_with fail
  refine calls_world (fun W => Below w.heap.size w W ∧ Pnt W w.heap.size x y false) ⟨by repeat (first | with_reducible exact Below.refl _ _ | with_reducible refine Below.alloc ?_ (by first | omega | (simp; done) | (simp; omega)) _), Pnt.new rfl⟩ ?_
  rintro W ⟨B, hP⟩
  with_reducible refine (ON.out W).mono ?_
  rintro e w1 ⟨rfl, hb⟩
  replace B := B.trans (hb.mono B.size)
  replace hP := hP.keep hb
  clear hb W
  have gP := hP.cells
  go_wp2_with fail
  with_reducible refine (P1.out w1).mono ?_
  rintro e w2 ⟨rfl, hb⟩
  replace B := B.trans (hb.mono B.size)
  replace hP := hP.keep hb
  clear hb gP
  have t2 := tr w2
  have bn : Below w2.heap.size w2 ((w2.alloc (.cells #[.int .u8 0, .int .u8 0, .int .u8 0, .int .u8 0, .int .u8 0, .int .u8 0, .int .u8 0, .int .u8 0, .int .u8 0, .int .u8 0, .int .u8 0, .int .u8 0, .int .u8 0, .int .u8 0, .int .u8 0, .int .u8 0, .int .u8 0, .int .u8 0, .int .u8 0, .int .u8 0, .int .u8 0, .int .u8 0, .int .u8 0, .int .u8 0, .int .u8 0, .int .u8 0, .int .u8 0, .int .u8 0, .int .u8 0, .int .u8 0, .int .u8 0, .int .u8 0] 37)).setCells w2.heap.size 0 (L1.map (Value.int .u8)).toArray.toList) := below_setCells (Nat.le_refl _) _ 0 _ ((Below.refl _ _).alloc (Nat.le_refl _) _)
  have hN := bts_setCells (l := L1) (W := w2.alloc (.cells #[.int .u8 0, .int .u8 0, .int .u8 0, .int .u8 0, .int .u8 0, .int .u8 0, .int .u8 0, .int .u8 0, .int .u8 0, .int .u8 0, .int .u8 0, .int .u8 0, .int .u8 0, .int .u8 0, .int .u8 0, .int .u8 0, .int .u8 0, .int .u8 0, .int .u8 0, .int .u8 0, .int .u8 0, .int .u8 0, .int .u8 0, .int .u8 0, .int .u8 0, .int .u8 0, .int .u8 0, .int .u8 0, .int .u8 0, .int .u8 0, .int .u8 0, .int .u8 0] 37)) (b := w2.heap.size) (by rw [List.length_map, K1.out]; exact t2)
  have hP2 := hP.keep bn
  have B2 := B.trans (bn.mono B.size)
  have gP2 := hP2.cells
  go_wp2_with (refine wpList_store_mid rfl 37 _ _ rfl w2.heap.size 0 _ rfl rfl (by rw [s1]; exact t2) (by rw [s1]; kernel_rfl) oc1 ?_)
  refine calls_world (fun W => Below w.heap.size w W ∧ Bts W w2.heap.size L1) ⟨B2, hN⟩ ?_
  clear B2 hN hP2 gP2 bn t2 hP B
  rintro W ⟨B, hX⟩
  generalize w2.heap.size = bx at *
  clear w2
  with_reducible refine (P2.out W).mono ?_
  rintro e w3 ⟨rfl, hb⟩
  replace B := B.trans (hb.mono B.size)
  replace hX := hX.keep (by rw [K1.out]; decide) hb
  clear hb W
  have t2 := tr w3
  have bn : Below w3.heap.size w3 ((w3.alloc (.cells #[.int .u8 0, .int .u8 0, .int .u8 0, .int .u8 0, .int .u8 0, .int .u8 0, .int .u8 0, .int .u8 0, .int .u8 0, .int .u8 0, .int .u8 0, .int .u8 0, .int .u8 0, .int .u8 0, .int .u8 0, .int .u8 0, .int .u8 0, .int .u8 0, .int .u8 0, .int .u8 0, .int .u8 0, .int .u8 0, .int .u8 0, .int .u8 0, .int .u8 0, .int .u8 0, .int .u8 0, .int .u8 0, .int .u8 0, .int .u8 0, .int .u8 0, .int .u8 0] 37)).setCells w3.heap.size 0 (L2.map (Value.int .u8)).toArray.toList) := below_setCells (Nat.le_refl _) _ 0 _ ((Below.refl _ _).alloc (Nat.le_refl _) _)
  have hN := bts_setCells (l := L2) (W := w3.alloc (.cells #[.int .u8 0, .int .u8 0, .int .u8 0, .int .u8 0, .int .u8 0, .int .u8 0, .int .u8 0, .int .u8 0, .int .u8 0, .int .u8 0, .int .u8 0, .int .u8 0, .int .u8 0, .int .u8 0, .int .u8 0, .int .u8 0, .int .u8 0, .int .u8 0, .int .u8 0, .int .u8 0, .int .u8 0, .int .u8 0, .int .u8 0, .int .u8 0, .int .u8 0, .int .u8 0, .int .u8 0, .int .u8 0, .int .u8 0, .int .u8 0, .int .u8 0, .int .u8 0] 37)) (b := w3.heap.size) (by rw [List.length_map, K2.out]; exact t2)
  have FF : Hid (Below w.heap.size w ((w3.alloc (.cells #[.int .u8 0, .int .u8 0, .int .u8 0, .int .u8 0, .int .u8 0, .int .u8 0, .int .u8 0, .int .u8 0, .int .u8 0, .int .u8 0, .int .u8 0, .int .u8 0, .int .u8 0, .int .u8 0, .int .u8 0, .int .u8 0, .int .u8 0, .int .u8 0, .int .u8 0, .int .u8 0, .int .u8 0, .int .u8 0, .int .u8 0, .int .u8 0, .int .u8 0, .int .u8 0, .int .u8 0, .int .u8 0, .int .u8 0, .int .u8 0, .int .u8 0, .int .u8 0] 37)).setCells w3.heap.size 0 (L2.map (Value.int .u8)).toArray.toList) ∧ Bts ((w3.alloc (.cells #[.int .u8 0, .int .u8 0, .int .u8 0, .int .u8 0, .int .u8 0, .int .u8 0, .int .u8 0, .int .u8 0, .int .u8 0, .int .u8 0, .int .u8 0, .int .u8 0, .int .u8 0, .int .u8 0, .int .u8 0, .int .u8 0, .int .u8 0, .int .u8 0, .int .u8 0, .int .u8 0, .int .u8 0, .int .u8 0, .int .u8 0, .int .u8 0, .int .u8 0, .int .u8 0, .int .u8 0, .int .u8 0, .int .u8 0, .int .u8 0, .int .u8 0, .int .u8 0] 37)).setCells w3.heap.size 0 (L2.map (Value.int .u8)).toArray.toList) bx L1 ∧ Bts ((w3.alloc (.cells #[.int .u8 0, .int .u8 0, .int .u8 0, .int .u8 0, .int .u8 0, .int .u8 0, .int .u8 0, .int .u8 0, .int .u8 0, .int .u8 0, .int .u8 0, .int .u8 0, .int .u8 0, .int .u8 0, .int .u8 0, .int .u8 0, .int .u8 0, .int .u8 0, .int .u8 0, .int .u8 0, .int .u8 0, .int .u8 0, .int .u8 0, .int .u8 0, .int .u8 0, .int .u8 0, .int .u8 0, .int .u8 0, .int .u8 0, .int .u8 0, .int .u8 0, .int .u8 0] 37)).setCells w3.heap.size 0 (L2.map (Value.int .u8)).toArray.toList) w3.heap.size L2) := ⟨B.trans (bn.mono B.size), hX.keep (by rw [K1.out]; decide) bn, hN⟩
  clear B hX bn hN
  go_wp2_with (first
    | ((refine wpList_store_mid rfl 37 _ _ rfl w3.heap.size 0 _ rfl rfl (by rw [s2]; exact t2) (by rw [s2]; kernel_rfl) oc2 ?_); (refine wpList_world (fun W => Below w.heap.size w W ∧ Bts W bx L1 ∧ Bts W w3.heap.size L2) FF.out ?_); (clear FF); (rintro W0 ⟨B, hX, hY⟩); (have HO := fun o => hX.alloc (by rw [K1.out]; decide) o); (have sA : ∀ o, W0.heap.size ≤ (W0.alloc o).heap.size := fun o => by simp); (have BB : Hid (Below w.heap.size w W0 ∧ Bts W0 w3.heap.size L2) := ⟨B, hY⟩); (clear B hX hY))
    | (at_builtin; (refine wpList_append_own_at _ rfl _ _ 27 rfl W0.heap.size 5 i0 (.int .u8 0) 1 1 Tryd.underlying27 hi hz0 hz1 hz2 rfl (by decide) (.slice (some ⟨W0.heap.size, 0, none⟩) 1 1) 1 [.int .u8 4] rfl (own_one (Nat.le_refl _)) ⟨bx, 0, none⟩ 32 32 (L1.map (Value.int .u8)) rfl (by rw [Nat.mul_one, List.length_map]; exact K1.out) (cells_at rfl (HO _)) (fun u hu => by obtain ⟨z, _, rfl⟩ := List.mem_map.1 hu; rfl) (by unfold maxLen; decide) (by decide) (sA _) ?_); (intro v' w5 hown' hgrow5 hnil5 hblk5); (have B5 : Below W0.heap.size W0 w5 := ((Below.refl _ _).alloc (Nat.le_refl _) _).grown hgrow5 (sA _) (fun k hk => by cases hk; exact Nat.le_refl _)); (have hY5 := BB.out.2.keep (by rw [K2.out]; decide) B5); (have s5 := B5.size); (have H5 : Hid (World.ownsRow w5 W0.heap.size 5 1 v' 33 ([.int .u8 4] ++ L1.map (Value.int .u8)) ∧ Below W0.heap.size W0 w5) := ⟨hown', B5⟩); (clear hown' hgrow5 hnil5 hblk5 B5))
    | (at_builtin; (refine wpList_append_own_at _ rfl _ _ 27 rfl W0.heap.size 5 i0 (.int .u8 0) 1 1 Tryd.underlying27 hi hz0 hz1 hz2 rfl (by decide) v' 33 _ rfl H5.out.1 ⟨w3.heap.size, 0, none⟩ 32 32 (L2.map (Value.int .u8)) rfl (by rw [Nat.mul_one, List.length_map]; exact K2.out) (cells_at rfl hY5) (fun u hu => by obtain ⟨z, _, rfl⟩ := List.mem_map.1 hu; rfl) (by unfold maxLen; decide) (by decide) s5 ?_); (intro v2 w6 hown6 hgrow6 hnil6 hblk6)))
  have HR : Hid (World.ownsRow w6 w.heap.size 5 1 v2 65 LL ∧ Below w.heap.size w w6) := by
    refine ⟨?_, ?_⟩
    · have h : OwnB W0.heap.size w6 v2 (((4 : Int) :: L1) ++ L2) := by
        rw [OwnB, List.length_append, List.length_cons, K1.out, K2.out, List.map_append, List.map_cons]
        exact hown6
      have h2 := h.base BB.out.1.size
      rw [OwnB, List.length_append, List.length_cons, K1.out, K2.out] at h2
      rw [EL.out]
      exact h2
    · have b6 : Below W0.heap.size W0 w6 := H5.out.2.grown hgrow6 H5.out.2.size (fun k hk => (World.ownsRow.lt H5.out.1 k hk).1)
      exact BB.out.1.trans (b6.mono BB.out.1.size)
  clear hown6 hgrow6 hnil6 hblk6
  go_wp2
  simp [bodyPost, results, Tryd.results7, go_sem]
  exact HR.out
theorem low_bit (y : Int) : l0 y % 2 = bitN y 0 := by
  simp [l0, bitN]
  try omega
theorem r5on_cp {x y : Int} {i : Bool} (hx : Num x) (hy : Num y) : Hid (∀ w, Calls Tryd.prog 14 #[.agg #[.int .u64 (l0 x), .int .u64 (l1 x), .int .u64 (l2 x), .int .u64 (l3 x), .int .u64 (l0 y), .int .u64 (l1 y), .int .u64 (l2 y), .int .u64 (l3 y), .bool i]] w fun e w' => e = .returned (.bool (decide (Vd x y i))) ∧ Below w.heap.size w w') := fun w => by
  by_cases k : Vd x y i
  · rw [decide_eq_true k]; exact (r5on_yes k).out w
  · rw [decide_eq_false k]; exact (r5on_no hx hy k).out w
theorem cpE_no {x y : Int} {i : Bool} (h : ¬ Vd x y i) : cpE x y i = 50 := if_neg h
theorem cpE_id {x y : Int} (h : Vd x y true) : cpE x y true = 51 := by unfold cpE; rw [if_pos h, if_pos rfl]
theorem cpE_yes {x y : Int} (h : Vd x y false) : cpE x y false = 0 := by unfold cpE; rw [if_pos h, if_neg (by decide)]
theorem rcompress_all {x y : Int} {i : Bool} (hx : Num x) (hy : Num y) (w : World) :
    Calls Tryd.prog 6 #[.agg #[.int .u64 (l0 x), .int .u64 (l1 x), .int .u64 (l2 x), .int .u64 (l3 x), .int .u64 (l0 y), .int .u64 (l1 y), .int .u64 (l2 y), .int .u64 (l3 y), .bool i]] w fun e w' => ∃ v, e = .returned (.tuple #[v, .int .i64 (cpE x y i)]) ∧ OwnB w.heap.size w' v (cpL x y i) ∧ Below w.heap.size w w' := by
  have ON := r5on_cp (i := i) hx hy
  by_cases k : Vd x y i
  case neg =>
    rw [decide_eq_false k] at ON
    refine (rcompress_no ON w).mono ?_
    rintro e w' ⟨rfl, hb⟩
    refine ⟨_, by rw [cpE_no k], ?_, hb⟩
    rw [cpL, cpE_no k, if_neg (by decide)]
    exact OwnB.nil _ _
  rw [decide_eq_true k] at ON
  cases i with
  | true =>
    refine (rcompress_id ON w).mono ?_
    rintro e w' ⟨rfl, hb⟩
    refine ⟨_, by rw [cpE_id k], ?_, hb⟩
    rw [cpL, cpE_id k, if_neg (by decide)]
    exact OwnB.nil _ _
  | false =>
    rw [cpL, cpE_yes k, if_pos rfl]
    have e0 : (l0 y).tmod 2 = bitN y 0 := by rw [Int.tmod_eq_emod_of_nonneg (by unfold l0; omega)]; exact low_bit y
    rcases bit_twoY y with hb | hb
    · rw [hb] at e0 ⊢
      refine (rcompress_0 (putL_len x) e0 ON (fun w => rput_any w) w).mono ?_
      rintro e w' ⟨v, rfl, ho, hb⟩
      refine ⟨v, rfl, ?_, hb⟩
      rw [OwnB, List.length_cons, putL_len]
      exact ho
    · rw [hb] at e0 ⊢
      refine (rcompress_1 (putL_len x) e0 ON (fun w => rput_any w) w).mono ?_
      rintro e w' ⟨v, rfl, ho, hb⟩
      refine ⟨v, rfl, ?_, hb⟩
      rw [OwnB, List.length_cons, putL_len]
      exact ho
theorem rexpand_all {x y : Int} {i : Bool} (hx : Num x) (hy : Num y) (w : World) :
    Calls Tryd.prog 7 #[.agg #[.int .u64 (l0 x), .int .u64 (l1 x), .int .u64 (l2 x), .int .u64 (l3 x), .int .u64 (l0 y), .int .u64 (l1 y), .int .u64 (l2 y), .int .u64 (l3 y), .bool i]] w fun e w' => ∃ v, e = .returned (.tuple #[v, .int .i64 (cpE x y i)]) ∧ OwnB w.heap.size w' v (exL x y i) ∧ Below w.heap.size w w' := by
  have ON := r5on_cp (i := i) hx hy
  by_cases k : Vd x y i
  case neg =>
    rw [decide_eq_false k] at ON
    refine (rexpand_no ON w).mono ?_
    rintro e w' ⟨rfl, hb⟩
    refine ⟨_, by rw [cpE_no k], ?_, hb⟩
    rw [exL, cpE_no k, if_neg (by decide)]
    exact OwnB.nil _ _
  rw [decide_eq_true k] at ON
  cases i with
  | true =>
    refine (rexpand_id ON w).mono ?_
    rintro e w' ⟨rfl, hb⟩
    refine ⟨_, by rw [cpE_id k], ?_, hb⟩
    rw [exL, cpE_id k, if_neg (by decide)]
    exact OwnB.nil _ _
  | false =>
    rw [exL, cpE_yes k, if_pos rfl]
    refine (rexpand_walk (putL_len x) (putL_len y) ON (fun w => rput_any w) (fun w => rput_any w) w).mono ?_
    rintro e w' ⟨v, rfl, ho, hb⟩
    refine ⟨v, rfl, ?_, hb⟩
    rw [OwnB, List.length_append, List.length_cons, putL_len, putL_len]
    exact ho
end Go.Proofs.YtfhakamheidcnaaDoor

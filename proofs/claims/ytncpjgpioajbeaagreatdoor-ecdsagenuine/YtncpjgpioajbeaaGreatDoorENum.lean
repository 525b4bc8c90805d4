import Derived.Test.YtncpjgpioajbeaaGreatDoorEMod
import Derived.Test.YtncpjgpioajbeaaGreatDoorGet
namespace Go.Proofs.YtncpjgpioajbeaaGreatDoor
open Go.RowKit Go.Sort

def hashV (A : List Int) : Value := .agg ((A.map fun z => Value.int .u8 z).toArray)

set_option maxRecDepth 100000 in
set_option maxHeartbeats 2000000 in
theorem ewhole_any {A : List Int} {bb ob cb : Nat} (hA : Byts A) (hl : A.length ≤ 32) (w : World) (ha : (∀ i, i < A.length → w.cell? ⟨bb, ob + i, none⟩ = some (.int .u8 (A.getD i 0)))) :
    Calls Tryz.prog 42 #[.slice (some ⟨bb, ob, none⟩) A.length cb] w fun e w' => e = .returned (.agg #[.int .u64 (l0 (sufN A A.length)), .int .u64 (l1 (sufN A A.length)), .int .u64 (l2 (sufN A A.length)), .int .u64 (l3 (sufN A A.length))]) ∧ Below w.heap.size w w' := by
  have C : Hid (∀ w, (∀ i, i < A.length → w.cell? ⟨bb, ob + i, none⟩ = some (.int .u8 (A.getD i 0))) → Calls Tryz.prog 78 #[.slice (some ⟨bb, ob, none⟩) A.length cb] w fun e w' => e = .returned (.tuple #[.agg #[.int .u64 (l0 (sufN A A.length)), .int .u64 (l1 (sufN A A.length)), .int .u64 (l2 (sufN A A.length)), .int .u64 (l3 (sufN A A.length))], .int .i64 0]) ∧ Below w.heap.size w w') := fun w ha => get_some hA hl w ha
  have HA : Hid (∀ i, i < A.length → w.cell? ⟨bb, ob + i, none⟩ = some (.int .u8 (A.getD i 0))) := ha
  clear ha hA hl
  generalize sufN A A.length = n at *
  go_enter Tryz.func42, Tryz.ntmps42
  go_wp2_with fail
  refine calls_world (fun W => Below w.heap.size w W ∧ (∀ i, i < A.length → W.cell? ⟨bb, ob + i, none⟩ = some (.int .u8 (A.getD i 0))) ∧ Blank W w.heap.size) ⟨by repeat (first | with_reducible exact Below.refl _ _ | with_reducible refine Below.alloc ?_ (by first | omega | (simp; done) | (simp; omega)) _), fun i hi => cell_keep ((Below.refl _ _).alloc (Nat.le_refl _) _) (HA.out i hi), Blank.new rfl⟩ ?_
  rintro W ⟨B, hY, hR⟩
  with_reducible refine (C.out _ hY).mono ?_
  rintro e w1 ⟨rfl, hb⟩
  replace B := B.trans (hb.mono B.size)
  replace hR := hR.keep hb
  have lr := hR.1.lt (by simp)
  have nr : w1.heap.size ≠ w.heap.size := by omega
  have nr' := nr.symm
  have o3 : w.heap.size ≤ w.heap.size := Nat.le_refl _
  clear hb hY W
  have gR := fun o => (hR.alloc o).1.all4
  have fR := fun o => (hR.alloc o).2.all4
  have gR0 := hR.1.all4
  have fR0 := hR.2.all4
  have BB : Hid (Below w.heap.size w w1) := B
  clear B hR
  go_wp2
  simp [bodyPost, results, Tryz.results42, go_sem, *]
  repeat (first | with_reducible exact BB.out | with_reducible refine Below.setCell ?_ o3 _ | with_reducible refine Below.alloc ?_ (by first | omega | (simp; omega)) _)

theorem hash_cells {A : List Int} {W : World} {t : TypeId} : ∀ i, i < A.length → (W.alloc (.cells ((A.map fun z => Value.int .u8 z).toArray) t)).cell? ⟨W.heap.size, 0 + i, none⟩ = some (.int .u8 (A.getD i 0)) := fun i hi => by
  rw [Nat.zero_add]
  simp [go_sem, hi, List.getD]

set_option maxRecDepth 100000 in
set_option maxHeartbeats 2000000 in
theorem enumber_any {A : List Int} (hA : Byts A) (hl : A.length = 32) (w : World) (hm : Mds w) :
    Calls Tryz.prog 20 #[hashV A] w fun e w' => e = .returned (.agg #[.int .u64 (l0 (modN nN (sufN A 32))), .int .u64 (l1 (modN nN (sufN A 32))), .int .u64 (l2 (modN nN (sufN A 32))), .int .u64 (l3 (modN nN (sufN A 32)))]) ∧ Below w.heap.size w w' := by
  have C : Hid (∀ w bb, (∀ i, i < A.length → w.cell? ⟨bb, 0 + i, none⟩ = some (.int .u8 (A.getD i 0))) → Calls Tryz.prog 42 #[.slice (some ⟨bb, 0, none⟩) 32 32] w fun e w' => e = .returned (.agg #[.int .u64 (l0 (sufN A 32)), .int .u64 (l1 (sufN A 32)), .int .u64 (l2 (sufN A 32)), .int .u64 (l3 (sufN A 32))]) ∧ Below w.heap.size w w') := fun w bb h => by
    have := ewhole_any (ob := 0) (cb := 32) hA (by omega) w h
    rw [hl] at this
    exact this
  have hn : Num (sufN A 32) := by
    have := sufN_bound hA 32
    exact ⟨this.1, by have := this.2; simpa using this⟩
  have C2 := ered_any hn
  generalize modN nN (sufN A 32) = r at *
  generalize sufN A 32 = n at *
  unfold hashV
  clear hA hn
  go_enter Tryz.func20, Tryz.ntmps20
  go_wp2_with fail
  refine calls_world (fun W => Below w.heap.size w W ∧ Mds W ∧ (∀ i, i < A.length → W.cell? ⟨w.heap.size, 0 + i, none⟩ = some (.int .u8 (A.getD i 0))) ∧ Blank W (w.heap.size + 1)) ⟨by repeat (first | with_reducible exact Below.refl _ _ | with_reducible refine Below.alloc ?_ (by first | omega | (simp; done) | (simp; omega)) _), (hm.alloc _).alloc _, fun i hi => cell_keep ((Below.refl _ _).alloc (Nat.le_refl _) _) (hash_cells i hi), Blank.new (by simp)⟩ ?_
  rintro W ⟨B, hD, hY, hR⟩
  have o3 : w.heap.size ≤ w.heap.size + 1 := by omega
  generalize w.heap.size + 1 = br at *
  with_reducible refine (C.out _ _ hY).mono ?_
  rintro e w1 ⟨rfl, hb⟩
  replace B := B.trans (hb.mono B.size)
  replace hD := hD.keep hb; replace hR := hR.keep hb
  clear hb hY W C
  go_wp2_with fail
  refine calls_world (fun W => Below w.heap.size w W ∧ Mds W ∧ Blank W br) ⟨B, hD, hR⟩ ?_
  clear B hD hR
  rintro W ⟨B, hD, hR⟩
  with_reducible refine (C2.out _ hD).mono ?_
  rintro e w2 ⟨rfl, hb⟩
  replace B := B.trans (hb.mono B.size)
  replace hR := hR.keep hb
  clear hb hD W C2
  have gR := hR.1.all4
  have fR := hR.2.all4
  go_wp2
  simp [bodyPost, results, Tryz.results20, go_sem, *]
  repeat (first | with_reducible exact B | with_reducible refine Below.setCell ?_ o3 _)

end Go.Proofs.YtncpjgpioajbeaaGreatDoor

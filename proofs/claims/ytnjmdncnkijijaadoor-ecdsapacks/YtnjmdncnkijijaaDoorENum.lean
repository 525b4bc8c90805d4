import Derived.Test.YtnjmdncnkijijaaDoorFRef
import Derived.Test.YtnjmdncnkijijaaDoorEChk
import Derived.Test.YtnjmdncnkijijaaDoorGet
namespace Go.Proofs.YtnjmdncnkijijaaDoor
open Go.RowKit Go.Sort

set_option maxRecDepth 100000 in
set_option maxHeartbeats 2000000 in
theorem ewhole_any {A : List Int} {bb ob cb : Nat} (hA : Byts A) (hl : A.length ≤ 32) (w : World) (ha : (∀ i, i < A.length → w.cell? ⟨bb, ob + i, none⟩ = some (.int .u8 (A.getD i 0)))) :
    Calls Tryd.prog 19 #[.slice (some ⟨bb, ob, none⟩) A.length cb] w fun e w' => e = .returned (.agg #[.int .u64 (l0 (sufN A A.length)), .int .u64 (l1 (sufN A A.length)), .int .u64 (l2 (sufN A A.length)), .int .u64 (l3 (sufN A A.length))]) ∧ Below w.heap.size w w' := by
  have C : Hid (∀ w, (∀ i, i < A.length → w.cell? ⟨bb, ob + i, none⟩ = some (.int .u8 (A.getD i 0))) → Calls Tryd.prog 26 #[.slice (some ⟨bb, ob, none⟩) A.length cb] w fun e w' => e = .returned (.tuple #[.agg #[.int .u64 (l0 (sufN A A.length)), .int .u64 (l1 (sufN A A.length)), .int .u64 (l2 (sufN A A.length)), .int .u64 (l3 (sufN A A.length))], .int .i64 0]) ∧ Below w.heap.size w w') := fun w ha => get_some hA hl w ha
  have HA : Hid (∀ i, i < A.length → w.cell? ⟨bb, ob + i, none⟩ = some (.int .u8 (A.getD i 0))) := ha
  clear ha hA hl
  generalize sufN A A.length = n at *
  go_enter Tryd.func19, Tryd.ntmps19
  go_wp2_with fail
  refine calls_world (fun W => Below w.heap.size w W ∧ (∀ i, i < A.length → W.cell? ⟨bb, ob + i, none⟩ = some (.int .u8 (A.getD i 0))) ∧ Blank W w.heap.size) ⟨by repeat (first | with_reducible exact Below.refl _ _ | with_reducible refine Below.alloc ?_ (by first | omega | (simp; done) | (simp; omega)) _), fun i hi => cell_keep ((Below.refl _ _).alloc (Nat.le_refl _) _) (HA.out i hi), Blank.new rfl⟩ ?_
  rintro W ⟨B, hY, hR⟩
  with_reducible refine (C.out _ hY).mono ?_
  rintro e w1 ⟨rfl, hb⟩
  replace B := B.trans (hb.mono B.size)
  replace hR := hR.keep hb
  have lr := hR.1.lt (by simp)
  have nr : w1.heap.size ≠ w.heap.size := by omega
  have nr' := nr.symm
  have o3 : w.heap.size ≤ w.heap.size := Nat.le_refl _
  clear hb hY W
  have gR := fun o => (hR.alloc o).1.all4
  have fR := fun o => (hR.alloc o).2.all4
  have gR0 := hR.1.all4
  have fR0 := hR.2.all4
  have BB : Hid (Below w.heap.size w w1) := B
  clear B hR
  go_wp2
  simp [bodyPost, results, Tryd.results19, go_sem, *]
  repeat (first | with_reducible exact BB.out | with_reducible refine Below.setCell ?_ o3 _ | with_reducible refine Below.alloc ?_ (by first | omega | (simp; omega)) _)

end Go.Proofs.YtnjmdncnkijijaaDoor

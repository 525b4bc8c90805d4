import Derived.Test.YtncpjgpioajbeaaGreatDoorFMul
import Derived.Test.YtncpjgpioajbeaaGreatDoorFExp
namespace Go.Proofs.YtncpjgpioajbeaaGreatDoor
open Go.RowKit Go.Sort

/-- The table of the two moduli, as it lies. -/
def Mds (W : World) : Prop := Row W 1 [l0 pN, l1 pN, l2 pN, l3 pN, l0 pC, l1 pC, l2 pC, l3 pC, l0 nN, l1 nN, l2 nN, l3 nN, l0 nC, l1 nC, l2 nC, l3 nC]
theorem Mds.keep {W w1 : World} (h : Mds W) (hb : Below W.heap.size W w1) : Mds w1 := Row.keep h hb
theorem Mds.alloc {W : World} (h : Mds W) (o : Obj) : Mds (W.alloc o) := Row.alloc h o
theorem Mds.set {W : World} {b i : Nat} (h : Mds W) (ne : b ≠ 1) (v : Value) : Mds (W.setCell ⟨b, i, none⟩ v) := Row.setOther h ne v
theorem Mds.set4 {W : World} {b : Nat} (h : Mds W) (ne : b ≠ 1) (v0 v1 v2 v3 : Value) : Mds ((((W.setCell ⟨b, 0, none⟩ v0).setCell ⟨b, 1, none⟩ v1).setCell ⟨b, 2, none⟩ v2).setCell ⟨b, 3, none⟩ v3) := (((h.set ne v0).set ne v1).set ne v2).set ne v3
theorem Mds.lt {W : World} (h : Mds W) : 1 < W.heap.size := Row.lt h (by simp)
theorem Mds.p {W : World} (h : Mds W) : HoldM W 1 pN pC := fun i hi => by
  have := h i (by simp at hi ⊢; omega)
  rw [this]
  simp at hi
  match i, hi with
  | 0, _ => rfl
  | 1, _ => rfl
  | 2, _ => rfl
  | 3, _ => rfl
  | 4, _ => rfl
  | 5, _ => rfl
  | 6, _ => rfl
  | 7, _ => rfl
theorem Mds.n {W : World} (h : Mds W) : W.cell? ⟨1, 8, none⟩ = some (.int .u64 (l0 nN)) ∧ W.cell? ⟨1, 9, none⟩ = some (.int .u64 (l1 nN)) ∧ W.cell? ⟨1, 10, none⟩ = some (.int .u64 (l2 nN)) ∧ W.cell? ⟨1, 11, none⟩ = some (.int .u64 (l3 nN)) ∧ W.cell? ⟨1, 12, none⟩ = some (.int .u64 (l0 nC)) ∧ W.cell? ⟨1, 13, none⟩ = some (.int .u64 (l1 nC)) ∧ W.cell? ⟨1, 14, none⟩ = some (.int .u64 (l2 nC)) ∧ W.cell? ⟨1, 15, none⟩ = some (.int .u64 (l3 nC)) :=
  ⟨h 8 (by simp), h 9 (by simp), h 10 (by simp), h 11 (by simp), h 12 (by simp), h 13 (by simp), h 14 (by simp), h 15 (by simp)⟩

/-- What hangs on the kind: modulus, rest, error. -/
def kM (k : Int) : Int := if k = 0 then pN else if k = 1 then nN else 0
def kC (k : Int) : Int := if k = 0 then pC else if k = 1 then nC else 0
def kE (k : Int) : Int := if k = 0 then 0 else if k = 1 then 0 else 1

set_option maxHeartbeats 1000000 in
theorem of_any (k : Int) (w : World) (hm : Mds w) :
    Calls Tryz.prog 36 #[.int .i64 k] w fun e w' => e = .returned (.tuple #[.agg #[.int .u64 (l0 (kM k)), .int .u64 (l1 (kM k)), .int .u64 (l2 (kM k)), .int .u64 (l3 (kM k)), .int .u64 (l0 (kC k)), .int .u64 (l1 (kC k)), .int .u64 (l2 (kC k)), .int .u64 (l3 (kC k))], .int .i64 (kE k)]) ∧ Below w.heap.size w w' := by
  obtain ⟨z0, z1, z2, z3⟩ := zero_limbs
  have gP := fun o => (hm.alloc o).p.cells
  have gN := fun o => (hm.alloc o).n
  have ll := hm.lt
  by_cases h0 : k = 0
  · subst h0
    rw [show kM 0 = pN from rfl, show kC 0 = pC from rfl, show kE 0 = 0 from rfl]
    clear z0 z1 z2 z3 gN
    generalize pN = m at *
    generalize pC = c at *
    go_enter Tryz.func36, Tryz.ntmps36
    go_wp2
    simp [bodyPost, results, Tryz.results36, go_sem]
    repeat (first | with_reducible exact Below.refl _ _ | with_reducible refine Below.drew ?_ | with_reducible refine Below.alloc ?_ (by first | omega | (simp; done) | (simp; omega)) _ | with_reducible refine Below.setCell ?_ (by first | omega | (simp; done)) _)
  by_cases h1 : k = 1
  · subst h1
    rw [show kM 1 = nN from rfl, show kC 1 = nC from rfl, show kE 1 = 0 from rfl]
    clear z0 z1 z2 z3 gP
    generalize nN = m at *
    generalize nC = c at *
    go_enter Tryz.func36, Tryz.ntmps36
    go_wp2
    simp [bodyPost, results, Tryz.results36, go_sem]
    repeat (first | with_reducible exact Below.refl _ _ | with_reducible refine Below.drew ?_ | with_reducible refine Below.alloc ?_ (by first | omega | (simp; done) | (simp; omega)) _ | with_reducible refine Below.setCell ?_ (by first | omega | (simp; done)) _)
  · rw [show kM k = 0 by simp [kM, h0, h1], show kC k = 0 by simp [kC, h0, h1], show kE k = 1 by simp [kE, h0, h1], z0, z1, z2, z3]
    have t0 : (k != 0) = true := by simp [h0]
    have t1 : (k != 1) = true := by simp [h1]
    clear z0 z1 z2 z3 gP gN
    go_enter Tryz.func36, Tryz.ntmps36
    go_wp2
    simp [bodyPost, results, Tryz.results36, go_sem]
    repeat (first | with_reducible exact Below.refl _ _ | with_reducible refine Below.drew ?_ | with_reducible refine Below.alloc ?_ (by first | omega | (simp; done) | (simp; omega)) _ | with_reducible refine Below.setCell ?_ (by first | omega | (simp; done)) _)
end Go.Proofs.YtncpjgpioajbeaaGreatDoor

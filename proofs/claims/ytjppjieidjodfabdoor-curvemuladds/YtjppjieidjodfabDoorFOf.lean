import Derived.Test.YtjppjieidjodfabDoorFReduce
import Derived.Test.YtjppjieidjodfabDoorFExp
import Derived.Test.YtjppjieidjodfabDoorCards
import Derived.Test.YtjppjieidjodfabDoorTie
import Derived.Test.YtjppjieidjodfabDoorOpen
import Derived.WalkKit
import Derived.ProofKit
import Derived.OpenShut
import Derived.Deep.DeepHandedRow
import Derived.Lib.LaidTab
import Derived.Stop.LaidErr
namespace Go.Proofs.YtjppjieidjodfabDoor
open Go.RowKit Go.Sort

/-- The table of the two moduli, as it lies. -/
def Mds (W : World) : Prop := Row W 1 [l0 pN, l1 pN, l2 pN, l3 pN, l0 pC, l1 pC, l2 pC, l3 pC, l0 nN, l1 nN, l2 nN, l3 nN, l0 nC, l1 nC, l2 nC, l3 nC]
theorem Mds.keep {W w1 : World} (h : Mds W) (hb : Below W.heap.size W w1) : Mds w1 := Row.keep h hb
theorem Mds.alloc {W : World} (h : Mds W) (o : Obj) : Mds (W.alloc o) := Row.alloc h o
theorem Mds.drew {W : World} (h : Mds W) : Mds W.drew := h
theorem Mds.set {W : World} {b i : Nat} (h : Mds W) (ne : b ≠ 1) (v : Value) : Mds (W.setCell ⟨b, i, none⟩ v) := Row.setOther h ne v
theorem Mds.set4 {W : World} {b : Nat} (h : Mds W) (ne : b ≠ 1) (v0 v1 v2 v3 : Value) : Mds ((((W.setCell ⟨b, 0, none⟩ v0).setCell ⟨b, 1, none⟩ v1).setCell ⟨b, 2, none⟩ v2).setCell ⟨b, 3, none⟩ v3) := (((h.set ne v0).set ne v1).set ne v2).set ne v3
theorem Mds.lt {W : World} (h : Mds W) : 1 < W.heap.size := Row.lt h (by simp)
theorem Mds.p {W : World} (h : Mds W) : HoldM W 1 pN pC := fun i hi => by
  have := h i (by simp at hi ⊢; omega)
  rw [this]
  simp at hi
  match i, hi with
  | 0, _ => rfl
  | 1, _ => rfl
  | 2, _ => rfl
  | 3, _ => rfl
  | 4, _ => rfl
  | 5, _ => rfl
  | 6, _ => rfl
  | 7, _ => rfl
theorem Mds.n {W : World} (h : Mds W) : W.cell? ⟨1, 8, none⟩ = some (.int .u64 (l0 nN)) ∧ W.cell? ⟨1, 9, none⟩ = some (.int .u64 (l1 nN)) ∧ W.cell? ⟨1, 10, none⟩ = some (.int .u64 (l2 nN)) ∧ W.cell? ⟨1, 11, none⟩ = some (.int .u64 (l3 nN)) ∧ W.cell? ⟨1, 12, none⟩ = some (.int .u64 (l0 nC)) ∧ W.cell? ⟨1, 13, none⟩ = some (.int .u64 (l1 nC)) ∧ W.cell? ⟨1, 14, none⟩ = some (.int .u64 (l2 nC)) ∧ W.cell? ⟨1, 15, none⟩ = some (.int .u64 (l3 nC)) :=
  ⟨h 8 (by simp), h 9 (by simp), h 10 (by simp), h 11 (by simp), h 12 (by simp), h 13 (by simp), h 14 (by simp), h 15 (by simp)⟩

/-- What hangs on the kind: modulus, rest, error. -/
def kM (k : Int) : Int := if k = 0 then pN else if k = 1 then nN else 0
def kC (k : Int) : Int := if k = 0 then pC else if k = 1 then nC else 0
def kE (k : Int) : Int := if k = 0 then 0 else if k = 1 then 0 else 1

set_option maxHeartbeats 1000000 in
theorem of_any (k : Int) (w : World) (hm : Mds w) :
    Calls Tryd.prog 98 #[.int .i64 k] w fun e w' => e = .returned (.tuple #[.agg #[.int .u64 (l0 (kM k)), .int .u64 (l1 (kM k)), .int .u64 (l2 (kM k)), .int .u64 (l3 (kM k)), .int .u64 (l0 (kC k)), .int .u64 (l1 (kC k)), .int .u64 (l2 (kC k)), .int .u64 (l3 (kC k))], .int .i64 (kE k)]) ∧ Below w.heap.size w w' := by
  obtain ⟨z0, z1, z2, z3⟩ := zero_limbs
  have gP := fun o => (hm.alloc o).p.cells
  have gN := fun o => (hm.alloc o).n
  have ll := hm.lt
  by_cases h0 : k = 0
  · subst h0
    rw [show kM 0 = pN from rfl, show kC 0 = pC from rfl, show kE 0 = 0 from rfl]
    clear z0 z1 z2 z3 gN
    generalize pN = m at *
    generalize pC = c at *
    go_enter Tryd.func98, Tryd.ntmps98
    go_wp2
    simp [bodyPost, results, Tryd.results98, go_sem]
    repeat (first | with_reducible exact Below.refl _ _ | with_reducible refine Below.drew ?_ | with_reducible refine Below.alloc ?_ (by first | omega | (simp; done) | (simp; omega)) _ | with_reducible refine Below.setCell ?_ (by first | omega | (simp; done)) _)
  by_cases h1 : k = 1
  · subst h1
    rw [show kM 1 = nN from rfl, show kC 1 = nC from rfl, show kE 1 = 0 from rfl]
    clear z0 z1 z2 z3 gP
    generalize nN = m at *
    generalize nC = c at *
    go_enter Tryd.func98, Tryd.ntmps98
    go_wp2
    simp [bodyPost, results, Tryd.results98, go_sem]
    repeat (first | with_reducible exact Below.refl _ _ | with_reducible refine Below.drew ?_ | with_reducible refine Below.alloc ?_ (by first | omega | (simp; done) | (simp; omega)) _ | with_reducible refine Below.setCell ?_ (by first | omega | (simp; done)) _)
  · rw [show kM k = 0 by simp [kM, h0, h1], show kC k = 0 by simp [kC, h0, h1], show kE k = 1 by simp [kE, h0, h1], z0, z1, z2, z3]
    have t0 : (k != 0) = true := by simp [h0]
    have t1 : (k != 1) = true := by simp [h1]
    clear z0 z1 z2 z3 gP gN
    go_enter Tryd.func98, Tryd.ntmps98
    go_wp2
    simp [bodyPost, results, Tryd.results98, go_sem]
    repeat (first | with_reducible exact Below.refl _ _ | with_reducible refine Below.drew ?_ | with_reducible refine Below.alloc ?_ (by first | omega | (simp; done) | (simp; omega)) _ | with_reducible refine Below.setCell ?_ (by first | omega | (simp; done)) _)
end Go.Proofs.YtjppjieidjodfabDoor

/- What the table of moduli holds; the world of the witness. -/
namespace Go.Proofs.YtjppjieidjodfabDoor
open Go.ChangeShapes Go.WideShapes Go.ChangeAt Go.RowKit

/-- A block's cells put anew. -/
def lay (cs : Array Value) : Obj → Obj
  | .cells _ t frozen => .cells cs t frozen
  | o => o
noncomputable def laidWorld (os : Os) : World :=
  { World.holding Tryd.prog os ⟨#[], #[], []⟩ with heap := (World.holding Tryd.prog os ⟨#[], #[], []⟩).heap.modify 1 (lay #[.int .u64 18446744069414583343, .int .u64 18446744073709551615, .int .u64 18446744073709551615, .int .u64 18446744073709551615, .int .u64 4294968273, .int .u64 0, .int .u64 0, .int .u64 0, .int .u64 13822214165235122497, .int .u64 13451932020343611451, .int .u64 18446744073709551614, .int .u64 18446744073709551615, .int .u64 4624529908474429119, .int .u64 4994812053365940164, .int .u64 1, .int .u64 0]) }
def mZ : List Int := [18446744069414583343, 18446744073709551615, 18446744073709551615, 18446744073709551615, 4294968273, 0, 0, 0, 13822214165235122497, 13451932020343611451, 18446744073709551614, 18446744073709551615, 4624529908474429119, 4994812053365940164, 1, 0]

theorem cells_u64 : Tryd.prog.cellsOf 22 = 1 := by kernel_rfl
theorem cells_num : Tryd.prog.cellsOf 24 = 4 := by kernel_rfl
theorem cells_mod : Tryd.prog.cellsOf 82 = 8 := by kernel_rfl
theorem cells_two : Tryd.prog.cellsOf 83 = 16 := by kernel_rfl
theorem g_moduli : Tryd.prog.globalNamed "waybill/field.moduli" = some 1 := by kernel_rfl
theorem t_moduli : (Tryd.prog.globals[1]?).map (·.type) = some 83 := by kernel_rfl

theorem four {H : Type} {enc : TypeId × Value → H} {w : World} {base : Nat} {sp : Nat → Bool} {held : Bool} {fuel : Nat} {cs : List Value} {zs : List Int} {p : List MemPlace}
    (h : DataW.trod enc Tryd.prog w base sp held fuel 24 cs = some (Lib.tabData .u64 zs, p)) : cs = zs.map fun z => Value.int .u64 z :=
  Lib.cells_of_tab Tryd.underlying24 Tryd.underlying22 cells_u64 cells_num h

theorem eight {H : Type} {enc : TypeId × Value → H} {w : World} {base : Nat} {sp : Nat → Bool} {held : Bool} {fuel : Nat} {cs : List Value} {z1 z2 : List Int} {p : List MemPlace}
    (h : DataW.trod enc Tryd.prog w base sp held fuel 82 cs = some (.agg [Lib.tabData .u64 z1, Lib.tabData .u64 z2], p)) : cs = (z1.map fun z => Value.int .u64 z) ++ (z2.map fun z => Value.int .u64 z) := by
  obtain ⟨xs, m, rfl, hx, hl, hn, hi⟩ := DataW.trod_struct Tryd.underlying82 h
  have hxs : xs.map (·.1) = [Lib.tabData .u64 z1, Lib.tabData .u64 z2] := by
    have := congrArg Prod.fst hx
    simpa using this.symm
  match xs, hxs with
  | [(_, p1), (_, p2)], hxs =>
    simp only [List.map_cons, List.map_nil, List.cons.injEq, and_true] at hxs
    obtain ⟨rfl, rfl⟩ := hxs
    have a : List.take (Tryd.prog.cellsOf 24) (List.drop 0 cs) = z1.map fun z => Value.int .u64 z := four (hi 0 _ rfl)
    have b : List.take (Tryd.prog.cellsOf 24) (List.drop 4 cs) = z2.map fun z => Value.int .u64 z := four (hi 1 _ rfl)
    rw [cells_num] at a b
    rw [List.drop_zero] at a
    rw [cells_mod] at hl
    rw [← a, ← b]
    rw [show List.take 4 (List.drop 4 cs) = List.drop 4 cs from List.take_of_length_le (by simp; omega)]
    exact (List.take_append_drop 4 cs).symm

theorem mds_of {W : World} (h : laidMet Tryd.prog [("waybill/field.moduli", Rows.laid_waybill_field_moduli)] W) : Mds W := by
  obtain ⟨ps, ⟨g, t, cs, fuel, p, q, h1, h2, h3, h4, _, _⟩, _, _⟩ := h
  obtain rfl : 1 = g := Option.some.inj (g_moduli.symm.trans h1)
  obtain rfl : 83 = t := Option.some.inj (t_moduli.symm.trans h2)
  obtain ⟨xs, m, rfl, hx, hl, hn, hi⟩ := DataW.trod_array Tryd.underlying83 h4
  have hxs : xs.map (·.1) = [.agg [Lib.tabData .u64 (mZ.take 4), Lib.tabData .u64 ((mZ.drop 4).take 4)], .agg [Lib.tabData .u64 ((mZ.drop 8).take 4), Lib.tabData .u64 (mZ.drop 12)]] := by
    have := congrArg Prod.fst hx
    simp only [Rows.laid_waybill_field_moduli, DataW.agg.injEq] at this
    exact this.symm
  have hcs : cs.toList = mZ.map fun z => Value.int .u64 z := by
    match xs, hxs with
    | [(_, p1), (_, p2)], hxs =>
      simp only [List.map_cons, List.map_nil, List.cons.injEq, and_true] at hxs
      obtain ⟨rfl, rfl⟩ := hxs
      have a := eight (hi 0 (by decide))
      have b := eight (hi 1 (by decide))
      simp only [cells_mod, Nat.zero_mul, Nat.one_mul, List.drop_zero] at a b
      rw [cells_two] at hl
      rw [show List.take 8 (List.drop 8 cs.toList) = List.drop 8 cs.toList from List.take_of_length_le (by simp only [List.length_drop]; omega)] at b
      rw [← List.take_append_drop 8 cs.toList, a, b]
      rfl
  have T : Lib.TabIs Tryd.prog W "waybill/field.moduli" .u64 mZ := by
    show W.var? Tryd.prog "waybill/field.moduli" = _
    rw [h3, ← hcs]
  intro i hi
  have hi' : i < mZ.length := hi
  rw [T.cell g_moduli i hi']
  obtain ⟨a0, a1, a2, a3⟩ := limbs_p
  obtain ⟨b0, b1, b2, b3⟩ := limbs_pc
  obtain ⟨c0, c1, c2, c3⟩ := limbs_n
  obtain ⟨d0, d1, d2, d3⟩ := limbs_nc
  rw [a0, a1, a2, a3, b0, b1, b2, b3, c0, c1, c2, c3, d0, d1, d2, d3]
  rfl
end Go.Proofs.YtjppjieidjodfabDoor

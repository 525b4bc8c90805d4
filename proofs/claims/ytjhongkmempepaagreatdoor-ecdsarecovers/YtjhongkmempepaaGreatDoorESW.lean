import Derived.Test.YtjhongkmempepaaGreatDoorESign
import Derived.Test.YtjhongkmempepaaGreatDoorENum
import Derived.Test.YtjhongkmempepaaGreatDoorCCols
import Derived.Test.YtjhongkmempepaaGreatDoorCSumK
namespace Go.Proofs.YtjhongkmempepaaGreatDoor
open Go.RowKit Go.Sort

theorem quiet_load_mid {P : Program} {C : World → Prop} {a : Act} {o : Oper} {K : Act → Prop} (ty : TypeId) (x : Operand) (ho : o.op = .load ty x)
    (b f : Nat) (hx : a.eval x = .pointer (some ⟨b, f, none⟩)) (cs : List Value) (d : TypeDesc) (hS : ∀ w, C w → w.rangeAt b f cs)
    (hu : P.underlying ty = some d) (hd : d.isRow = true) (hi : (P.info? ty).map (·.size) = some cs.length) (h : K (a.put o.dst (.agg cs.toArray))) : o.quiet P a C K :=
  ⟨.agg cs.toArray, fun w hw => by
    unfold Oper.quietAt execOp
    simp only [ho, hx, Instr.loadAt, Instr.sureAddr, Sem.run_bind, Sem.run_pure, Result.andThen_ok, run_loadVar_mid w b f ty cs d (hS w hw) hu hd hi]
    exact ⟨rfl, rfl⟩, h⟩
/-- A digest in a block. -/
def HAt (W : World) (b : Nat) (A : List Int) : Prop := A.length = 32 ∧ W.rangeAt b 0 (A.map fun z => Value.int .u8 z)
theorem HAt.lt {W : World} {b : Nat} {A : List Int} (h : HAt W b A) : b < W.heap.size := by
  have hl : 0 < A.length := by rw [h.1]; decide
  exact World.block_lt_of_cell? W _ (h.2 0 _ (List.getElem?_eq_getElem (by simpa using hl)))
theorem HAt.keep {W w1 : World} {b : Nat} {A : List Int} (h : HAt W b A) (hb : Below W.heap.size W w1) : HAt w1 b A := ⟨h.1, fun j v hv => cell_keep hb (h.2 j v hv)⟩
theorem HAt.alloc {W : World} {b : Nat} {A : List Int} (h : HAt W b A) (ob : Obj) : HAt (W.alloc ob) b A := h.keep ((Below.refl _ _).alloc (Nat.le_refl _) ob)
theorem HAt.put9 {W : World} {b b' : Nat} {A : List Int} {x' y' : Int} {j : Bool} (h : HAt W b A) (ne : b' ≠ b) : HAt (Go.Proofs.YtjhongkmempepaaGreatDoor.put9 W b' x' y' j) b A := ⟨h.1, fun k v hv => by
  unfold Go.Proofs.YtjhongkmempepaaGreatDoor.put9
  exact cell_far (cell_far (cell_far (cell_far (cell_far (cell_far (cell_far (cell_far (cell_far (h.2 k v hv) ne) ne) ne) ne) ne) ne) ne) ne) ne⟩
theorem HAt.new {W : World} {b : Nat} {A : List Int} {t : TypeId} (hl : A.length = 32) (e : b = W.heap.size) : HAt (W.alloc (.cells ((A.map fun z => Value.int .u8 z).toArray) t)) b A := ⟨hl, fun j v hv => by
  subst e
  rw [Nat.zero_add]
  simpa [go_sem] using hv⟩
theorem Bk9.put9b {W : World} {b b' : Nat} {x' y' : Int} {j : Bool} (h : Bk9 W b) (ne : b' ≠ b) : Bk9 (Go.Proofs.YtjhongkmempepaaGreatDoor.put9 W b' x' y' j) b := by
  unfold Go.Proofs.YtjhongkmempepaaGreatDoor.put9
  exact ⟨Cl.set (Cl.set (Cl.set (Cl.set (Cl.set (Cl.set (Cl.set (Cl.set (Cl.set (h.1) ne _) ne _) ne _) ne _) ne _) ne _) ne _) ne _) ne _, (((((((((h.2.set _ _).set _ _).set _ _).set _ _).set _ _).set _ _).set _ _).set _ _).set _ _)⟩

end Go.Proofs.YtjhongkmempepaaGreatDoor

namespace Go.Proofs.YtjhongkmempepaaGreatDoor
open Go.RowKit Go.Sort

/-- A digest's number modulo n. -/
def dgN (A : List Int) : Int := modN nN (sufN A 32)
/-- What is answered where the nonce's point is (X, Y). -/
structure SwR where
  r : Int
  s : Int
  o : Bool
  e : Int
theorem fitN_fit {x : Int} (h : fitN x = true) : x ≠ 0 ∧ x < nN := by
  unfold fitN at h
  simpa using h
end Go.Proofs.YtjhongkmempepaaGreatDoor

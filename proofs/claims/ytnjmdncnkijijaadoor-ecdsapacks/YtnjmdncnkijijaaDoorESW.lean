import Derived.Test.YtnjmdncnkijijaaDoorFRef
import Derived.Test.YtnjmdncnkijijaaDoorEChk
import Derived.Test.YtnjmdncnkijijaaDoorQAlloc
import Derived.Test.YtnjmdncnkijijaaDoorCJx
import Derived.Test.YtnjmdncnkijijaaDoorENum
import Derived.Test.YtnjmdncnkijijaaDoorCBlend
import Derived.Test.YtnjmdncnkijijaaDoorCSumK
import Derived.Test.YtnjmdncnkijijaaDoorCPnt
namespace Go.Proofs.YtnjmdncnkijijaaDoor
open Go.RowKit Go.Sort

/-- A digest in a block. -/
def HAt (W : World) (b : Nat) (A : List Int) : Prop := A.length = 32 ∧ W.rangeAt b 0 (A.map fun z => Value.int .u8 z)
theorem HAt.lt {W : World} {b : Nat} {A : List Int} (h : HAt W b A) : b < W.heap.size := by
  have hl : 0 < A.length := by rw [h.1]; decide
  exact World.block_lt_of_cell? W _ (h.2 0 _ (List.getElem?_eq_getElem (by simpa using hl)))
theorem HAt.keep {W w1 : World} {b : Nat} {A : List Int} (h : HAt W b A) (hb : Below W.heap.size W w1) : HAt w1 b A := ⟨h.1, fun j v hv => cell_keep hb (h.2 j v hv)⟩
theorem HAt.alloc {W : World} {b : Nat} {A : List Int} (h : HAt W b A) (ob : Obj) : HAt (W.alloc ob) b A := h.keep ((Below.refl _ _).alloc (Nat.le_refl _) ob)
theorem HAt.put9 {W : World} {b b' : Nat} {A : List Int} {x' y' : Int} {j : Bool} (h : HAt W b A) (ne : b' ≠ b) : HAt (Go.Proofs.YtnjmdncnkijijaaDoor.put9 W b' x' y' j) b A := ⟨h.1, fun k v hv => by
  unfold Go.Proofs.YtnjmdncnkijijaaDoor.put9
  exact cell_far (cell_far (cell_far (cell_far (cell_far (cell_far (cell_far (cell_far (cell_far (h.2 k v hv) ne) ne) ne) ne) ne) ne) ne) ne) ne⟩
theorem HAt.new {W : World} {b : Nat} {A : List Int} {t : TypeId} (hl : A.length = 32) (e : b = W.heap.size) : HAt (W.alloc (.cells ((A.map fun z => Value.int .u8 z).toArray) t)) b A := ⟨hl, fun j v hv => by
  subst e
  rw [Nat.zero_add]
  simpa [go_sem] using hv⟩
theorem alloc_sg (dst : Option Tmp) (pos : String) (ty : TypeId) (ρ : Operand → Value) (w : World) : (execOp ρ { dst := dst, op := Op.alloc 26, type := ty, pos := pos, after := #[], guard := none }).run Tryd.prog w = .ok (.value (.pointer (some ⟨w.heap.size, 0, none⟩))) (w.alloc (.cells #[.int .u64 0, .int .u64 0, .int .u64 0, .int .u64 0, .int .u64 0, .int .u64 0, .int .u64 0, .int .u64 0, .bool false] 26)) := by
  simp [execOp, go_sem]

theorem Bk9.put9b {W : World} {b b' : Nat} {x' y' : Int} {j : Bool} (h : Bk9 W b) (ne : b' ≠ b) : Bk9 (Go.Proofs.YtnjmdncnkijijaaDoor.put9 W b' x' y' j) b := by
  unfold Go.Proofs.YtnjmdncnkijijaaDoor.put9
  exact ⟨Cl.set (Cl.set (Cl.set (Cl.set (Cl.set (Cl.set (Cl.set (Cl.set (Cl.set (h.1) ne _) ne _) ne _) ne _) ne _) ne _) ne _) ne _) ne _, (((((((((h.2.set _ _).set _ _).set _ _).set _ _).set _ _).set _ _).set _ _).set _ _).set _ _)⟩

end Go.Proofs.YtnjmdncnkijijaaDoor

namespace Go.Proofs.YtnjmdncnkijijaaDoor
open Go.RowKit Go.Sort

/-- What is answered where the nonce's point is (X, Y). -/
structure SwR where
  r : Int
  s : Int
  o : Bool
  e : Int
end Go.Proofs.YtnjmdncnkijijaaDoor

namespace Go.Proofs.YtnjmdncnkijijaaDoor
open Go.RowKit Go.Sort
set_option maxRecDepth 100000 in
set_option maxHeartbeats 4000000 in
theorem eq_sig_any {x y x' y' : Int} {i j : Bool} (hx : Num x) (hy : Num y) (hx' : Num x') (hy' : Num y') (w : World) :
    (Op.equalIn 10000 26 (.agg #[.int .u64 (l0 x), .int .u64 (l1 x), .int .u64 (l2 x), .int .u64 (l3 x), .int .u64 (l0 y), .int .u64 (l1 y), .int .u64 (l2 y), .int .u64 (l3 y), .bool i]) (.agg #[.int .u64 (l0 x'), .int .u64 (l1 x'), .int .u64 (l2 x'), .int .u64 (l3 x'), .int .u64 (l0 y'), .int .u64 (l1 y'), .int .u64 (l2 y'), .int .u64 (l3 y'), .bool j])).run Tryd.prog w = .ok (decide (x = x') && (decide (y = y') && (i == j))) w := by
  have e1 := eq_num9 hx hx'
  have e2 := eq_num9 hy hy'
  have tf : (Tryd.prog.fieldsOf 26) = #[{ name := "R", type := 24, offset := 0, embedded := false, tag := "", pkgPath := "", byteOffset := 0 }, { name := "S", type := 24, offset := 4, embedded := false, tag := "", pkgPath := "", byteOffset := 32 }, { name := "Odd", type := 4, offset := 8, embedded := false, tag := "", pkgPath := "", byteOffset := 64 }] := by
    unfold Program.fieldsOf; rw [Tryd.underlying26]
  rw [show (10000 : Nat) = 9999 + 1 from rfl, run_equalIn_struct w 9999 _ _ _ (by rw [tf]; exact Tryd.underlying26) (by kernel_rfl), tf]
  have tu := Tryd.underlying4
  have ta := Tryd.isAgg4
  have tz := Tryd.sizeOf4
  have ta' := Tryd.isAgg24
  have tz' := Tryd.sizeOf24
  simp only [Op.eqFields]
  go_simp
  by_cases h1 : x = x' <;> by_cases h2 : y = y' <;> by_cases h3 : i = j <;> simp [h1, h2, h3]

end Go.Proofs.YtnjmdncnkijijaaDoor

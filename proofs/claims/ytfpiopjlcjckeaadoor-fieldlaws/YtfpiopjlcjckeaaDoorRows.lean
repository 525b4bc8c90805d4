/-
  NARROWER THAN 'FOR EVERY INPUT', by the rows' own cells (each row's printed sentence says how): FieldBatch: laid · FieldWhole: laid · FieldLaws: laid · FieldInverts: laid · FieldSquares: laid · FieldProducts: laid.
  DERIVED. THE GIVEN ROWS OF THIS SEAT. 6 by the template 'for every input the law returns true; each argument reads behind the call as it read before'; 0 by the template 'total and deterministic' (their statements: YtfpiopjlcjckeaaDoorTotals.lean).
  GIVEN WITH THE SEED: the statements are not yours to turn. If you find one false, say at which input.
  Laid BY PROGRAM, IN A SANDBOX (cutbox-rows.mjs): the forced cells as the released guide's own fill.sh prints them over the translation 91e7e1596bcb90c0… (all of the seat's roots in one cut). By AI agents, Wed Nov 11 2026. No macro, syntax, notation, axiom, sorry.
-/
import Derived.Test.YtfpiopjlcjckeaaDoorChecked
import GoSem.Claim
import GoSem.ClaimJoined
import GoSem.ClaimMapViews
import Derived.JoinedTies
import Derived.KernelRfl
namespace Go.Proofs.YtfpiopjlcjckeaaDoor
/- THE CELL 'sum', in the pinned program and in every row, IS THE sha256 OF THE DUMP (.gsa) THAT YtfpiopjlcjckeaaDoorProg.lean LOADS. Nothing in Lean hashes anything: it is a label: what it is worth is what the hold of that sum in a sandbox is worth. -/
noncomputable def Tryd.pinned : Pinned := { name := "ytfpiopjlcjckeaadoor", sum := "91e7e1596bcb90c04fd3c5cad5b120c4d420a4673e0cf6c3c6a62b657fe2596c", checked := Tryd.checked }
namespace Rows
def none {H : Type} : Left H := { results := [], args := [] }

/- WHAT THE LISTED PACKAGE-LEVEL VARIABLES READ AS WHEN THE CALL BEGINS. Each datum BY PROGRAM (the guide's laid-datum.mjs) off the statement by which the dump's own 'gosem.cut.vars' lays the variable. In a bare row this is a premise. The card (YtfpiopjlcjckeaaDoorCards.lean) ties it to the program's text. -/
def laid_waybill_field_moduli {H : Type} : DataW H := .agg [.agg [.agg [.lit (.int .u64 18446744069414583343), .lit (.int .u64 18446744073709551615), .lit (.int .u64 18446744073709551615), .lit (.int .u64 18446744073709551615)], .agg [.lit (.int .u64 4294968273), .lit (.int .u64 0), .lit (.int .u64 0), .lit (.int .u64 0)]], .agg [.agg [.lit (.int .u64 13822214165235122497), .lit (.int .u64 13451932020343611451), .lit (.int .u64 18446744073709551614), .lit (.int .u64 18446744073709551615)], .agg [.lit (.int .u64 4624529908474429119), .lit (.int .u64 4994812053365940164), .lit (.int .u64 1), .lit (.int .u64 0)]]]

/-- 'waybilllaw04.FieldBatch': WHATEVER THE INPUT: true; the input reads as it did. -/
def fieldBatchSpec : ChangeSpec := { name := "fieldBatch", fn := fun _ => fun
  | [d1, d2] => { results := [.lit (.bool true)], args := [d1, d2] }
  | _ => none }
def fieldBatchRow : OpenClaim := { program := "ytfpiopjlcjckeaadoor", sum := "91e7e1596bcb90c04fd3c5cad5b120c4d420a4673e0cf6c3c6a62b657fe2596c", func := "waybill/waybilllaw04.FieldBatch", spec := "fieldBatch", inPlace := ["math/bits.Add64", "math/bits.Sub64"], named := ["waybill/field.moduli"], apart := false, laid := [("waybill/field.moduli", laid_waybill_field_moduli)] }
def FieldBatchSaid : Prop := fieldBatchRow.holds Tryd.pinned (OpenSpec.ofChange fieldBatchSpec)

/-- ITS FALSE NEIGHBOUR: 'it returns false'. Refute it at one input. -/
def fieldBatchWrong : ChangeSpec := { name := "fieldBatch", fn := fun _ => fun
  | [d1, d2] => { results := [.lit (.bool false)], args := [d1, d2] }
  | _ => none }
def FieldBatchWrongFalsely : Prop := fieldBatchRow.holds Tryd.pinned (OpenSpec.ofChange fieldBatchWrong)

/-- 'waybilllaw04.FieldWhole': WHATEVER THE INPUT: true; the input reads as it did. -/
def fieldWholeSpec : ChangeSpec := { name := "fieldWhole", fn := fun _ => fun
  | [d1, d2, d3] => { results := [.lit (.bool true)], args := [d1, d2, d3] }
  | _ => none }
def fieldWholeRow : OpenClaim := { program := "ytfpiopjlcjckeaadoor", sum := "91e7e1596bcb90c04fd3c5cad5b120c4d420a4673e0cf6c3c6a62b657fe2596c", func := "waybill/waybilllaw04.FieldWhole", spec := "fieldWhole", inPlace := ["math/bits.Sub64", "math/bits.Add64"], named := ["waybill/field.moduli", "math/bits.divideError", "math/bits.overflowError"], apart := false, laid := [("waybill/field.moduli", laid_waybill_field_moduli)] }
def FieldWholeSaid : Prop := fieldWholeRow.holds Tryd.pinned (OpenSpec.ofChange fieldWholeSpec)

/-- ITS FALSE NEIGHBOUR: 'it returns false'. Refute it at one input. -/
def fieldWholeWrong : ChangeSpec := { name := "fieldWhole", fn := fun _ => fun
  | [d1, d2, d3] => { results := [.lit (.bool false)], args := [d1, d2, d3] }
  | _ => none }
def FieldWholeWrongFalsely : Prop := fieldWholeRow.holds Tryd.pinned (OpenSpec.ofChange fieldWholeWrong)

/-- 'waybilllaw04.FieldLaws': WHATEVER THE INPUT: true; the input reads as it did. -/
def fieldLawsSpec : ChangeSpec := { name := "fieldLaws", fn := fun _ => fun
  | [d1, d2] => { results := [.lit (.bool true)], args := [d1, d2] }
  | _ => none }
def fieldLawsRow : OpenClaim := { program := "ytfpiopjlcjckeaadoor", sum := "91e7e1596bcb90c04fd3c5cad5b120c4d420a4673e0cf6c3c6a62b657fe2596c", func := "waybill/waybilllaw04.FieldLaws", spec := "fieldLaws", inPlace := ["math/bits.Add64", "math/bits.Sub64"], named := ["waybill/field.moduli"], apart := false, laid := [("waybill/field.moduli", laid_waybill_field_moduli)] }
def FieldLawsSaid : Prop := fieldLawsRow.holds Tryd.pinned (OpenSpec.ofChange fieldLawsSpec)

/-- ITS FALSE NEIGHBOUR: 'it returns false'. Refute it at one input. -/
def fieldLawsWrong : ChangeSpec := { name := "fieldLaws", fn := fun _ => fun
  | [d1, d2] => { results := [.lit (.bool false)], args := [d1, d2] }
  | _ => none }
def FieldLawsWrongFalsely : Prop := fieldLawsRow.holds Tryd.pinned (OpenSpec.ofChange fieldLawsWrong)

/-- 'waybilllaw04.FieldInverts': WHATEVER THE INPUT: true; the input reads as it did. -/
def fieldInvertsSpec : ChangeSpec := { name := "fieldInverts", fn := fun _ => fun
  | [d1, d2, d3] => { results := [.lit (.bool true)], args := [d1, d2, d3] }
  | _ => none }
def fieldInvertsRow : OpenClaim := { program := "ytfpiopjlcjckeaadoor", sum := "91e7e1596bcb90c04fd3c5cad5b120c4d420a4673e0cf6c3c6a62b657fe2596c", func := "waybill/waybilllaw04.FieldInverts", spec := "fieldInverts", inPlace := ["math/bits.Add64", "math/bits.Sub64"], named := ["waybill/field.moduli"], apart := false, laid := [("waybill/field.moduli", laid_waybill_field_moduli)] }
def FieldInvertsSaid : Prop := fieldInvertsRow.holds Tryd.pinned (OpenSpec.ofChange fieldInvertsSpec)

/-- ITS FALSE NEIGHBOUR: 'it returns false'. Refute it at one input. -/
def fieldInvertsWrong : ChangeSpec := { name := "fieldInverts", fn := fun _ => fun
  | [d1, d2, d3] => { results := [.lit (.bool false)], args := [d1, d2, d3] }
  | _ => none }
def FieldInvertsWrongFalsely : Prop := fieldInvertsRow.holds Tryd.pinned (OpenSpec.ofChange fieldInvertsWrong)

/-- 'waybilllaw04.FieldSquares': WHATEVER THE INPUT: true; the input reads as it did. -/
def fieldSquaresSpec : ChangeSpec := { name := "fieldSquares", fn := fun _ => fun
  | [d1, d2] => { results := [.lit (.bool true)], args := [d1, d2] }
  | _ => none }
def fieldSquaresRow : OpenClaim := { program := "ytfpiopjlcjckeaadoor", sum := "91e7e1596bcb90c04fd3c5cad5b120c4d420a4673e0cf6c3c6a62b657fe2596c", func := "waybill/waybilllaw04.FieldSquares", spec := "fieldSquares", inPlace := ["math/bits.Add64", "math/bits.Sub64"], named := ["waybill/field.moduli"], apart := false, laid := [("waybill/field.moduli", laid_waybill_field_moduli)] }
def FieldSquaresSaid : Prop := fieldSquaresRow.holds Tryd.pinned (OpenSpec.ofChange fieldSquaresSpec)

/-- ITS FALSE NEIGHBOUR: 'it returns false'. Refute it at one input. -/
def fieldSquaresWrong : ChangeSpec := { name := "fieldSquares", fn := fun _ => fun
  | [d1, d2] => { results := [.lit (.bool false)], args := [d1, d2] }
  | _ => none }
def FieldSquaresWrongFalsely : Prop := fieldSquaresRow.holds Tryd.pinned (OpenSpec.ofChange fieldSquaresWrong)

/-- 'waybilllaw04.FieldProducts': WHATEVER THE INPUT: true; the input reads as it did. -/
def fieldProductsSpec : ChangeSpec := { name := "fieldProducts", fn := fun _ => fun
  | [d1, d2, d3] => { results := [.lit (.bool true)], args := [d1, d2, d3] }
  | _ => none }
def fieldProductsRow : OpenClaim := { program := "ytfpiopjlcjckeaadoor", sum := "91e7e1596bcb90c04fd3c5cad5b120c4d420a4673e0cf6c3c6a62b657fe2596c", func := "waybill/waybilllaw04.FieldProducts", spec := "fieldProducts", inPlace := ["math/bits.Add64", "math/bits.Sub64"], named := ["waybill/field.moduli"], apart := false, laid := [("waybill/field.moduli", laid_waybill_field_moduli)] }
def FieldProductsSaid : Prop := fieldProductsRow.holds Tryd.pinned (OpenSpec.ofChange fieldProductsSpec)

/-- ITS FALSE NEIGHBOUR: 'it returns false'. Refute it at one input. -/
def fieldProductsWrong : ChangeSpec := { name := "fieldProducts", fn := fun _ => fun
  | [d1, d2, d3] => { results := [.lit (.bool false)], args := [d1, d2, d3] }
  | _ => none }
def FieldProductsWrongFalsely : Prop := fieldProductsRow.holds Tryd.pinned (OpenSpec.ofChange fieldProductsWrong)

/- THE SECOND FORM. 'bulk': how many values and letters a reading holds, each counted each time it is reached (what is shared counts as often as it is met; a slice's spare places count too). A statement '..UptoSaid' is the law's where the arguments, and the package variables that the reading takes, are together of bulk at most 1048576: NARROWER than '..Said'. Prove '..Said' where nothing that the law and all that it calls make is longer than what came in: it says more and counts as full. Else prove '..UptoSaid'. A law counts once. -/
mutual
def uptoBulk {H : Type} : DataW H → Nat
  | .lit (.string bytes) => bytes.length + 1
  | .lit _ => 1
  | .nil => 1
  | .ptr d => uptoBulk d + 1
  | .slice elems spare => uptoBulkAll elems + uptoBulkAll spare + 1
  | .agg parts => uptoBulkAll parts + 1
  | .iface _ d => uptoBulk d + 1
  | .map entries => uptoBulkEntries entries + 1
  | .held _ => 1
def uptoBulkAll {H : Type} : List (DataW H) → Nat
  | [] => 0
  | d :: r => uptoBulk d + uptoBulkAll r
def uptoBulkEntries {H : Type} : List (Lit × DataW H) → Nat
  | [] => 0
  | x :: r => uptoBulkEntry x + uptoBulkEntries r
def uptoBulkEntry {H : Type} : Lit × DataW H → Nat
  | (.string bytes, d) => bytes.length + uptoBulk d + 1
  | (_, d) => uptoBulk d + 1
 end
def uptoSmall : (H : Type) → List (DataW H) → Bool := fun _ ds => decide (uptoBulkAll ds ≤ 1048576)
def OpenSpec.upto (s : _root_.Go.ChangeSpec) : _root_.Go.OpenSpec := { _root_.Go.OpenSpec.ofChange s with cond := some uptoSmall }

/-- 'waybilllaw04.FieldBatch', WHERE WHAT IT READS IS OF BULK AT MOST 1048576: true; the input reads as it did. -/
def fieldBatchUptoRow : OpenClaim := { program := "ytfpiopjlcjckeaadoor", sum := "91e7e1596bcb90c04fd3c5cad5b120c4d420a4673e0cf6c3c6a62b657fe2596c", func := "waybill/waybilllaw04.FieldBatch", spec := "fieldBatch", inPlace := ["math/bits.Add64", "math/bits.Sub64"], named := ["waybill/field.moduli"], apart := false, laid := [("waybill/field.moduli", laid_waybill_field_moduli)], narrowed := true }
def FieldBatchUptoSaid : Prop := fieldBatchUptoRow.holds Tryd.pinned (OpenSpec.upto fieldBatchSpec)

/-- 'waybilllaw04.FieldWhole', WHERE WHAT IT READS IS OF BULK AT MOST 1048576: true; the input reads as it did. -/
def fieldWholeUptoRow : OpenClaim := { program := "ytfpiopjlcjckeaadoor", sum := "91e7e1596bcb90c04fd3c5cad5b120c4d420a4673e0cf6c3c6a62b657fe2596c", func := "waybill/waybilllaw04.FieldWhole", spec := "fieldWhole", inPlace := ["math/bits.Sub64", "math/bits.Add64"], named := ["waybill/field.moduli", "math/bits.divideError", "math/bits.overflowError"], apart := false, laid := [("waybill/field.moduli", laid_waybill_field_moduli)], narrowed := true }
def FieldWholeUptoSaid : Prop := fieldWholeUptoRow.holds Tryd.pinned (OpenSpec.upto fieldWholeSpec)

/-- 'waybilllaw04.FieldLaws', WHERE WHAT IT READS IS OF BULK AT MOST 1048576: true; the input reads as it did. -/
def fieldLawsUptoRow : OpenClaim := { program := "ytfpiopjlcjckeaadoor", sum := "91e7e1596bcb90c04fd3c5cad5b120c4d420a4673e0cf6c3c6a62b657fe2596c", func := "waybill/waybilllaw04.FieldLaws", spec := "fieldLaws", inPlace := ["math/bits.Add64", "math/bits.Sub64"], named := ["waybill/field.moduli"], apart := false, laid := [("waybill/field.moduli", laid_waybill_field_moduli)], narrowed := true }
def FieldLawsUptoSaid : Prop := fieldLawsUptoRow.holds Tryd.pinned (OpenSpec.upto fieldLawsSpec)

/-- 'waybilllaw04.FieldInverts', WHERE WHAT IT READS IS OF BULK AT MOST 1048576: true; the input reads as it did. -/
def fieldInvertsUptoRow : OpenClaim := { program := "ytfpiopjlcjckeaadoor", sum := "91e7e1596bcb90c04fd3c5cad5b120c4d420a4673e0cf6c3c6a62b657fe2596c", func := "waybill/waybilllaw04.FieldInverts", spec := "fieldInverts", inPlace := ["math/bits.Add64", "math/bits.Sub64"], named := ["waybill/field.moduli"], apart := false, laid := [("waybill/field.moduli", laid_waybill_field_moduli)], narrowed := true }
def FieldInvertsUptoSaid : Prop := fieldInvertsUptoRow.holds Tryd.pinned (OpenSpec.upto fieldInvertsSpec)

/-- 'waybilllaw04.FieldSquares', WHERE WHAT IT READS IS OF BULK AT MOST 1048576: true; the input reads as it did. -/
def fieldSquaresUptoRow : OpenClaim := { program := "ytfpiopjlcjckeaadoor", sum := "91e7e1596bcb90c04fd3c5cad5b120c4d420a4673e0cf6c3c6a62b657fe2596c", func := "waybill/waybilllaw04.FieldSquares", spec := "fieldSquares", inPlace := ["math/bits.Add64", "math/bits.Sub64"], named := ["waybill/field.moduli"], apart := false, laid := [("waybill/field.moduli", laid_waybill_field_moduli)], narrowed := true }
def FieldSquaresUptoSaid : Prop := fieldSquaresUptoRow.holds Tryd.pinned (OpenSpec.upto fieldSquaresSpec)

/-- 'waybilllaw04.FieldProducts', WHERE WHAT IT READS IS OF BULK AT MOST 1048576: true; the input reads as it did. -/
def fieldProductsUptoRow : OpenClaim := { program := "ytfpiopjlcjckeaadoor", sum := "91e7e1596bcb90c04fd3c5cad5b120c4d420a4673e0cf6c3c6a62b657fe2596c", func := "waybill/waybilllaw04.FieldProducts", spec := "fieldProducts", inPlace := ["math/bits.Add64", "math/bits.Sub64"], named := ["waybill/field.moduli"], apart := false, laid := [("waybill/field.moduli", laid_waybill_field_moduli)], narrowed := true }
def FieldProductsUptoSaid : Prop := fieldProductsUptoRow.holds Tryd.pinned (OpenSpec.upto fieldProductsSpec)

end Rows
end Go.Proofs.YtfpiopjlcjckeaaDoor

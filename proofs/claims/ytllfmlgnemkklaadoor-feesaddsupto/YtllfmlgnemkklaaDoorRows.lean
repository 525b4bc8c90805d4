/-
  NARROWER THAN 'FOR EVERY INPUT', by the rows' own cells (each row's printed sentence says how): FeesAdds: laid · FeesGas: laid.
  DERIVED. THE GIVEN ROWS OF THIS SEAT. 2 by the template 'for every input the law returns true; each argument reads behind the call as it read before'; 0 by the template 'total and deterministic' (their statements: YtllfmlgnemkklaaDoorTotals.lean).
  GIVEN WITH THE SEED: the statements are not yours to turn. If you find one false, say at which input.
  Laid BY PROGRAM, IN A SANDBOX (cutbox-rows.mjs): the forced cells as the released guide's own fill.sh prints them over the translation 853059110d846bfc… (all of the seat's roots in one cut). By AI agents, Wed Nov 11 2026. No macro, syntax, notation, axiom, sorry.
-/
import Derived.Test.YtllfmlgnemkklaaDoorChecked
import GoSem.Claim
import GoSem.ClaimJoined
import GoSem.ClaimMapViews
import Derived.JoinedTies
import Derived.KernelRfl
namespace Go.Proofs.YtllfmlgnemkklaaDoor
/- THE CELL 'sum', in the pinned program and in every row, IS THE sha256 OF THE DUMP (.gsa) THAT YtllfmlgnemkklaaDoorProg.lean LOADS. Nothing in Lean hashes anything: it is a label: what it is worth is what the hold of that sum in a sandbox is worth. -/
noncomputable def Tryd.pinned : Pinned := { name := "ytllfmlgnemkklaadoor", sum := "853059110d846bfc6959614bde5959afbfea6de6d2f4695fd96b4b24dfe02eac", checked := Tryd.checked }
namespace Rows
def none {H : Type} : Left H := { results := [], args := [] }

/- WHAT THE LISTED PACKAGE-LEVEL VARIABLES READ AS WHEN THE CALL BEGINS. Each datum BY PROGRAM (the guide's laid-datum.mjs) off the statement by which the dump's own 'gosem.cut.vars' lays the variable. In a bare row this is a premise. The card (YtllfmlgnemkklaaDoorCards.lean) ties it to the program's text. -/
def laid_waybill_tx_rows {H : Type} : DataW H := .agg [.slice [.lit (.int .i64 1), .lit (.int .i64 2), .lit (.int .i64 5), .lit (.int .i64 6), .lit (.int .i64 7), .lit (.int .i64 8), .lit (.int .i64 13), .lit (.int .i64 14), .lit (.int .i64 15)] [], .slice [.lit (.int .i64 0), .lit (.int .i64 1), .lit (.int .i64 2), .lit (.int .i64 5), .lit (.int .i64 6), .lit (.int .i64 7), .lit (.int .i64 8), .lit (.int .i64 9), .lit (.int .i64 13), .lit (.int .i64 14), .lit (.int .i64 15)] [], .slice [.lit (.int .i64 0), .lit (.int .i64 1), .lit (.int .i64 3), .lit (.int .i64 4), .lit (.int .i64 5), .lit (.int .i64 6), .lit (.int .i64 7), .lit (.int .i64 8), .lit (.int .i64 9), .lit (.int .i64 13), .lit (.int .i64 14), .lit (.int .i64 15)] [], .slice [.lit (.int .i64 0), .lit (.int .i64 1), .lit (.int .i64 3), .lit (.int .i64 4), .lit (.int .i64 5), .lit (.int .i64 6), .lit (.int .i64 7), .lit (.int .i64 8), .lit (.int .i64 9), .lit (.int .i64 10), .lit (.int .i64 11), .lit (.int .i64 13), .lit (.int .i64 14), .lit (.int .i64 15)] [], .slice [.lit (.int .i64 0), .lit (.int .i64 1), .lit (.int .i64 3), .lit (.int .i64 4), .lit (.int .i64 5), .lit (.int .i64 6), .lit (.int .i64 7), .lit (.int .i64 8), .lit (.int .i64 9), .lit (.int .i64 12), .lit (.int .i64 13), .lit (.int .i64 14), .lit (.int .i64 15)] []]
def laid_waybill_waybillplay_markHash {H : Type} : DataW H := .agg [.lit (.int .u8 165), .lit (.int .u8 90), .lit (.int .u8 0), .lit (.int .u8 0), .lit (.int .u8 0), .lit (.int .u8 0), .lit (.int .u8 0), .lit (.int .u8 0), .lit (.int .u8 0), .lit (.int .u8 0), .lit (.int .u8 0), .lit (.int .u8 0), .lit (.int .u8 0), .lit (.int .u8 0), .lit (.int .u8 0), .lit (.int .u8 0), .lit (.int .u8 0), .lit (.int .u8 0), .lit (.int .u8 0), .lit (.int .u8 0), .lit (.int .u8 0), .lit (.int .u8 0), .lit (.int .u8 0), .lit (.int .u8 0), .lit (.int .u8 0), .lit (.int .u8 0), .lit (.int .u8 0), .lit (.int .u8 0), .lit (.int .u8 0), .lit (.int .u8 0), .lit (.int .u8 0), .lit (.int .u8 0)]
def laid_waybill_waybillplay_markAddress {H : Type} : DataW H := .agg [.lit (.int .u8 165), .lit (.int .u8 90), .lit (.int .u8 0), .lit (.int .u8 0), .lit (.int .u8 0), .lit (.int .u8 0), .lit (.int .u8 0), .lit (.int .u8 0), .lit (.int .u8 0), .lit (.int .u8 0), .lit (.int .u8 0), .lit (.int .u8 0), .lit (.int .u8 0), .lit (.int .u8 0), .lit (.int .u8 0), .lit (.int .u8 0), .lit (.int .u8 0), .lit (.int .u8 0), .lit (.int .u8 0), .lit (.int .u8 0)]

/-- 'waybilllaw18.FeesAdds': WHATEVER THE INPUT: true; the input reads as it did. -/
def feesAddsSpec : ChangeSpec := { name := "feesAdds", fn := fun _ => fun
  | [d1, d2, d3] => { results := [.lit (.bool true)], args := [d1, d2, d3] }
  | _ => none }
def feesAddsRow : OpenClaim := { program := "ytllfmlgnemkklaadoor", sum := "853059110d846bfc6959614bde5959afbfea6de6d2f4695fd96b4b24dfe02eac", func := "waybill/waybilllaw18.FeesAdds", spec := "feesAdds", inPlace := ["math/bits.Sub64", "math/bits.Add64", "internal/bytealg.Count", "internal/bytealg.IndexByte", "internal/bytealg.Index"], unfollowed := true, recurses := true, named := ["waybill/tx.rows", "internal/bytealg.MaxLen", "waybill/waybillplay.markAddress", "waybill/waybillplay.markHash"], apart := false, laid := [("waybill/tx.rows", laid_waybill_tx_rows), ("waybill/waybillplay.markHash", laid_waybill_waybillplay_markHash), ("waybill/waybillplay.markAddress", laid_waybill_waybillplay_markAddress)] }
def FeesAddsSaid : Prop := feesAddsRow.holds Tryd.pinned (OpenSpec.ofChange feesAddsSpec)

/-- ITS FALSE NEIGHBOUR: 'it returns false'. Refute it at one input. -/
def feesAddsWrong : ChangeSpec := { name := "feesAdds", fn := fun _ => fun
  | [d1, d2, d3] => { results := [.lit (.bool false)], args := [d1, d2, d3] }
  | _ => none }
def FeesAddsWrongFalsely : Prop := feesAddsRow.holds Tryd.pinned (OpenSpec.ofChange feesAddsWrong)

/-- 'waybilllaw18.FeesGas': WHATEVER THE INPUT: true; the input reads as it did. -/
def feesGasSpec : ChangeSpec := { name := "feesGas", fn := fun _ => fun
  | [d] => { results := [.lit (.bool true)], args := [d] }
  | _ => none }
def feesGasRow : OpenClaim := { program := "ytllfmlgnemkklaadoor", sum := "853059110d846bfc6959614bde5959afbfea6de6d2f4695fd96b4b24dfe02eac", func := "waybill/waybilllaw18.FeesGas", spec := "feesGas", inPlace := ["internal/bytealg.Count", "internal/bytealg.IndexByte", "internal/bytealg.Index"], unfollowed := true, recurses := true, named := ["waybill/waybillplay.markAddress", "waybill/waybillplay.markHash", "waybill/tx.rows", "internal/bytealg.MaxLen"], apart := false, laid := [("waybill/tx.rows", laid_waybill_tx_rows), ("waybill/waybillplay.markHash", laid_waybill_waybillplay_markHash), ("waybill/waybillplay.markAddress", laid_waybill_waybillplay_markAddress)] }
def FeesGasSaid : Prop := feesGasRow.holds Tryd.pinned (OpenSpec.ofChange feesGasSpec)

/-- ITS FALSE NEIGHBOUR: 'it returns false'. Refute it at one input. -/
def feesGasWrong : ChangeSpec := { name := "feesGas", fn := fun _ => fun
  | [d] => { results := [.lit (.bool false)], args := [d] }
  | _ => none }
def FeesGasWrongFalsely : Prop := feesGasRow.holds Tryd.pinned (OpenSpec.ofChange feesGasWrong)

/- THE SECOND FORM. 'bulk': how many values and letters a reading holds, each counted each time it is reached (what is shared counts as often as it is met; a slice's spare places count too). A statement '..UptoSaid' is the law's where the arguments, and the package variables that the reading takes, are together of bulk at most 1048576: NARROWER than '..Said'. Prove '..Said' where nothing that the law and all that it calls make is longer than what came in: it says more and counts as full. Else prove '..UptoSaid'. A law counts once. -/
mutual
def uptoBulk {H : Type} : DataW H → Nat
  | .lit (.string bytes) => bytes.length + 1
  | .lit _ => 1
  | .nil => 1
  | .ptr d => uptoBulk d + 1
  | .slice elems spare => uptoBulkAll elems + uptoBulkAll spare + 1
  | .agg parts => uptoBulkAll parts + 1
  | .iface _ d => uptoBulk d + 1
  | .map entries => uptoBulkEntries entries + 1
  | .held _ => 1
def uptoBulkAll {H : Type} : List (DataW H) → Nat
  | [] => 0
  | d :: r => uptoBulk d + uptoBulkAll r
def uptoBulkEntries {H : Type} : List (Lit × DataW H) → Nat
  | [] => 0
  | x :: r => uptoBulkEntry x + uptoBulkEntries r
def uptoBulkEntry {H : Type} : Lit × DataW H → Nat
  | (.string bytes, d) => bytes.length + uptoBulk d + 1
  | (_, d) => uptoBulk d + 1
 end
def uptoSmall : (H : Type) → List (DataW H) → Bool := fun _ ds => decide (uptoBulkAll ds ≤ 1048576)
def OpenSpec.upto (s : _root_.Go.ChangeSpec) : _root_.Go.OpenSpec := { _root_.Go.OpenSpec.ofChange s with cond := some uptoSmall }

/-- 'waybilllaw18.FeesAdds', WHERE WHAT IT READS IS OF BULK AT MOST 1048576: true; the input reads as it did. -/
def feesAddsUptoRow : OpenClaim := { program := "ytllfmlgnemkklaadoor", sum := "853059110d846bfc6959614bde5959afbfea6de6d2f4695fd96b4b24dfe02eac", func := "waybill/waybilllaw18.FeesAdds", spec := "feesAdds", inPlace := ["math/bits.Sub64", "math/bits.Add64", "internal/bytealg.Count", "internal/bytealg.IndexByte", "internal/bytealg.Index"], unfollowed := true, recurses := true, named := ["waybill/tx.rows", "internal/bytealg.MaxLen", "waybill/waybillplay.markAddress", "waybill/waybillplay.markHash"], apart := false, laid := [("waybill/tx.rows", laid_waybill_tx_rows), ("waybill/waybillplay.markHash", laid_waybill_waybillplay_markHash), ("waybill/waybillplay.markAddress", laid_waybill_waybillplay_markAddress)], narrowed := true }
def FeesAddsUptoSaid : Prop := feesAddsUptoRow.holds Tryd.pinned (OpenSpec.upto feesAddsSpec)

/-- 'waybilllaw18.FeesGas', WHERE WHAT IT READS IS OF BULK AT MOST 1048576: true; the input reads as it did. -/
def feesGasUptoRow : OpenClaim := { program := "ytllfmlgnemkklaadoor", sum := "853059110d846bfc6959614bde5959afbfea6de6d2f4695fd96b4b24dfe02eac", func := "waybill/waybilllaw18.FeesGas", spec := "feesGas", inPlace := ["internal/bytealg.Count", "internal/bytealg.IndexByte", "internal/bytealg.Index"], unfollowed := true, recurses := true, named := ["waybill/waybillplay.markAddress", "waybill/waybillplay.markHash", "waybill/tx.rows", "internal/bytealg.MaxLen"], apart := false, laid := [("waybill/tx.rows", laid_waybill_tx_rows), ("waybill/waybillplay.markHash", laid_waybill_waybillplay_markHash), ("waybill/waybillplay.markAddress", laid_waybill_waybillplay_markAddress)], narrowed := true }
def FeesGasUptoSaid : Prop := feesGasUptoRow.holds Tryd.pinned (OpenSpec.upto feesGasSpec)

end Rows
end Go.Proofs.YtllfmlgnemkklaaDoor

/-
  NARROWER THAN 'FOR EVERY INPUT', by the rows' own cells (each row's printed sentence says how): RlpMakes: loops · RlpReads: loops · RlpTrees: loops.
  DERIVED. THE GIVEN ROWS OF THIS SEAT. 3 by the template 'for every input the law returns true; each argument reads behind the call as it read before'; 0 by the template 'total and deterministic' (their statements: YtdjjphcfobbipaaTotals.lean).
  GIVEN WITH THE SEED: the statements are not yours to turn. If you find one false, say at which input.
  Laid BY PROGRAM, IN A SANDBOX (cutbox-rows.mjs): the forced cells as the released guide's own fill.sh prints them over the translation f396a5380b2b4204… (all of the seat's roots in one cut). By AI agents, Wed Nov 11 2026. No macro, syntax, notation, axiom, sorry.
-/
import Derived.Test.YtdjjphcfobbipaaChecked
import GoSem.Claim
import GoSem.ClaimJoined
import GoSem.ClaimMapViews
import Derived.JoinedTies
import Derived.KernelRfl
namespace Go.Proofs.Ytdjjphcfobbipaa
/- THE CELL 'sum', in the pinned program and in every row, IS THE sha256 OF THE DUMP (.gsa) THAT YtdjjphcfobbipaaProg.lean LOADS. Nothing in Lean hashes anything: it is a label: what it is worth is what the hold of that sum in a sandbox is worth. -/
noncomputable def Try.pinned : Pinned := { name := "ytdjjphcfobbipaa", sum := "f396a5380b2b4204ed4a7dbd36a57c2c0d585791a22f9f32b2df8b38c64bf9b2", checked := Try.checked }
namespace Rows
def none {H : Type} : Left H := { results := [], args := [] }

/-- 'waybilllaw07.RlpMakes': WHATEVER THE INPUT: true; the input reads as it did. -/
def rlpMakesSpec : ChangeSpec := { name := "rlpMakes", fn := fun _ => fun
  | [d1, d2, d3] => { results := [.lit (.bool true)], args := [d1, d2, d3] }
  | _ => none }
def rlpMakesRow : OpenClaim := { program := "ytdjjphcfobbipaa", sum := "f396a5380b2b4204ed4a7dbd36a57c2c0d585791a22f9f32b2df8b38c64bf9b2", func := "waybill/waybilllaw07.RlpMakes", spec := "rlpMakes", recurses := true, loops := true, apart := false }
def RlpMakesSaid : Prop := rlpMakesRow.holds Try.pinned (OpenSpec.ofChange rlpMakesSpec)

/-- ITS FALSE NEIGHBOUR: 'it returns false'. Refute it at one input. -/
def rlpMakesWrong : ChangeSpec := { name := "rlpMakes", fn := fun _ => fun
  | [d1, d2, d3] => { results := [.lit (.bool false)], args := [d1, d2, d3] }
  | _ => none }
def RlpMakesWrongFalsely : Prop := rlpMakesRow.holds Try.pinned (OpenSpec.ofChange rlpMakesWrong)

/-- 'waybilllaw07.RlpReads': WHATEVER THE INPUT: true; the input reads as it did. -/
def rlpReadsSpec : ChangeSpec := { name := "rlpReads", fn := fun _ => fun
  | [d1, d2] => { results := [.lit (.bool true)], args := [d1, d2] }
  | _ => none }
def rlpReadsRow : OpenClaim := { program := "ytdjjphcfobbipaa", sum := "f396a5380b2b4204ed4a7dbd36a57c2c0d585791a22f9f32b2df8b38c64bf9b2", func := "waybill/waybilllaw07.RlpReads", spec := "rlpReads", recurses := true, loops := true, apart := false }
def RlpReadsSaid : Prop := rlpReadsRow.holds Try.pinned (OpenSpec.ofChange rlpReadsSpec)

/-- ITS FALSE NEIGHBOUR: 'it returns false'. Refute it at one input. -/
def rlpReadsWrong : ChangeSpec := { name := "rlpReads", fn := fun _ => fun
  | [d1, d2] => { results := [.lit (.bool false)], args := [d1, d2] }
  | _ => none }
def RlpReadsWrongFalsely : Prop := rlpReadsRow.holds Try.pinned (OpenSpec.ofChange rlpReadsWrong)

/-- 'waybilllaw07.RlpTrees': WHATEVER THE INPUT: true; the input reads as it did. -/
def rlpTreesSpec : ChangeSpec := { name := "rlpTrees", fn := fun _ => fun
  | [d] => { results := [.lit (.bool true)], args := [d] }
  | _ => none }
def rlpTreesRow : OpenClaim := { program := "ytdjjphcfobbipaa", sum := "f396a5380b2b4204ed4a7dbd36a57c2c0d585791a22f9f32b2df8b38c64bf9b2", func := "waybill/waybilllaw07.RlpTrees", spec := "rlpTrees", unfollowed := true, recurses := true, loops := true, apart := false }
def RlpTreesSaid : Prop := rlpTreesRow.holds Try.pinned (OpenSpec.ofChange rlpTreesSpec)

/-- ITS FALSE NEIGHBOUR: 'it returns false'. Refute it at one input. -/
def rlpTreesWrong : ChangeSpec := { name := "rlpTrees", fn := fun _ => fun
  | [d] => { results := [.lit (.bool false)], args := [d] }
  | _ => none }
def RlpTreesWrongFalsely : Prop := rlpTreesRow.holds Try.pinned (OpenSpec.ofChange rlpTreesWrong)

/- THE SECOND FORM. 'bulk': how many values and letters a reading holds, each counted each time it is reached (what is shared counts as often as it is met; a slice's spare places count too). A statement '..UptoSaid' is the law's where the arguments, and the package variables that the reading takes, are together of bulk at most 1048576: NARROWER than '..Said'. Prove '..Said' where nothing that the law and all that it calls make is longer than what came in: it says more and counts as full. Else prove '..UptoSaid'. A law counts once. -/
mutual
def uptoBulk {H : Type} : DataW H → Nat
  | .lit (.string bytes) => bytes.length + 1
  | .lit _ => 1
  | .nil => 1
  | .ptr d => uptoBulk d + 1
  | .slice elems spare => uptoBulkAll elems + uptoBulkAll spare + 1
  | .agg parts => uptoBulkAll parts + 1
  | .iface _ d => uptoBulk d + 1
  | .map entries => uptoBulkEntries entries + 1
  | .held _ => 1
def uptoBulkAll {H : Type} : List (DataW H) → Nat
  | [] => 0
  | d :: r => uptoBulk d + uptoBulkAll r
def uptoBulkEntries {H : Type} : List (Lit × DataW H) → Nat
  | [] => 0
  | x :: r => uptoBulkEntry x + uptoBulkEntries r
def uptoBulkEntry {H : Type} : Lit × DataW H → Nat
  | (.string bytes, d) => bytes.length + uptoBulk d + 1
  | (_, d) => uptoBulk d + 1
 end
def uptoSmall : (H : Type) → List (DataW H) → Bool := fun _ ds => decide (uptoBulkAll ds ≤ 1048576)
def OpenSpec.upto (s : _root_.Go.ChangeSpec) : _root_.Go.OpenSpec := { _root_.Go.OpenSpec.ofChange s with cond := some uptoSmall }

/-- 'waybilllaw07.RlpMakes', WHERE WHAT IT READS IS OF BULK AT MOST 1048576: true; the input reads as it did. -/
def rlpMakesUptoRow : OpenClaim := { program := "ytdjjphcfobbipaa", sum := "f396a5380b2b4204ed4a7dbd36a57c2c0d585791a22f9f32b2df8b38c64bf9b2", func := "waybill/waybilllaw07.RlpMakes", spec := "rlpMakes", recurses := true, loops := true, apart := false, narrowed := true }
def RlpMakesUptoSaid : Prop := rlpMakesUptoRow.holds Try.pinned (OpenSpec.upto rlpMakesSpec)

/-- 'waybilllaw07.RlpReads', WHERE WHAT IT READS IS OF BULK AT MOST 1048576: true; the input reads as it did. -/
def rlpReadsUptoRow : OpenClaim := { program := "ytdjjphcfobbipaa", sum := "f396a5380b2b4204ed4a7dbd36a57c2c0d585791a22f9f32b2df8b38c64bf9b2", func := "waybill/waybilllaw07.RlpReads", spec := "rlpReads", recurses := true, loops := true, apart := false, narrowed := true }
def RlpReadsUptoSaid : Prop := rlpReadsUptoRow.holds Try.pinned (OpenSpec.upto rlpReadsSpec)

/-- 'waybilllaw07.RlpTrees', WHERE WHAT IT READS IS OF BULK AT MOST 1048576: true; the input reads as it did. -/
def rlpTreesUptoRow : OpenClaim := { program := "ytdjjphcfobbipaa", sum := "f396a5380b2b4204ed4a7dbd36a57c2c0d585791a22f9f32b2df8b38c64bf9b2", func := "waybill/waybilllaw07.RlpTrees", spec := "rlpTrees", unfollowed := true, recurses := true, loops := true, apart := false, narrowed := true }
def RlpTreesUptoSaid : Prop := rlpTreesUptoRow.holds Try.pinned (OpenSpec.upto rlpTreesSpec)

end Rows
end Go.Proofs.Ytdjjphcfobbipaa

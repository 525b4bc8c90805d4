/-
  NARROWER THAN 'FOR EVERY INPUT', by the rows' own cells (each row's printed sentence says how): RlpBack: loops · RlpParts: loops · RlpApart: loops.
  DERIVED. THE GIVEN ROWS OF THIS SEAT. 6 by the template 'for every input the law returns true; each argument reads behind the call as it read before'; 0 by the template 'total and deterministic' (their statements: YtahekhamhdfkdaaTotals.lean).
  GIVEN WITH THE SEED: the statements are not yours to turn. If you find one false, say at which input.
  Laid BY PROGRAM, IN A SANDBOX (cutbox-rows.mjs): the forced cells as the released guide's own fill.sh prints them over the translation 3d0d3f100d70522b… (all of the seat's roots in one cut). By AI agents, Wed Nov 11 2026. No macro, syntax, notation, axiom, sorry.
-/
import Derived.Test.YtahekhamhdfkdaaChecked
import GoSem.Claim
import GoSem.ClaimJoined
import GoSem.ClaimMapViews
import Derived.JoinedTies
import Derived.KernelRfl
namespace Go.Proofs.Ytahekhamhdfkdaa
/- THE CELL 'sum', in the pinned program and in every row, IS THE sha256 OF THE DUMP (.gsa) THAT YtahekhamhdfkdaaProg.lean LOADS. Nothing in Lean hashes anything: it is a label: what it is worth is what the hold of that sum in a sandbox is worth. -/
noncomputable def Try.pinned : Pinned := { name := "ytahekhamhdfkdaa", sum := "3d0d3f100d70522beaf8aea5398bcc40ac783b7de10b0d895b88f082678f7351", checked := Try.checked }
namespace Rows
def none {H : Type} : Left H := { results := [], args := [] }

/-- 'waybilllaw07.RlpDecodes': WHATEVER THE INPUT: true; the input reads as it did. -/
def rlpDecodesSpec : ChangeSpec := { name := "rlpDecodes", fn := fun _ => fun
  | [d] => { results := [.lit (.bool true)], args := [d] }
  | _ => none }
def rlpDecodesRow : OpenClaim := { program := "ytahekhamhdfkdaa", sum := "3d0d3f100d70522beaf8aea5398bcc40ac783b7de10b0d895b88f082678f7351", func := "waybill/waybilllaw07.RlpDecodes", spec := "rlpDecodes", recurses := true, apart := false }
def RlpDecodesSaid : Prop := rlpDecodesRow.holds Try.pinned (OpenSpec.ofChange rlpDecodesSpec)

/-- ITS FALSE NEIGHBOUR: 'it returns false'. Refute it at one input. -/
def rlpDecodesWrong : ChangeSpec := { name := "rlpDecodes", fn := fun _ => fun
  | [d] => { results := [.lit (.bool false)], args := [d] }
  | _ => none }
def RlpDecodesWrongFalsely : Prop := rlpDecodesRow.holds Try.pinned (OpenSpec.ofChange rlpDecodesWrong)

/-- 'waybilllaw07.RlpBack': WHATEVER THE INPUT: true; the input reads as it did. -/
def rlpBackSpec : ChangeSpec := { name := "rlpBack", fn := fun _ => fun
  | [d1, d2, d3] => { results := [.lit (.bool true)], args := [d1, d2, d3] }
  | _ => none }
def rlpBackRow : OpenClaim := { program := "ytahekhamhdfkdaa", sum := "3d0d3f100d70522beaf8aea5398bcc40ac783b7de10b0d895b88f082678f7351", func := "waybill/waybilllaw07.RlpBack", spec := "rlpBack", unfollowed := true, recurses := true, loops := true, apart := false }
def RlpBackSaid : Prop := rlpBackRow.holds Try.pinned (OpenSpec.ofChange rlpBackSpec)

/-- ITS FALSE NEIGHBOUR: 'it returns false'. Refute it at one input. -/
def rlpBackWrong : ChangeSpec := { name := "rlpBack", fn := fun _ => fun
  | [d1, d2, d3] => { results := [.lit (.bool false)], args := [d1, d2, d3] }
  | _ => none }
def RlpBackWrongFalsely : Prop := rlpBackRow.holds Try.pinned (OpenSpec.ofChange rlpBackWrong)

/-- 'waybilllaw07.RlpStrict': WHATEVER THE INPUT: true; the input reads as it did. -/
def rlpStrictSpec : ChangeSpec := { name := "rlpStrict", fn := fun _ => fun
  | [d1, d2, d3] => { results := [.lit (.bool true)], args := [d1, d2, d3] }
  | _ => none }
def rlpStrictRow : OpenClaim := { program := "ytahekhamhdfkdaa", sum := "3d0d3f100d70522beaf8aea5398bcc40ac783b7de10b0d895b88f082678f7351", func := "waybill/waybilllaw07.RlpStrict", spec := "rlpStrict", unfollowed := true, recurses := true, apart := false }
def RlpStrictSaid : Prop := rlpStrictRow.holds Try.pinned (OpenSpec.ofChange rlpStrictSpec)

/-- ITS FALSE NEIGHBOUR: 'it returns false'. Refute it at one input. -/
def rlpStrictWrong : ChangeSpec := { name := "rlpStrict", fn := fun _ => fun
  | [d1, d2, d3] => { results := [.lit (.bool false)], args := [d1, d2, d3] }
  | _ => none }
def RlpStrictWrongFalsely : Prop := rlpStrictRow.holds Try.pinned (OpenSpec.ofChange rlpStrictWrong)

/-- 'waybilllaw07.RlpParts': WHATEVER THE INPUT: true; the input reads as it did. -/
def rlpPartsSpec : ChangeSpec := { name := "rlpParts", fn := fun _ => fun
  | [d1, d2] => { results := [.lit (.bool true)], args := [d1, d2] }
  | _ => none }
def rlpPartsRow : OpenClaim := { program := "ytahekhamhdfkdaa", sum := "3d0d3f100d70522beaf8aea5398bcc40ac783b7de10b0d895b88f082678f7351", func := "waybill/waybilllaw07.RlpParts", spec := "rlpParts", unfollowed := true, recurses := true, loops := true, apart := false }
def RlpPartsSaid : Prop := rlpPartsRow.holds Try.pinned (OpenSpec.ofChange rlpPartsSpec)

/-- ITS FALSE NEIGHBOUR: 'it returns false'. Refute it at one input. -/
def rlpPartsWrong : ChangeSpec := { name := "rlpParts", fn := fun _ => fun
  | [d1, d2] => { results := [.lit (.bool false)], args := [d1, d2] }
  | _ => none }
def RlpPartsWrongFalsely : Prop := rlpPartsRow.holds Try.pinned (OpenSpec.ofChange rlpPartsWrong)

/-- 'waybilllaw07.RlpApart': WHATEVER THE INPUT: true; the input reads as it did. -/
def rlpApartSpec : ChangeSpec := { name := "rlpApart", fn := fun _ => fun
  | [d] => { results := [.lit (.bool true)], args := [d] }
  | _ => none }
def rlpApartRow : OpenClaim := { program := "ytahekhamhdfkdaa", sum := "3d0d3f100d70522beaf8aea5398bcc40ac783b7de10b0d895b88f082678f7351", func := "waybill/waybilllaw07.RlpApart", spec := "rlpApart", unfollowed := true, recurses := true, loops := true, apart := false }
def RlpApartSaid : Prop := rlpApartRow.holds Try.pinned (OpenSpec.ofChange rlpApartSpec)

/-- ITS FALSE NEIGHBOUR: 'it returns false'. Refute it at one input. -/
def rlpApartWrong : ChangeSpec := { name := "rlpApart", fn := fun _ => fun
  | [d] => { results := [.lit (.bool false)], args := [d] }
  | _ => none }
def RlpApartWrongFalsely : Prop := rlpApartRow.holds Try.pinned (OpenSpec.ofChange rlpApartWrong)

/-- 'waybilllaw07.RlpOwn': WHATEVER THE INPUT: true; the input reads as it did. -/
def rlpOwnSpec : ChangeSpec := { name := "rlpOwn", fn := fun _ => fun
  | [d] => { results := [.lit (.bool true)], args := [d] }
  | _ => none }
def rlpOwnRow : OpenClaim := { program := "ytahekhamhdfkdaa", sum := "3d0d3f100d70522beaf8aea5398bcc40ac783b7de10b0d895b88f082678f7351", func := "waybill/waybilllaw07.RlpOwn", spec := "rlpOwn", unfollowed := true, recurses := true, apart := false }
def RlpOwnSaid : Prop := rlpOwnRow.holds Try.pinned (OpenSpec.ofChange rlpOwnSpec)

/-- ITS FALSE NEIGHBOUR: 'it returns false'. Refute it at one input. -/
def rlpOwnWrong : ChangeSpec := { name := "rlpOwn", fn := fun _ => fun
  | [d] => { results := [.lit (.bool false)], args := [d] }
  | _ => none }
def RlpOwnWrongFalsely : Prop := rlpOwnRow.holds Try.pinned (OpenSpec.ofChange rlpOwnWrong)

/- THE SECOND FORM. 'bulk': how many values and letters a reading holds, each counted each time it is reached (what is shared counts as often as it is met; a slice's spare places count too). A statement '..UptoSaid' is the law's where the arguments, and the package variables that the reading takes, are together of bulk at most 1048576: NARROWER than '..Said'. Prove '..Said' where nothing that the law and all that it calls make is longer than what came in: it says more and counts as full. Else prove '..UptoSaid'. A law counts once. -/
mutual
def uptoBulk {H : Type} : DataW H → Nat
  | .lit (.string bytes) => bytes.length + 1
  | .lit _ => 1
  | .nil => 1
  | .ptr d => uptoBulk d + 1
  | .slice elems spare => uptoBulkAll elems + uptoBulkAll spare + 1
  | .agg parts => uptoBulkAll parts + 1
  | .iface _ d => uptoBulk d + 1
  | .map entries => uptoBulkEntries entries + 1
  | .held _ => 1
def uptoBulkAll {H : Type} : List (DataW H) → Nat
  | [] => 0
  | d :: r => uptoBulk d + uptoBulkAll r
def uptoBulkEntries {H : Type} : List (Lit × DataW H) → Nat
  | [] => 0
  | x :: r => uptoBulkEntry x + uptoBulkEntries r
def uptoBulkEntry {H : Type} : Lit × DataW H → Nat
  | (.string bytes, d) => bytes.length + uptoBulk d + 1
  | (_, d) => uptoBulk d + 1
 end
def uptoSmall : (H : Type) → List (DataW H) → Bool := fun _ ds => decide (uptoBulkAll ds ≤ 1048576)
def OpenSpec.upto (s : _root_.Go.ChangeSpec) : _root_.Go.OpenSpec := { _root_.Go.OpenSpec.ofChange s with cond := some uptoSmall }

/-- 'waybilllaw07.RlpDecodes', WHERE WHAT IT READS IS OF BULK AT MOST 1048576: true; the input reads as it did. -/
def rlpDecodesUptoRow : OpenClaim := { program := "ytahekhamhdfkdaa", sum := "3d0d3f100d70522beaf8aea5398bcc40ac783b7de10b0d895b88f082678f7351", func := "waybill/waybilllaw07.RlpDecodes", spec := "rlpDecodes", recurses := true, apart := false, narrowed := true }
def RlpDecodesUptoSaid : Prop := rlpDecodesUptoRow.holds Try.pinned (OpenSpec.upto rlpDecodesSpec)

/-- 'waybilllaw07.RlpBack', WHERE WHAT IT READS IS OF BULK AT MOST 1048576: true; the input reads as it did. -/
def rlpBackUptoRow : OpenClaim := { program := "ytahekhamhdfkdaa", sum := "3d0d3f100d70522beaf8aea5398bcc40ac783b7de10b0d895b88f082678f7351", func := "waybill/waybilllaw07.RlpBack", spec := "rlpBack", unfollowed := true, recurses := true, loops := true, apart := false, narrowed := true }
def RlpBackUptoSaid : Prop := rlpBackUptoRow.holds Try.pinned (OpenSpec.upto rlpBackSpec)

/-- 'waybilllaw07.RlpStrict', WHERE WHAT IT READS IS OF BULK AT MOST 1048576: true; the input reads as it did. -/
def rlpStrictUptoRow : OpenClaim := { program := "ytahekhamhdfkdaa", sum := "3d0d3f100d70522beaf8aea5398bcc40ac783b7de10b0d895b88f082678f7351", func := "waybill/waybilllaw07.RlpStrict", spec := "rlpStrict", unfollowed := true, recurses := true, apart := false, narrowed := true }
def RlpStrictUptoSaid : Prop := rlpStrictUptoRow.holds Try.pinned (OpenSpec.upto rlpStrictSpec)

/-- 'waybilllaw07.RlpParts', WHERE WHAT IT READS IS OF BULK AT MOST 1048576: true; the input reads as it did. -/
def rlpPartsUptoRow : OpenClaim := { program := "ytahekhamhdfkdaa", sum := "3d0d3f100d70522beaf8aea5398bcc40ac783b7de10b0d895b88f082678f7351", func := "waybill/waybilllaw07.RlpParts", spec := "rlpParts", unfollowed := true, recurses := true, loops := true, apart := false, narrowed := true }
def RlpPartsUptoSaid : Prop := rlpPartsUptoRow.holds Try.pinned (OpenSpec.upto rlpPartsSpec)

/-- 'waybilllaw07.RlpApart', WHERE WHAT IT READS IS OF BULK AT MOST 1048576: true; the input reads as it did. -/
def rlpApartUptoRow : OpenClaim := { program := "ytahekhamhdfkdaa", sum := "3d0d3f100d70522beaf8aea5398bcc40ac783b7de10b0d895b88f082678f7351", func := "waybill/waybilllaw07.RlpApart", spec := "rlpApart", unfollowed := true, recurses := true, loops := true, apart := false, narrowed := true }
def RlpApartUptoSaid : Prop := rlpApartUptoRow.holds Try.pinned (OpenSpec.upto rlpApartSpec)

/-- 'waybilllaw07.RlpOwn', WHERE WHAT IT READS IS OF BULK AT MOST 1048576: true; the input reads as it did. -/
def rlpOwnUptoRow : OpenClaim := { program := "ytahekhamhdfkdaa", sum := "3d0d3f100d70522beaf8aea5398bcc40ac783b7de10b0d895b88f082678f7351", func := "waybill/waybilllaw07.RlpOwn", spec := "rlpOwn", unfollowed := true, recurses := true, apart := false, narrowed := true }
def RlpOwnUptoSaid : Prop := rlpOwnUptoRow.holds Try.pinned (OpenSpec.upto rlpOwnSpec)

end Rows
end Go.Proofs.Ytahekhamhdfkdaa

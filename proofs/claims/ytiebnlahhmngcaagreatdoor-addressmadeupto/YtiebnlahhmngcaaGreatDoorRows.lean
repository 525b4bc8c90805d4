/-
  NARROWER THAN 'FOR EVERY INPUT', by the rows' own cells (each row's printed sentence says how): AddressMade: laid.
  DERIVED. THE GIVEN ROWS OF THIS SEAT. 1 by the template 'for every input the law returns true; each argument reads behind the call as it read before'; 0 by the template 'total and deterministic' (their statements: YtiebnlahhmngcaaGreatDoorTotals.lean).
  GIVEN WITH THE SEED: the statements are not yours to turn. If you find one false, say at which input.
  Laid BY PROGRAM, IN A SANDBOX (cutbox-rows.mjs): the forced cells as the released guide's own fill.sh prints them over the translation 6f097ebb7fc0b1e2… (all of the seat's roots in one cut). By AI agents, Wed Nov 11 2026. No macro, syntax, notation, axiom, sorry.
-/
import Derived.Test.YtiebnlahhmngcaaGreatDoorChecked
import GoSem.Claim
import GoSem.ClaimJoined
import GoSem.ClaimMapViews
import Derived.JoinedTies
import Derived.KernelRfl
namespace Go.Proofs.YtiebnlahhmngcaaGreatDoor
/- THE CELL 'sum', in the pinned program and in every row, IS THE sha256 OF THE DUMP (.gsa) THAT YtiebnlahhmngcaaGreatDoorProg.lean LOADS. Nothing in Lean hashes anything: it is a label: what it is worth is what the hold of that sum in a sandbox is worth. -/
noncomputable def Tryz.pinned : Pinned := { name := "ytiebnlahhmngcaagreatdoor", sum := "6f097ebb7fc0b1e2c9cc6fcbbd6fc61d26b6825780284733b81dc06d02c97a9f", checked := Tryz.checked }
namespace Rows
def none {H : Type} : Left H := { results := [], args := [] }

/- WHAT THE LISTED PACKAGE-LEVEL VARIABLES READ AS WHEN THE CALL BEGINS. Each datum BY PROGRAM (the guide's laid-datum.mjs) off the statement by which the dump's own 'gosem.cut.vars' lays the variable. In a bare row this is a premise. The card (YtiebnlahhmngcaaGreatDoorCards.lean) ties it to the program's text. -/
def laid_waybill_keccak_turns {H : Type} : DataW H := .agg [.lit (.int .i64 0), .lit (.int .i64 1), .lit (.int .i64 62), .lit (.int .i64 28), .lit (.int .i64 27), .lit (.int .i64 36), .lit (.int .i64 44), .lit (.int .i64 6), .lit (.int .i64 55), .lit (.int .i64 20), .lit (.int .i64 3), .lit (.int .i64 10), .lit (.int .i64 43), .lit (.int .i64 25), .lit (.int .i64 39), .lit (.int .i64 41), .lit (.int .i64 45), .lit (.int .i64 15), .lit (.int .i64 21), .lit (.int .i64 8), .lit (.int .i64 18), .lit (.int .i64 2), .lit (.int .i64 61), .lit (.int .i64 56), .lit (.int .i64 14)]
def laid_waybill_keccak_marks {H : Type} : DataW H := .agg [.lit (.int .u64 1), .lit (.int .u64 32898), .lit (.int .u64 9223372036854808714), .lit (.int .u64 9223372039002292224), .lit (.int .u64 32907), .lit (.int .u64 2147483649), .lit (.int .u64 9223372039002292353), .lit (.int .u64 9223372036854808585), .lit (.int .u64 138), .lit (.int .u64 136), .lit (.int .u64 2147516425), .lit (.int .u64 2147483658), .lit (.int .u64 2147516555), .lit (.int .u64 9223372036854775947), .lit (.int .u64 9223372036854808713), .lit (.int .u64 9223372036854808579), .lit (.int .u64 9223372036854808578), .lit (.int .u64 9223372036854775936), .lit (.int .u64 32778), .lit (.int .u64 9223372039002259466), .lit (.int .u64 9223372039002292353), .lit (.int .u64 9223372036854808704), .lit (.int .u64 2147483649), .lit (.int .u64 9223372039002292232)]
def laid_waybill_field_moduli {H : Type} : DataW H := .agg [.agg [.agg [.lit (.int .u64 18446744069414583343), .lit (.int .u64 18446744073709551615), .lit (.int .u64 18446744073709551615), .lit (.int .u64 18446744073709551615)], .agg [.lit (.int .u64 4294968273), .lit (.int .u64 0), .lit (.int .u64 0), .lit (.int .u64 0)]], .agg [.agg [.lit (.int .u64 13822214165235122497), .lit (.int .u64 13451932020343611451), .lit (.int .u64 18446744073709551614), .lit (.int .u64 18446744073709551615)], .agg [.lit (.int .u64 4624529908474429119), .lit (.int .u64 4994812053365940164), .lit (.int .u64 1), .lit (.int .u64 0)]]]
def laid_waybill_curve_columns {H : Type} : DataW H := .agg [.agg [.agg [.lit (.int .u64 0), .lit (.int .u64 0), .lit (.int .u64 0), .lit (.int .u64 0)], .agg [.lit (.int .u64 0), .lit (.int .u64 0), .lit (.int .u64 0), .lit (.int .u64 0)], .lit (.bool true)], .agg [.agg [.lit (.int .u64 6481385041966929816), .lit (.int .u64 188021827762530521), .lit (.int .u64 6170039885052185351), .lit (.int .u64 8772561819708210092)], .agg [.lit (.int .u64 11261198710074299576), .lit (.int .u64 18237243440184513561), .lit (.int .u64 6747795201694173352), .lit (.int .u64 5204712524664259685)], .lit (.bool false)], .agg [.agg [.lit (.int .u64 1420851491321734845), .lit (.int .u64 17831107051473821267), .lit (.int .u64 9413108694239768267), .lit (.int .u64 3684740546510474789)], .agg [.lit (.int .u64 2662650928131781280), .lit (.int .u64 2883981885275847414), .lit (.int .u64 13812568353696053687), .lit (.int .u64 6261982155919216373)], .lit (.bool false)], .agg [.agg [.lit (.int .u64 15899977345824264746), .lit (.int .u64 10310977140856296777), .lit (.int .u64 11207366575403998835), .lit (.int .u64 6359047324193118621)], .agg [.lit (.int .u64 17566133796674529988), .lit (.int .u64 12990217113396622202), .lit (.int .u64 11498484616657520550), .lit (.int .u64 12377619311449439617)], .lit (.bool false)], .agg [.agg [.lit (.int .u64 1980251557031362778), .lit (.int .u64 16756863388851544885), .lit (.int .u64 10536665754535663150), .lit (.int .u64 10333713660726959923)], .agg [.lit (.int .u64 17455036783537422210), .lit (.int .u64 13540684701581249533), .lit (.int .u64 16005107816708579677), .lit (.int .u64 7361871559633811846)], .lit (.bool false)], .agg [.agg [.lit (.int .u64 7189408038385401609), .lit (.int .u64 3397911576708611646), .lit (.int .u64 15755510341721275955), .lit (.int .u64 10029532112266168108)], .agg [.lit (.int .u64 2794201169108470329), .lit (.int .u64 645887947755712873), .lit (.int .u64 4931174713096550634), .lit (.int .u64 2084093948640608460)], .lit (.bool false)], .agg [.agg [.lit (.int .u64 13409131895327723632), .lit (.int .u64 13557674625938030135), .lit (.int .u64 16275355937442695028), .lit (.int .u64 10417438954465452788)], .agg [.lit (.int .u64 7293935616499679818), .lit (.int .u64 492937957765346492), .lit (.int .u64 10164659162491674973), .lit (.int .u64 8870125298128062633)], .lit (.bool false)], .agg [.agg [.lit (.int .u64 2004001076105038188), .lit (.int .u64 16429338166490924218), .lit (.int .u64 7175890133001917215), .lit (.int .u64 2223946649134373680)], .agg [.lit (.int .u64 11607770873604919198), .lit (.int .u64 16469900164231123228), .lit (.int .u64 17820852538206705865), .lit (.int .u64 3593937562733081572)], .lit (.bool false)], .agg [.agg [.lit (.int .u64 9168019297763648179), .lit (.int .u64 8816075333918259626), .lit (.int .u64 16698866808444609825), .lit (.int .u64 16908283155265469882)], .agg [.lit (.int .u64 15310641167265880381), .lit (.int .u64 118986287662202457), .lit (.int .u64 14310892571121527386), .lit (.int .u64 13705150676395077690)], .lit (.bool false)], .agg [.agg [.lit (.int .u64 14927491246908460401), .lit (.int .u64 7831616176396585010), .lit (.int .u64 7930523596402033902), .lit (.int .u64 1588839342659650953)], .agg [.lit (.int .u64 11339471586115939981), .lit (.int .u64 16425424334562750990), .lit (.int .u64 15075671426733661378), .lit (.int .u64 7575269483820816097)], .lit (.bool false)], .agg [.agg [.lit (.int .u64 4535017717314283025), .lit (.int .u64 18324438745077743535), .lit (.int .u64 5056040120946383205), .lit (.int .u64 1658127573194323653)], .agg [.lit (.int .u64 18133035535924747499), .lit (.int .u64 7907431880967346421), .lit (.int .u64 616581366411006705), .lit (.int .u64 5083473095128411264)], .lit (.bool false)], .agg [.agg [.lit (.int .u64 12974736144201180682), .lit (.int .u64 14233411227978841142), .lit (.int .u64 4358153212020372812), .lit (.int .u64 5535954442660912120)], .agg [.lit (.int .u64 17932457956034059440), .lit (.int .u64 8797357280977563443), .lit (.int .u64 6299842666943100343), .lit (.int .u64 15194586070186118748)], .lit (.bool false)], .agg [.agg [.lit (.int .u64 11141354014620826376), .lit (.int .u64 16302009388481732731), .lit (.int .u64 11549703435712443592), .lit (.int .u64 5591798971743609489)], .agg [.lit (.int .u64 4790527292956897940), .lit (.int .u64 2208919640261539277), .lit (.int .u64 10755772759211753487), .lit (.int .u64 10139908581434562394)], .lit (.bool false)], .agg [.agg [.lit (.int .u64 4842478844822015847), .lit (.int .u64 7871910055282529227), .lit (.int .u64 4913385500608987935), .lit (.int .u64 7658758276064820865)], .agg [.lit (.int .u64 17746207337886912328), .lit (.int .u64 6914052845562847217), .lit (.int .u64 319430231399701416), .lit (.int .u64 6309225354493542970)], .lit (.bool false)], .agg [.agg [.lit (.int .u64 13328850565126430375), .lit (.int .u64 13836286430769822485), .lit (.int .u64 14156113016990819452), .lit (.int .u64 15606204522890601161)], .agg [.lit (.int .u64 445235178004499157), .lit (.int .u64 14633306866648641082), .lit (.int .u64 14566925108793696681), .lit (.int .u64 12649050125856105564)], .lit (.bool false)], .agg [.agg [.lit (.int .u64 9802307101542363618), .lit (.int .u64 171895469969889910), .lit (.int .u64 13186539695484122475), .lit (.int .u64 5971251091201341552)], .agg [.lit (.int .u64 10817436025753510378), .lit (.int .u64 9901272048312714221), .lit (.int .u64 1150727803770249706), .lit (.int .u64 4190332752231381211)], .lit (.bool false)]]

/-- 'waybilllaw09.AddressMade': WHATEVER THE INPUT: true; the input reads as it did. -/
def addressMadeSpec : ChangeSpec := { name := "addressMade", fn := fun _ => fun
  | [d1, d2, d3, d4, d5] => { results := [.lit (.bool true)], args := [d1, d2, d3, d4, d5] }
  | _ => none }
def addressMadeRow : OpenClaim := { program := "ytiebnlahhmngcaagreatdoor", sum := "6f097ebb7fc0b1e2c9cc6fcbbd6fc61d26b6825780284733b81dc06d02c97a9f", func := "waybill/waybilllaw09.AddressMade", spec := "addressMade", inPlace := ["math/bits.Add64", "math/bits.Sub64"], unfollowed := true, recurses := true, named := ["waybill/keccak.marks", "waybill/keccak.turns", "waybill/curve.columns", "waybill/field.moduli"], apart := false, laid := [("waybill/keccak.turns", laid_waybill_keccak_turns), ("waybill/keccak.marks", laid_waybill_keccak_marks), ("waybill/field.moduli", laid_waybill_field_moduli), ("waybill/curve.columns", laid_waybill_curve_columns)] }
def AddressMadeSaid : Prop := addressMadeRow.holds Tryz.pinned (OpenSpec.ofChange addressMadeSpec)

/-- ITS FALSE NEIGHBOUR: 'it returns false'. Refute it at one input. -/
def addressMadeWrong : ChangeSpec := { name := "addressMade", fn := fun _ => fun
  | [d1, d2, d3, d4, d5] => { results := [.lit (.bool false)], args := [d1, d2, d3, d4, d5] }
  | _ => none }
def AddressMadeWrongFalsely : Prop := addressMadeRow.holds Tryz.pinned (OpenSpec.ofChange addressMadeWrong)

/- THE SECOND FORM. 'bulk': how many values and letters a reading holds, each counted each time it is reached (what is shared counts as often as it is met; a slice's spare places count too). A statement '..UptoSaid' is the law's where the arguments, and the package variables that the reading takes, are together of bulk at most 1048576: NARROWER than '..Said'. Prove '..Said' where nothing that the law and all that it calls make is longer than what came in: it says more and counts as full. Else prove '..UptoSaid'. A law counts once. -/
mutual
def uptoBulk {H : Type} : DataW H → Nat
  | .lit (.string bytes) => bytes.length + 1
  | .lit _ => 1
  | .nil => 1
  | .ptr d => uptoBulk d + 1
  | .slice elems spare => uptoBulkAll elems + uptoBulkAll spare + 1
  | .agg parts => uptoBulkAll parts + 1
  | .iface _ d => uptoBulk d + 1
  | .map entries => uptoBulkEntries entries + 1
  | .held _ => 1
def uptoBulkAll {H : Type} : List (DataW H) → Nat
  | [] => 0
  | d :: r => uptoBulk d + uptoBulkAll r
def uptoBulkEntries {H : Type} : List (Lit × DataW H) → Nat
  | [] => 0
  | x :: r => uptoBulkEntry x + uptoBulkEntries r
def uptoBulkEntry {H : Type} : Lit × DataW H → Nat
  | (.string bytes, d) => bytes.length + uptoBulk d + 1
  | (_, d) => uptoBulk d + 1
 end
def uptoSmall : (H : Type) → List (DataW H) → Bool := fun _ ds => decide (uptoBulkAll ds ≤ 1048576)
def OpenSpec.upto (s : _root_.Go.ChangeSpec) : _root_.Go.OpenSpec := { _root_.Go.OpenSpec.ofChange s with cond := some uptoSmall }

/-- 'waybilllaw09.AddressMade', WHERE WHAT IT READS IS OF BULK AT MOST 1048576: true; the input reads as it did. -/
def addressMadeUptoRow : OpenClaim := { program := "ytiebnlahhmngcaagreatdoor", sum := "6f097ebb7fc0b1e2c9cc6fcbbd6fc61d26b6825780284733b81dc06d02c97a9f", func := "waybill/waybilllaw09.AddressMade", spec := "addressMade", inPlace := ["math/bits.Add64", "math/bits.Sub64"], unfollowed := true, recurses := true, named := ["waybill/keccak.marks", "waybill/keccak.turns", "waybill/curve.columns", "waybill/field.moduli"], apart := false, laid := [("waybill/keccak.turns", laid_waybill_keccak_turns), ("waybill/keccak.marks", laid_waybill_keccak_marks), ("waybill/field.moduli", laid_waybill_field_moduli), ("waybill/curve.columns", laid_waybill_curve_columns)], narrowed := true }
def AddressMadeUptoSaid : Prop := addressMadeUptoRow.holds Tryz.pinned (OpenSpec.upto addressMadeSpec)

end Rows
end Go.Proofs.YtiebnlahhmngcaaGreatDoor

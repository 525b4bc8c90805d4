/-
  NARROWER THAN 'FOR EVERY INPUT', by the rows' own cells (each row's printed sentence says how): EcdsaGenuine: laid · EcdsaSigns: laid.
  DERIVED. THE GIVEN ROWS OF THIS SEAT. 2 by the template 'for every input the law returns true; each argument reads behind the call as it read before'; 0 by the template 'total and deterministic' (their statements: YtncpjgpioajbeaaGreatDoorTotals.lean).
  GIVEN WITH THE SEED: the statements are not yours to turn. If you find one false, say at which input.
  Laid BY PROGRAM, IN A SANDBOX (cutbox-rows.mjs): the forced cells as the released guide's own fill.sh prints them over the translation d92ff956ad59e756… (all of the seat's roots in one cut). By AI agents, Wed Nov 11 2026. No macro, syntax, notation, axiom, sorry.
-/
import Derived.Test.YtncpjgpioajbeaaGreatDoorChecked
import GoSem.Claim
import GoSem.ClaimJoined
import GoSem.ClaimMapViews
import Derived.JoinedTies
import Derived.KernelRfl
namespace Go.Proofs.YtncpjgpioajbeaaGreatDoor
/- THE CELL 'sum', in the pinned program and in every row, IS THE sha256 OF THE DUMP (.gsa) THAT YtncpjgpioajbeaaGreatDoorProg.lean LOADS. Nothing in Lean hashes anything: it is a label: what it is worth is what the hold of that sum in a sandbox is worth. -/
noncomputable def Tryz.pinned : Pinned := { name := "ytncpjgpioajbeaagreatdoor", sum := "d92ff956ad59e756f96b651be52636ef72374b751d689d2f9b953e1d5a15da00", checked := Tryz.checked }
namespace Rows
def none {H : Type} : Left H := { results := [], args := [] }

/- WHAT THE LISTED PACKAGE-LEVEL VARIABLES READ AS WHEN THE CALL BEGINS. Each datum BY PROGRAM (the guide's laid-datum.mjs) off the statement by which the dump's own 'gosem.cut.vars' lays the variable. In a bare row this is a premise. The card (YtncpjgpioajbeaaGreatDoorCards.lean) ties it to the program's text. -/
def laid_waybill_sha_first {H : Type} : DataW H := .agg [.lit (.int .u32 1779033703), .lit (.int .u32 3144134277), .lit (.int .u32 1013904242), .lit (.int .u32 2773480762), .lit (.int .u32 1359893119), .lit (.int .u32 2600822924), .lit (.int .u32 528734635), .lit (.int .u32 1541459225)]
def laid_waybill_sha_steps {H : Type} : DataW H := .agg [.lit (.int .u32 1116352408), .lit (.int .u32 1899447441), .lit (.int .u32 3049323471), .lit (.int .u32 3921009573), .lit (.int .u32 961987163), .lit (.int .u32 1508970993), .lit (.int .u32 2453635748), .lit (.int .u32 2870763221), .lit (.int .u32 3624381080), .lit (.int .u32 310598401), .lit (.int .u32 607225278), .lit (.int .u32 1426881987), .lit (.int .u32 1925078388), .lit (.int .u32 2162078206), .lit (.int .u32 2614888103), .lit (.int .u32 3248222580), .lit (.int .u32 3835390401), .lit (.int .u32 4022224774), .lit (.int .u32 264347078), .lit (.int .u32 604807628), .lit (.int .u32 770255983), .lit (.int .u32 1249150122), .lit (.int .u32 1555081692), .lit (.int .u32 1996064986), .lit (.int .u32 2554220882), .lit (.int .u32 2821834349), .lit (.int .u32 2952996808), .lit (.int .u32 3210313671), .lit (.int .u32 3336571891), .lit (.int .u32 3584528711), .lit (.int .u32 113926993), .lit (.int .u32 338241895), .lit (.int .u32 666307205), .lit (.int .u32 773529912), .lit (.int .u32 1294757372), .lit (.int .u32 1396182291), .lit (.int .u32 1695183700), .lit (.int .u32 1986661051), .lit (.int .u32 2177026350), .lit (.int .u32 2456956037), .lit (.int .u32 2730485921), .lit (.int .u32 2820302411), .lit (.int .u32 3259730800), .lit (.int .u32 3345764771), .lit (.int .u32 3516065817), .lit (.int .u32 3600352804), .lit (.int .u32 4094571909), .lit (.int .u32 275423344), .lit (.int .u32 430227734), .lit (.int .u32 506948616), .lit (.int .u32 659060556), .lit (.int .u32 883997877), .lit (.int .u32 958139571), .lit (.int .u32 1322822218), .lit (.int .u32 1537002063), .lit (.int .u32 1747873779), .lit (.int .u32 1955562222), .lit (.int .u32 2024104815), .lit (.int .u32 2227730452), .lit (.int .u32 2361852424), .lit (.int .u32 2428436474), .lit (.int .u32 2756734187), .lit (.int .u32 3204031479), .lit (.int .u32 3329325298)]
def laid_waybill_field_moduli {H : Type} : DataW H := .agg [.agg [.agg [.lit (.int .u64 18446744069414583343), .lit (.int .u64 18446744073709551615), .lit (.int .u64 18446744073709551615), .lit (.int .u64 18446744073709551615)], .agg [.lit (.int .u64 4294968273), .lit (.int .u64 0), .lit (.int .u64 0), .lit (.int .u64 0)]], .agg [.agg [.lit (.int .u64 13822214165235122497), .lit (.int .u64 13451932020343611451), .lit (.int .u64 18446744073709551614), .lit (.int .u64 18446744073709551615)], .agg [.lit (.int .u64 4624529908474429119), .lit (.int .u64 4994812053365940164), .lit (.int .u64 1), .lit (.int .u64 0)]]]
def laid_waybill_curve_columns {H : Type} : DataW H := .agg [.agg [.agg [.lit (.int .u64 0), .lit (.int .u64 0), .lit (.int .u64 0), .lit (.int .u64 0)], .agg [.lit (.int .u64 0), .lit (.int .u64 0), .lit (.int .u64 0), .lit (.int .u64 0)], .lit (.bool true)], .agg [.agg [.lit (.int .u64 6481385041966929816), .lit (.int .u64 188021827762530521), .lit (.int .u64 6170039885052185351), .lit (.int .u64 8772561819708210092)], .agg [.lit (.int .u64 11261198710074299576), .lit (.int .u64 18237243440184513561), .lit (.int .u64 6747795201694173352), .lit (.int .u64 5204712524664259685)], .lit (.bool false)], .agg [.agg [.lit (.int .u64 1420851491321734845), .lit (.int .u64 17831107051473821267), .lit (.int .u64 9413108694239768267), .lit (.int .u64 3684740546510474789)], .agg [.lit (.int .u64 2662650928131781280), .lit (.int .u64 2883981885275847414), .lit (.int .u64 13812568353696053687), .lit (.int .u64 6261982155919216373)], .lit (.bool false)], .agg [.agg [.lit (.int .u64 15899977345824264746), .lit (.int .u64 10310977140856296777), .lit (.int .u64 11207366575403998835), .lit (.int .u64 6359047324193118621)], .agg [.lit (.int .u64 17566133796674529988), .lit (.int .u64 12990217113396622202), .lit (.int .u64 11498484616657520550), .lit (.int .u64 12377619311449439617)], .lit (.bool false)], .agg [.agg [.lit (.int .u64 1980251557031362778), .lit (.int .u64 16756863388851544885), .lit (.int .u64 10536665754535663150), .lit (.int .u64 10333713660726959923)], .agg [.lit (.int .u64 17455036783537422210), .lit (.int .u64 13540684701581249533), .lit (.int .u64 16005107816708579677), .lit (.int .u64 7361871559633811846)], .lit (.bool false)], .agg [.agg [.lit (.int .u64 7189408038385401609), .lit (.int .u64 3397911576708611646), .lit (.int .u64 15755510341721275955), .lit (.int .u64 10029532112266168108)], .agg [.lit (.int .u64 2794201169108470329), .lit (.int .u64 645887947755712873), .lit (.int .u64 4931174713096550634), .lit (.int .u64 2084093948640608460)], .lit (.bool false)], .agg [.agg [.lit (.int .u64 13409131895327723632), .lit (.int .u64 13557674625938030135), .lit (.int .u64 16275355937442695028), .lit (.int .u64 10417438954465452788)], .agg [.lit (.int .u64 7293935616499679818), .lit (.int .u64 492937957765346492), .lit (.int .u64 10164659162491674973), .lit (.int .u64 8870125298128062633)], .lit (.bool false)], .agg [.agg [.lit (.int .u64 2004001076105038188), .lit (.int .u64 16429338166490924218), .lit (.int .u64 7175890133001917215), .lit (.int .u64 2223946649134373680)], .agg [.lit (.int .u64 11607770873604919198), .lit (.int .u64 16469900164231123228), .lit (.int .u64 17820852538206705865), .lit (.int .u64 3593937562733081572)], .lit (.bool false)], .agg [.agg [.lit (.int .u64 9168019297763648179), .lit (.int .u64 8816075333918259626), .lit (.int .u64 16698866808444609825), .lit (.int .u64 16908283155265469882)], .agg [.lit (.int .u64 15310641167265880381), .lit (.int .u64 118986287662202457), .lit (.int .u64 14310892571121527386), .lit (.int .u64 13705150676395077690)], .lit (.bool false)], .agg [.agg [.lit (.int .u64 14927491246908460401), .lit (.int .u64 7831616176396585010), .lit (.int .u64 7930523596402033902), .lit (.int .u64 1588839342659650953)], .agg [.lit (.int .u64 11339471586115939981), .lit (.int .u64 16425424334562750990), .lit (.int .u64 15075671426733661378), .lit (.int .u64 7575269483820816097)], .lit (.bool false)], .agg [.agg [.lit (.int .u64 4535017717314283025), .lit (.int .u64 18324438745077743535), .lit (.int .u64 5056040120946383205), .lit (.int .u64 1658127573194323653)], .agg [.lit (.int .u64 18133035535924747499), .lit (.int .u64 7907431880967346421), .lit (.int .u64 616581366411006705), .lit (.int .u64 5083473095128411264)], .lit (.bool false)], .agg [.agg [.lit (.int .u64 12974736144201180682), .lit (.int .u64 14233411227978841142), .lit (.int .u64 4358153212020372812), .lit (.int .u64 5535954442660912120)], .agg [.lit (.int .u64 17932457956034059440), .lit (.int .u64 8797357280977563443), .lit (.int .u64 6299842666943100343), .lit (.int .u64 15194586070186118748)], .lit (.bool false)], .agg [.agg [.lit (.int .u64 11141354014620826376), .lit (.int .u64 16302009388481732731), .lit (.int .u64 11549703435712443592), .lit (.int .u64 5591798971743609489)], .agg [.lit (.int .u64 4790527292956897940), .lit (.int .u64 2208919640261539277), .lit (.int .u64 10755772759211753487), .lit (.int .u64 10139908581434562394)], .lit (.bool false)], .agg [.agg [.lit (.int .u64 4842478844822015847), .lit (.int .u64 7871910055282529227), .lit (.int .u64 4913385500608987935), .lit (.int .u64 7658758276064820865)], .agg [.lit (.int .u64 17746207337886912328), .lit (.int .u64 6914052845562847217), .lit (.int .u64 319430231399701416), .lit (.int .u64 6309225354493542970)], .lit (.bool false)], .agg [.agg [.lit (.int .u64 13328850565126430375), .lit (.int .u64 13836286430769822485), .lit (.int .u64 14156113016990819452), .lit (.int .u64 15606204522890601161)], .agg [.lit (.int .u64 445235178004499157), .lit (.int .u64 14633306866648641082), .lit (.int .u64 14566925108793696681), .lit (.int .u64 12649050125856105564)], .lit (.bool false)], .agg [.agg [.lit (.int .u64 9802307101542363618), .lit (.int .u64 171895469969889910), .lit (.int .u64 13186539695484122475), .lit (.int .u64 5971251091201341552)], .agg [.lit (.int .u64 10817436025753510378), .lit (.int .u64 9901272048312714221), .lit (.int .u64 1150727803770249706), .lit (.int .u64 4190332752231381211)], .lit (.bool false)]]

/-- 'waybilllaw06.EcdsaGenuine': WHATEVER THE INPUT: true; the input reads as it did. -/
def ecdsaGenuineSpec : ChangeSpec := { name := "ecdsaGenuine", fn := fun _ => fun
  | [d1, d2] => { results := [.lit (.bool true)], args := [d1, d2] }
  | _ => none }
def ecdsaGenuineRow : OpenClaim := { program := "ytncpjgpioajbeaagreatdoor", sum := "d92ff956ad59e756f96b651be52636ef72374b751d689d2f9b953e1d5a15da00", func := "waybill/waybilllaw06.EcdsaGenuine", spec := "ecdsaGenuine", inPlace := ["math/bits.Sub64", "math/bits.Add64"], unfollowed := true, recurses := true, named := ["waybill/field.moduli", "waybill/sha.first", "waybill/sha.steps", "waybill/curve.columns"], apart := false, laid := [("waybill/sha.first", laid_waybill_sha_first), ("waybill/sha.steps", laid_waybill_sha_steps), ("waybill/field.moduli", laid_waybill_field_moduli), ("waybill/curve.columns", laid_waybill_curve_columns)] }
def EcdsaGenuineSaid : Prop := ecdsaGenuineRow.holds Tryz.pinned (OpenSpec.ofChange ecdsaGenuineSpec)

/-- ITS FALSE NEIGHBOUR: 'it returns false'. Refute it at one input. -/
def ecdsaGenuineWrong : ChangeSpec := { name := "ecdsaGenuine", fn := fun _ => fun
  | [d1, d2] => { results := [.lit (.bool false)], args := [d1, d2] }
  | _ => none }
def EcdsaGenuineWrongFalsely : Prop := ecdsaGenuineRow.holds Tryz.pinned (OpenSpec.ofChange ecdsaGenuineWrong)

/-- 'waybilllaw06.EcdsaSigns': WHATEVER THE INPUT: true; the input reads as it did. -/
def ecdsaSignsSpec : ChangeSpec := { name := "ecdsaSigns", fn := fun _ => fun
  | [d1, d2] => { results := [.lit (.bool true)], args := [d1, d2] }
  | _ => none }
def ecdsaSignsRow : OpenClaim := { program := "ytncpjgpioajbeaagreatdoor", sum := "d92ff956ad59e756f96b651be52636ef72374b751d689d2f9b953e1d5a15da00", func := "waybill/waybilllaw06.EcdsaSigns", spec := "ecdsaSigns", inPlace := ["math/bits.Sub64", "math/bits.Add64"], unfollowed := true, recurses := true, named := ["waybill/field.moduli", "waybill/sha.first", "waybill/sha.steps", "waybill/curve.columns"], apart := false, laid := [("waybill/sha.first", laid_waybill_sha_first), ("waybill/sha.steps", laid_waybill_sha_steps), ("waybill/field.moduli", laid_waybill_field_moduli), ("waybill/curve.columns", laid_waybill_curve_columns)] }
def EcdsaSignsSaid : Prop := ecdsaSignsRow.holds Tryz.pinned (OpenSpec.ofChange ecdsaSignsSpec)

/-- ITS FALSE NEIGHBOUR: 'it returns false'. Refute it at one input. -/
def ecdsaSignsWrong : ChangeSpec := { name := "ecdsaSigns", fn := fun _ => fun
  | [d1, d2] => { results := [.lit (.bool false)], args := [d1, d2] }
  | _ => none }
def EcdsaSignsWrongFalsely : Prop := ecdsaSignsRow.holds Tryz.pinned (OpenSpec.ofChange ecdsaSignsWrong)

/- THE SECOND FORM. 'bulk': how many values and letters a reading holds, each counted each time it is reached (what is shared counts as often as it is met; a slice's spare places count too). A statement '..UptoSaid' is the law's where the arguments, and the package variables that the reading takes, are together of bulk at most 1048576: NARROWER than '..Said'. Prove '..Said' where nothing that the law and all that it calls make is longer than what came in: it says more and counts as full. Else prove '..UptoSaid'. A law counts once. -/
mutual
def uptoBulk {H : Type} : DataW H → Nat
  | .lit (.string bytes) => bytes.length + 1
  | .lit _ => 1
  | .nil => 1
  | .ptr d => uptoBulk d + 1
  | .slice elems spare => uptoBulkAll elems + uptoBulkAll spare + 1
  | .agg parts => uptoBulkAll parts + 1
  | .iface _ d => uptoBulk d + 1
  | .map entries => uptoBulkEntries entries + 1
  | .held _ => 1
def uptoBulkAll {H : Type} : List (DataW H) → Nat
  | [] => 0
  | d :: r => uptoBulk d + uptoBulkAll r
def uptoBulkEntries {H : Type} : List (Lit × DataW H) → Nat
  | [] => 0
  | x :: r => uptoBulkEntry x + uptoBulkEntries r
def uptoBulkEntry {H : Type} : Lit × DataW H → Nat
  | (.string bytes, d) => bytes.length + uptoBulk d + 1
  | (_, d) => uptoBulk d + 1
 end
def uptoSmall : (H : Type) → List (DataW H) → Bool := fun _ ds => decide (uptoBulkAll ds ≤ 1048576)
def OpenSpec.upto (s : _root_.Go.ChangeSpec) : _root_.Go.OpenSpec := { _root_.Go.OpenSpec.ofChange s with cond := some uptoSmall }

/-- 'waybilllaw06.EcdsaGenuine', WHERE WHAT IT READS IS OF BULK AT MOST 1048576: true; the input reads as it did. -/
def ecdsaGenuineUptoRow : OpenClaim := { program := "ytncpjgpioajbeaagreatdoor", sum := "d92ff956ad59e756f96b651be52636ef72374b751d689d2f9b953e1d5a15da00", func := "waybill/waybilllaw06.EcdsaGenuine", spec := "ecdsaGenuine", inPlace := ["math/bits.Sub64", "math/bits.Add64"], unfollowed := true, recurses := true, named := ["waybill/field.moduli", "waybill/sha.first", "waybill/sha.steps", "waybill/curve.columns"], apart := false, laid := [("waybill/sha.first", laid_waybill_sha_first), ("waybill/sha.steps", laid_waybill_sha_steps), ("waybill/field.moduli", laid_waybill_field_moduli), ("waybill/curve.columns", laid_waybill_curve_columns)], narrowed := true }
def EcdsaGenuineUptoSaid : Prop := ecdsaGenuineUptoRow.holds Tryz.pinned (OpenSpec.upto ecdsaGenuineSpec)

/-- 'waybilllaw06.EcdsaSigns', WHERE WHAT IT READS IS OF BULK AT MOST 1048576: true; the input reads as it did. -/
def ecdsaSignsUptoRow : OpenClaim := { program := "ytncpjgpioajbeaagreatdoor", sum := "d92ff956ad59e756f96b651be52636ef72374b751d689d2f9b953e1d5a15da00", func := "waybill/waybilllaw06.EcdsaSigns", spec := "ecdsaSigns", inPlace := ["math/bits.Sub64", "math/bits.Add64"], unfollowed := true, recurses := true, named := ["waybill/field.moduli", "waybill/sha.first", "waybill/sha.steps", "waybill/curve.columns"], apart := false, laid := [("waybill/sha.first", laid_waybill_sha_first), ("waybill/sha.steps", laid_waybill_sha_steps), ("waybill/field.moduli", laid_waybill_field_moduli), ("waybill/curve.columns", laid_waybill_curve_columns)], narrowed := true }
def EcdsaSignsUptoSaid : Prop := ecdsaSignsUptoRow.holds Tryz.pinned (OpenSpec.upto ecdsaSignsSpec)

end Rows
end Go.Proofs.YtncpjgpioajbeaaGreatDoor

import Derived.Test.YtjoandmehahfgaaGreatDoorAxW
import Derived.Test.YtjoandmehahfgaaGreatDoorAxO
import Derived.Test.YtjoandmehahfgaaGreatDoorKLaid
import Derived.Test.YtjoandmehahfgaaGreatDoorNzU
import Derived.Test.YtjoandmehahfgaaGreatDoorOpen
set_option maxRecDepth 100000
namespace Go.Proofs.YtjoandmehahfgaaGreatDoor.accessself
open Go.ChangeShapes Go.WideShapes Go.ChangeAt Go.RowKit
def zAu:Value:=.agg (List.replicate 4 (Value.int .u64 0)++(List.replicate 20 (Value.int .u8 0)++List.replicate 10 (Value.int .u64 0))).toArray
noncomputable def jK (os:Os):World:={ World.holding Tryz.prog os ⟨#[],#[],[]⟩ with heap:=(((((((World.holding Tryz.prog os ⟨#[],#[],[]⟩).heap.modify 3 (K.lay #[.int .i64 0,.int .i64 1,.int .i64 62,.int .i64 28,.int .i64 27,.int .i64 36,.int .i64 44,.int .i64 6,.int .i64 55,.int .i64 20,.int .i64 3,.int .i64 10,.int .i64 43,.int .i64 25,.int .i64 39,.int .i64 41,.int .i64 45,.int .i64 15,.int .i64 21,.int .i64 8,.int .i64 18,.int .i64 2,.int .i64 61,.int .i64 56,.int .i64 14])).modify 2 (K.lay #[.int .u64 1,.int .u64 32898,.int .u64 9223372036854808714,.int .u64 9223372039002292224,.int .u64 32907,.int .u64 2147483649,.int .u64 9223372039002292353,.int .u64 9223372036854808585,.int .u64 138,.int .u64 136,.int .u64 2147516425,.int .u64 2147483658,.int .u64 2147516555,.int .u64 9223372036854775947,.int .u64 9223372036854808713,.int .u64 9223372036854808579,.int .u64 9223372036854808578,.int .u64 9223372036854775936,.int .u64 32778,.int .u64 9223372039002259466,.int .u64 9223372039002292353,.int .u64 9223372036854808704,.int .u64 2147483649,.int .u64 9223372039002292232])).modify 4 (K.lay #[.int .u32 1779033703,.int .u32 3144134277,.int .u32 1013904242,.int .u32 2773480762,.int .u32 1359893119,.int .u32 2600822924,.int .u32 528734635,.int .u32 1541459225])).modify 5 (K.lay #[.int .u32 1116352408,.int .u32 1899447441,.int .u32 3049323471,.int .u32 3921009573,.int .u32 961987163,.int .u32 1508970993,.int .u32 2453635748,.int .u32 2870763221,.int .u32 3624381080,.int .u32 310598401,.int .u32 607225278,.int .u32 1426881987,.int .u32 1925078388,.int .u32 2162078206,.int .u32 2614888103,.int .u32 3248222580,.int .u32 3835390401,.int .u32 4022224774,.int .u32 264347078,.int .u32 604807628,.int .u32 770255983,.int .u32 1249150122,.int .u32 1555081692,.int .u32 1996064986,.int .u32 2554220882,.int .u32 2821834349,.int .u32 2952996808,.int .u32 3210313671,.int .u32 3336571891,.int .u32 3584528711,.int .u32 113926993,.int .u32 338241895,.int .u32 666307205,.int .u32 773529912,.int .u32 1294757372,.int .u32 1396182291,.int .u32 1695183700,.int .u32 1986661051,.int .u32 2177026350,.int .u32 2456956037,.int .u32 2730485921,.int .u32 2820302411,.int .u32 3259730800,.int .u32 3345764771,.int .u32 3516065817,.int .u32 3600352804,.int .u32 4094571909,.int .u32 275423344,.int .u32 430227734,.int .u32 506948616,.int .u32 659060556,.int .u32 883997877,.int .u32 958139571,.int .u32 1322822218,.int .u32 1537002063,.int .u32 1747873779,.int .u32 1955562222,.int .u32 2024104815,.int .u32 2227730452,.int .u32 2361852424,.int .u32 2428436474,.int .u32 2756734187,.int .u32 3204031479,.int .u32 3329325298])).modify 1 (K.lay #[.int .u64 18446744069414583343,.int .u64 18446744073709551615,.int .u64 18446744073709551615,.int .u64 18446744073709551615,.int .u64 4294968273,.int .u64 0,.int .u64 0,.int .u64 0,.int .u64 13822214165235122497,.int .u64 13451932020343611451,.int .u64 18446744073709551614,.int .u64 18446744073709551615,.int .u64 4624529908474429119,.int .u64 4994812053365940164,.int .u64 1,.int .u64 0])).modify 0 (K.lay #[.int .u64 0,.int .u64 0,.int .u64 0,.int .u64 0,.int .u64 0,.int .u64 0,.int .u64 0,.int .u64 0,.bool true,.int .u64 6481385041966929816,.int .u64 188021827762530521,.int .u64 6170039885052185351,.int .u64 8772561819708210092,.int .u64 11261198710074299576,.int .u64 18237243440184513561,.int .u64 6747795201694173352,.int .u64 5204712524664259685,.bool false,.int .u64 1420851491321734845,.int .u64 17831107051473821267,.int .u64 9413108694239768267,.int .u64 3684740546510474789,.int .u64 2662650928131781280,.int .u64 2883981885275847414,.int .u64 13812568353696053687,.int .u64 6261982155919216373,.bool false,.int .u64 15899977345824264746,.int .u64 10310977140856296777,.int .u64 11207366575403998835,.int .u64 6359047324193118621,.int .u64 17566133796674529988,.int .u64 12990217113396622202,.int .u64 11498484616657520550,.int .u64 12377619311449439617,.bool false,.int .u64 1980251557031362778,.int .u64 16756863388851544885,.int .u64 10536665754535663150,.int .u64 10333713660726959923,.int .u64 17455036783537422210,.int .u64 13540684701581249533,.int .u64 16005107816708579677,.int .u64 7361871559633811846,.bool false,.int .u64 7189408038385401609,.int .u64 3397911576708611646,.int .u64 15755510341721275955,.int .u64 10029532112266168108,.int .u64 2794201169108470329,.int .u64 645887947755712873,.int .u64 4931174713096550634,.int .u64 2084093948640608460,.bool false,.int .u64 13409131895327723632,.int .u64 13557674625938030135,.int .u64 16275355937442695028,.int .u64 10417438954465452788,.int .u64 7293935616499679818,.int .u64 492937957765346492,.int .u64 10164659162491674973,.int .u64 8870125298128062633,.bool false,.int .u64 2004001076105038188,.int .u64 16429338166490924218,.int .u64 7175890133001917215,.int .u64 2223946649134373680,.int .u64 11607770873604919198,.int .u64 16469900164231123228,.int .u64 17820852538206705865,.int .u64 3593937562733081572,.bool false,.int .u64 9168019297763648179,.int .u64 8816075333918259626,.int .u64 16698866808444609825,.int .u64 16908283155265469882,.int .u64 15310641167265880381,.int .u64 118986287662202457,.int .u64 14310892571121527386,.int .u64 13705150676395077690,.bool false,.int .u64 14927491246908460401,.int .u64 7831616176396585010,.int .u64 7930523596402033902,.int .u64 1588839342659650953,.int .u64 11339471586115939981,.int .u64 16425424334562750990,.int .u64 15075671426733661378,.int .u64 7575269483820816097,.bool false,.int .u64 4535017717314283025,.int .u64 18324438745077743535,.int .u64 5056040120946383205,.int .u64 1658127573194323653,.int .u64 18133035535924747499,.int .u64 7907431880967346421,.int .u64 616581366411006705,.int .u64 5083473095128411264,.bool false,.int .u64 12974736144201180682,.int .u64 14233411227978841142,.int .u64 4358153212020372812,.int .u64 5535954442660912120,.int .u64 17932457956034059440,.int .u64 8797357280977563443,.int .u64 6299842666943100343,.int .u64 15194586070186118748,.bool false,.int .u64 11141354014620826376,.int .u64 16302009388481732731,.int .u64 11549703435712443592,.int .u64 5591798971743609489,.int .u64 4790527292956897940,.int .u64 2208919640261539277,.int .u64 10755772759211753487,.int .u64 10139908581434562394,.bool false,.int .u64 4842478844822015847,.int .u64 7871910055282529227,.int .u64 4913385500608987935,.int .u64 7658758276064820865,.int .u64 17746207337886912328,.int .u64 6914052845562847217,.int .u64 319430231399701416,.int .u64 6309225354493542970,.bool false,.int .u64 13328850565126430375,.int .u64 13836286430769822485,.int .u64 14156113016990819452,.int .u64 15606204522890601161,.int .u64 445235178004499157,.int .u64 14633306866648641082,.int .u64 14566925108793696681,.int .u64 12649050125856105564,.bool false,.int .u64 9802307101542363618,.int .u64 171895469969889910,.int .u64 13186539695484122475,.int .u64 5971251091201341552,.int .u64 10817436025753510378,.int .u64 9901272048312714221,.int .u64 1150727803770249706,.int .u64 4190332752231381211,.bool false])) }
theorem Bv {X:List Int} (h:hx.Wfb X):Bys X:=fun x hx=>by
 have:=h x hx
 simp [Lit.wf,IntKind.min,IntKind.max,IntKind.signed,IntKind.bits] at this
 exact ⟨by omega,by omega⟩
theorem Df {W:World} (h:laidMetH Tryz.prog Rows.accessSelfRow.laid W):KtC W∧Mds W∧ar W∧ShT W:=by
 have h0:laidMet Tryz.prog Rows.accessSelfRow.laid W:=h
 have h1:=h0.tail
 have h2:=h1.tail
 have h3:=h2.tail
 have h4:=h3.tail
 have h5:=h4.tail
 exact ⟨⟨K.tab_of K.g_turns (Lib.tabIs_of_head K.g_turns K.t_turns Tryz.underlying179 Tryz.underlying3 K.cellsI K.cellsT h0),K.lns_of K.g_marks (Lib.tabIs_of_head K.g_marks K.t_marks Tryz.underlying162 Tryz.underlying22 K.Tryz.cellsW K.cells24 h1)⟩,Cu (tG h4),tH h5,⟨S.first_of S.g_first (Lib.tabIs_of_head S.g_first S.t_first Tryz.underlying147 Tryz.underlying146 S.cellsU S.cells8 h2),S.steps_of S.g_steps (Lib.tabIs_of_head S.g_steps S.t_steps Tryz.underlying180 Tryz.underlying146 S.cellsU S.cells64 h3)⟩⟩
theorem zE (H:Type) (enc:TypeId×Value→H) (W:World) (base:Nat) (args:Array Value) (ds gs:List (DataW H)) (before:List MemPlace)
  (hval:∀ (j:Nat) t v,Tryz.f3.params[j]?=some t→args[j]?=some v→Value.okWide Tryz.prog W .any base t v)
  (hW:DataW.Whole enc Tryz.prog Tryz.f3.params.toList Rows.accessSelfSpec.vars false W args.toList ds gs before)
  (hwt0:(DataW.weightsEach Tryz.prog (Tryz.f3.params.toList++(OpenSpec.ofChange Rows.accessSelfSpec).bare.plain.varTypes Tryz.prog) (ds++gs)).all (· ≤ reachBytes)=true) (hL:laidMetH Tryz.prog Rows.accessSelfRow.laid W) :
  Calls Tryz.prog 3 args W fun e W'=>∃ v,e = .returned v∧Rows.accessSelfSpec.post enc Tryz.prog Tryz.f3 false true false false W args v W':=by
 have hW':=hW
 obtain ⟨p,q,hA0,hV,rfl,hfz,hnd⟩:=hW
 have hA:DataW.TrodAll enc Tryz.prog W 0 (fun _=>true) true Tryz.f3.params.toList args.toList ds p:=hA0
 rw [Tryz.params3] at hA hval hwt0
 obtain ⟨v0,vs0,d0,ds0,p0,q0,hargs0,rfl,rfl,h0,r0⟩:=trodAll_cons hA
 obtain ⟨v1,vs1,d1,ds1,p1,q1,hargs1,rfl,rfl,h1,r1⟩:=trodAll_cons r0
 subst hargs1
 obtain ⟨rfl,rfl,rfl⟩:=trodAll_nil r1
 obtain rfl:args=#[v0,v1]:=Array.toList_inj.1 hargs0
 obtain ⟨rfl,rfl⟩:=trodVars_none hV
 have hwt:=hwt0
 have k0:=h0
 obtain ⟨c0,A0,n0,pa0,R0,S0,nc0,lA0,wA0,wn0,rfl⟩:=Bu (hval 0 28 v0 rfl rfl) h0
 have k1:=h1
 obtain ⟨x1,m1,rfl,rfl,rfl⟩:=yp (hval 1 24 v1 rfl rfl) h1
 clear hA0
 simp only [List.append_nil] at hW'
 have hlt:∀ x∈(p0),x.block<W.heap.size:=fun x hx=>by simpa using hW'.lt x (by simpa using hx)
 obtain ⟨hK,hM,hC,hS⟩:=Df hL
 refine (wN (p:=pa0) (r0:=R0) (s0:=S0) m1 nc0 lA0 (Bv wA0) wn0 W hM hC hS hK).mono fun e W' ⟨he,hg⟩=>?_
 subst he
 exact ⟨_,rfl,_,_,_,[],_,[],hW',trodAll_mk1 (shut_bool Tryz.underlying4 _),trodAll_mk2 (Below.trod tt.laidOut (by kernel_rfl) (of_decide_eq_true (by kernel_rfl)) k0 hg (fun x hx=>hlt x (by simp [hx]))) (yq x1),rfl,hg.frame _,fun h=>by cases h⟩
theorem zF (os:Os):laidMet Tryz.prog Rows.accessSelfRow.laid ((jK os).forCall (fun _ _=>0) ⟨#[],#[zAu,.agg #[.int .u64 0,.int .u64 0,.int .u64 0,.int .u64 0]],[]⟩).memory :=
 laidMet_of_run' 8 (by kernel_rfl) (by kernel_rfl)
theorem reads (os:Os) {H:Type} (enc:TypeId×Value→H):∃ places,DataW.whole enc Tryz.prog ((jK os).forCall (fun _ _=>0) ⟨#[],#[zAu,.agg #[.int .u64 0,.int .u64 0,.int .u64 0,.int .u64 0]],[]⟩).memory Tryz.f3.params.toList Rows.accessSelfSpec.vars false #[zAu,Value.agg #[.int .u64 0,.int .u64 0,.int .u64 0,.int .u64 0]].toList 8=some ([.agg [.agg [.lit (.int .u64 0),.lit (.int .u64 0),.lit (.int .u64 0),.lit (.int .u64 0)],.agg (List.replicate 20 (.lit (.int .u8 0))),.lit (.int .u64 0),.lit (.int .u64 0),.agg [.lit (.int .u64 0),.lit (.int .u64 0),.lit (.int .u64 0),.lit (.int .u64 0)],.agg [.lit (.int .u64 0),.lit (.int .u64 0),.lit (.int .u64 0),.lit (.int .u64 0)]],.agg [.lit (.int .u64 0),.lit (.int .u64 0),.lit (.int .u64 0),.lit (.int .u64 0)]],[],places) :=
 ⟨[],by kernel_rfl⟩
theorem Dg (os:Os) (started:os.Started) (H:Type) (enc:TypeId×Value→H) (F:Stop.Interp) :
  ReturnsInHanded {} Tryz.checked os 3 .any ((OpenSpec.ofChange Rows.accessSelfSpec).preRow enc Tryz.prog Tryz.f3 Rows.accessSelfRow.domain false Rows.accessSelfRow.laid) (((OpenSpec.ofChange Rows.accessSelfSpec).at F).post enc Tryz.prog Tryz.f3 false true false false):=by
 obtain ⟨places,hx⟩:=reads os enc
 refine returnsInHanded_of_row (C:=Tryz.checked) (s:=OpenSpec.ofChange Rows.accessSelfSpec) tt.ownT started (by kernel_rfl) Tryz.func3
  (witness_row_at (enc:=enc) (C:=Tryz.checked) false (jK os) #[zAu,.agg #[.int .u64 0,.int .u64 0,.int .u64 0,.int .u64 0]] rfl (by kernel_rfl) (by kernel_rfl) (by kernel_rfl)
   (OpenSpec.preRow_of_cond 8 hx (by kernel_rfl) (fun k hk=>by cases hk) (by kernel_rfl) (zF os))) ?_
 intro W base args ds gs before hval hW _ _ hwt hL _ _
 exact zE H enc W base args ds gs before hval hW hwt hL
theorem said:Rows.AccessSelfSaid :=
 OpenClaim.holds_of_cond 3 Tryz.f3 rfl rfl rfl rfl rfl rfl rfl ⟨rfl,rfl,rfl,rfl,rfl⟩ rfl rfl rfl rfl rfl (by kernel_rfl) Tryz.func3 (by kernel_rfl)
  (of_decide_eq_true (by kernel_rfl)) (by unfold Func.isWrapper;first|(rw [if_pos (by decide +kernel)];kernel_rfl)|(rw [if_neg (by decide +kernel)];exact ⟨rfl,rfl⟩))
  (fun os started H enc _ F=>by rw [OpenClaim.pre_eq_preRow];exact Dg os started H enc F)
theorem plain (f : FuncId) (fn : Func) (hf : Tryz.pinned.checked.prog.funcNamed "waybill/waybilllaw14.AccessSelf" = some f) (hfn : Tryz.pinned.checked.prog.funcs[f]? = some fn) :
  false=Tryz.pinned.checked.prog.looks []∧∀ (j:Nat) t,fn.params[j]?=some t→Tryz.pinned.checked.prog.wantsStandIn t=false:=by
 obtain rfl : f = 3 := Option.some.inj ((show Tryz.prog.funcNamed "waybill/waybilllaw14.AccessSelf" = some 3 by kernel_rfl).symm.trans hf) |>.symm
 obtain rfl:fn=Tryz.f3:=(Option.some.inj (Tryz.func3.symm.trans hfn)).symm
 refine ⟨by kernel_rfl,fun j t ht=>?_⟩
 rw [Tryz.params3] at ht
 have hm:t=28∨t=24:=by simpa using Array.mem_of_getElem? ht
 rcases hm with rfl|rfl
 ·exact (show Tryz.prog.wantsStandIn 28=false by kernel_rfl)
 ·exact (show Tryz.prog.wantsStandIn 24=false by kernel_rfl)
end Go.Proofs.YtjoandmehahfgaaGreatDoor.accessself
namespace Go.Proofs.YtjoandmehahfgaaGreatDoor
theorem accessSelf_card:Rows.AccessSelfCardSaid :=
 Claim7.holds_tied_plain_at .later [] _ _ _ _ accessself.said (fun _ h=>by cases h) (by kernel_rfl) (fun _ h=>by cases h) accessSelf_row_tie rfl ⟨rfl,rfl⟩ (by kernel_rfl) rfl accessself.plain (by kernel_rfl)
#print axioms accessSelf_card
end Go.Proofs.YtjoandmehahfgaaGreatDoor

import Derived.Test.YtjoandmehahfgaaGreatDoorFLaid
import Derived.Test.YtjoandmehahfgaaGreatDoorCSumK
import Derived.Test.YtjoandmehahfgaaGreatDoorRefNum
import Derived.Test.YtjoandmehahfgaaGreatDoorAb
import Derived.Test.YtjoandmehahfgaaGreatDoorFExp
import Derived.Test.YtjoandmehahfgaaGreatDoorMul2
import Derived.Test.YtjoandmehahfgaaGreatDoorFFermat
import Derived.Test.YtjoandmehahfgaaGreatDoorLen
set_option maxRecDepth 100000
set_option maxHeartbeats 16000000
namespace Go.Proofs.YtjoandmehahfgaaGreatDoor
open Go.ChangeShapes Go.WideShapes Go.ChangeAt Go.RowKit
def fe:List PP:=[⟨0,0,true⟩,⟨55066263022277343669578718895168534326250603453777594175500187360389116729240,32670510020758816978083085130507043184471273380659243275938904335757337482424,false⟩,⟨23129491278950567785970148376500648032717531886785241126168611397589814798013,39307099057880941662675806615359097347682728603444928455093651353540932186784,false⟩,⟨39916386994098653651340504623184494026505192778969232963776799277217860096554,77695575659854970078381054308384608904162856086065395460454541130246870330052,false⟩,⟨64865771952738249789114440545196421582918768733599534045195125031385885360346,46211216742671250426576585530459394900178019437443360579906162037052661563266,false⟩,⟨62956393427022405755976450133369655038099213677278627754557760022799719382793,13082069741720843297365566874415150979823939205374148607908286415326657186361,false⟩,⟨65391324139359902950779012657131823058897528274710599622587298727820162666608,55678678901976961034851141171099683764042537219738814451396256789998919516746,false⟩,⟨13959939370688770666325487670456658803530339548113069433768761465106690066796,22559511711903204205497612652453239942677781895148685816390096527086096797598,false⟩,⟨106135013536326263233204638779771538367307463662639765758785315935371743257267,86028625094535483850261571256264386723357163272666519397289099603747119225149,false⟩,⟨9973306195059528124901308192896912065301586738602818704047887158603589307761,47550737222913410146990392887207170422081805466962992704415224560240471273101,false⟩,⟨10408235467190594532658284160018661939053509590544244223895117989310080411153,31909477787222051652620693503372063818611156939026073808841074749836050586859,false⟩,⟨34749749239048416579065784309763412727789817042898663625618004329631146599946,95377962589647571915918767430902259246364047745309528926564157501801400736944,false⟩,⟨35100291029465268200104524632206498974746160643734379820053186096493468629768,63649237753185187991497345968307015122086344167628790568404068702224870699668,false⟩,⟨48074804865593590526050057954317924768207876745616920563143825738670412255079,39603649421637064702680441919339022540018356677245678064840325639551216127816,false⟩,⟨97961733493436058853212079277933719455846400536489600403051700625241492430503,79399374496004472965547648531290568228943717215858104057923735338968170318549,false⟩,⟨37482150587009552227874965502370530439116956499492586127545708378008971686370,26303144990879249190765029698997677228786829604307054541955121827041411670506,false⟩]
def cD (q:PP):DataW Unit:=.agg [Lib.tabData .u64 [l0 q.x,l1 q.x,l2 q.x,l3 q.x],Lib.tabData .u64 [l0 q.y,l1 q.y,l2 q.y,l3 q.y],.lit (.bool q.i)]
def ar (W:World):Prop:=Pts W 0 0 fe
theorem q5:Tryz.prog.cellsOf 40=9:=by kernel_rfl
theorem sL:Tryz.prog.cellsOf 4=1:=by kernel_rfl
theorem o6 : Tryz.prog.globalNamed "waybill/curve.columns" = some 0 := by kernel_rfl
theorem vR:(Tryz.prog.globals[0]?).map (·.type)=some 89:=by kernel_rfl
theorem vS:(Rows.laid_waybill_curve_columns:DataW Unit) = .agg (fe.map cD):=by kernel_rfl
theorem nine {H:Type} {enc:TypeId×Value→H} {w:World} {base:Nat} {sp:Nat→Bool} {held:Bool} {fuel:Nat} {cs:List Value} {z1 z2:List Int} {b:Bool} {p:List MemPlace}
  (h:DataW.trod enc Tryz.prog w base sp held fuel 40 cs=some (.agg [Lib.tabData .u64 z1,Lib.tabData .u64 z2,.lit (.bool b)],p)):cs=(z1.map fun z=>Value.int .u64 z)++((z2.map fun z=>Value.int .u64 z)++[.bool b]):=by
 obtain ⟨xs,m,rfl,hx,hl,hn,hi⟩:=DataW.trod_struct Tryz.underlying40 h
 have hxs:xs.map (·.1)=[Lib.tabData .u64 z1,Lib.tabData .u64 z2,.lit (.bool b)]:=by
  have:=congrArg Prod.fst hx
  simpa using this.symm
 match xs,hxs with
 | [(_,p1),(_,p2),(_,p3)],hxs =>
  simp only [List.map_cons,List.map_nil,List.cons.injEq,and_true] at hxs
  obtain ⟨rfl,rfl,rfl⟩:=hxs
  have a:List.take (Tryz.prog.cellsOf 24) (List.drop 0 cs)=z1.map fun z=>Value.int .u64 z:=four (hi 0 _ rfl)
  have c:List.take (Tryz.prog.cellsOf 24) (List.drop 4 cs)=z2.map fun z=>Value.int .u64 z:=four (hi 1 _ rfl)
  have d:DataW.trod enc Tryz.prog w base sp held m 4 (List.take (Tryz.prog.cellsOf 4) (List.drop 8 cs))=some (.lit (.bool b),p3):=hi 2 _ rfl
  obtain ⟨b',e,hb⟩:=DataW.trod_bool Tryz.underlying4 d
  simp only [Prod.mk.injEq,DataW.lit.injEq,Lit.bool.injEq] at hb
  obtain ⟨rfl,_⟩:=hb
  rw [sL] at e
  rw [lu] at a c
  rw [q5] at hl
  rw [List.drop_zero] at a
  rw [←a,←c,←e]
  rw [show List.take 1 (List.drop 8 cs)=List.drop 8 cs from List.take_of_length_le (by simp;omega),show List.drop 8 cs=List.drop 4 (List.drop 4 cs) by rw [List.drop_drop],List.take_append_drop,List.take_append_drop]
theorem AB {W : World} {ps : List MemPlace} {r : List (String × DataW Unit)} (h : DataW.LaidVars Tryz.prog W (("waybill/curve.columns", Rows.laid_waybill_curve_columns) :: r) ps) : ar W := by
 obtain ⟨g,t,cs,fuel,p,q,h1,h2,h3,h4,_,_⟩:=h
 obtain rfl:0=g:=Option.some.inj (o6.symm.trans h1)
 obtain rfl:89=t:=Option.some.inj (vR.symm.trans h2)
 rw [vS] at h4
 obtain ⟨xs,m,rfl,hx,hl,hn,hi⟩:=DataW.trod_array Tryz.underlying89 h4
 have hxs:xs.map (·.1)=fe.map cD:=by
  have:=congrArg Prod.fst hx
  simp only [DataW.agg.injEq] at this
  exact this.symm
 intro k hk
 have hk16:k<16:=hk
 have hcell:=fun j=>World.var?_cell o6 h3 (k*9+j)
 have hx1:=hi k (by simpa using hk16)
 have hxk:xs[k]?=(xs[k]?.map fun x=>(cD (fe.getD k ⟨0,0,true⟩),x.2)):=by
  have e1:(xs.map (·.1))[k]?=(fe.map cD)[k]?:=by rw [hxs]
  rw [List.getElem?_map,List.getElem?_map] at e1
  cases hv:xs[k]? with
  | none=>rfl
  | some v =>
   rw [hv] at e1
   have hk':k<fe.length:=hk
   rw [List.getElem?_eq_getElem hk'] at e1
   simp only [Option.map_some,Option.some.injEq] at e1
   simp only [Option.map_some,Option.some.injEq,List.getD,List.getElem?_eq_getElem hk',Option.getD_some]
   rw [←e1]
 rw [hxk,List.getElem?_eq_getElem (by omega)] at hx1
 generalize fe.getD k ⟨0,0,true⟩=q at *
 have hv:=nine hx1
 rw [q5] at hv
 have get:∀ j,j<9→W.cell? ⟨0,0+k*9+j,none⟩=(List.take 9 (List.drop (k*9) cs.toList))[j]?:=fun j hj=>by
  rw [Nat.zero_add,hcell j,List.getElem?_take,if_pos hj,List.getElem?_drop,Array.getElem?_toList]
 rw [hv] at get
 exact ⟨get 0 (by omega),get 1 (by omega),get 2 (by omega),get 3 (by omega),get 4 (by omega),get 5 (by omega),get 6 (by omega),get 7 (by omega),get 8 (by omega)⟩
open Go.RowKit Go.Sort
namespace EC
def isPt (t:J) (u v:F):Bool:=decide (t.z≠0)&&decide (t.x=u*(t.z*t.z))&&decide (t.y=v*(t.z*t.z*t.z))
theorem isPt_pt {t:J} {u v:F} (h:isPt t u v=true):t.pt = .a u v:=by
 unfold isPt at h
 simp only [Bool.and_eq_true,decide_eq_true_eq] at h
 exact pt_of h.1.1 h.1.2 h.2
theorem step_pt {g q:Pt} (hg:On g) (hq:On q) (A B c d:Nat) :
  (((((smul A g).add (smul B q)).add ((smul A g).add (smul B q))).add (smul d q)).add (smul c g))=(smul (2*A+c) g).add (smul (2*B+d) q):=by
 have a:=smul_on hg A;have b:=smul_on hq B;have hc:=smul_on hg c;have hd:=smul_on hq d
 rw [Pt.four a b a b,←smul_add hg,←smul_add hq,show A+A=2*A by omega,show B+B=2*B by omega]
 have a2:=smul_on hg (2*A);have b2:=smul_on hq (2*B)
 rw [Pt.assoc a2 b2 hd,←smul_add hq,Pt.assoc a2 (smul_on hq _) hc,Pt.comm (smul_on hq _) hc,←Pt.assoc a2 hc (smul_on hq _),←smul_add hg]
end EC
def BJ (c:Nat):Bool :=
 let q:=fe.getD c ⟨0,0,true⟩
 !q.i&&EC.isPt (EC.jm 193 (EC.colK c) EC.gJ) (EC.fp q.x) (EC.fp q.y)&&decide (0≤q.x)&&decide (q.x<pN)&&decide (0≤q.y)&&decide (q.y<pN)
theorem AC:(List.range 15).all (fun c=>BJ (c+1))=true:=by decide +kernel
theorem AE (c:Nat):EC.colK c<2 ^ 193:=by
 have h1:=Nat.mod_lt c (show 0<2 by decide)
 have h2:=Nat.mod_lt (c/2) (show 0<2 by decide)
 have h3:=Nat.mod_lt (c/4) (show 0<2 by decide)
 have h4:=Nat.mod_lt (c/8) (show 0<2 by decide)
 unfold EC.colK
 rw [show (2:Nat) ^ 193=12554203470773361527671578846415332832204710888928069025792 by decide]
 omega
theorem ys {c:Nat} (hc:c<16):Vd (fe.getD c ⟨0,0,true⟩).x (fe.getD c ⟨0,0,true⟩).y (fe.getD c ⟨0,0,true⟩).i∧(fe.getD c ⟨0,0,true⟩).pt=EC.smul (EC.colK c) EC.gJ.pt:=by
 cases c with
 | zero=>exact ⟨⟨rfl,rfl⟩,rfl⟩
 | succ c =>
  have h:=List.all_eq_true.1 AC c (List.mem_range.2 (by omega))
  unfold BJ at h
  generalize fe.getD (c+1) ⟨0,0,true⟩=q at *
  obtain ⟨x,y,i⟩:=q
  simp only [Bool.and_eq_true,decide_eq_true_eq,Bool.not_eq_true'] at h
  obtain ⟨⟨⟨⟨⟨h1,h2⟩,h3⟩,h4⟩,h5⟩,h6⟩:=h
  subst h1
  have e:bD x y false=EC.smul (EC.colK (c+1)) EC.gJ.pt:=by
   rw [←EC.jm_pt EC.gJ_on 193 _ (AE _)]
   exact (EC.isPt_pt h2).symm
  exact ⟨⟨⟨h3,h4⟩,⟨h5,h6⟩,by rw [e];exact EC.smul_on EC.gJ_on _⟩,e⟩
open Go.RowKit Go.Sort
def Nm (W:World) (b:Nat) (n:Int):Prop:=Cl W b [.int .u64 (l0 n),.int .u64 (l1 n),.int .u64 (l2 n),.int .u64 (l3 n)]
theorem Nm.keep {W w1:World} {b:Nat} {n:Int} (h:Nm W b n) (hb:Below W.heap.size W w1):Nm w1 b n:=Cl.keep h hb
theorem Nm.cells {W:World} {b:Nat} {n:Int} (h:Nm W b n):W.cell? ⟨b,0,none⟩=some (.int .u64 (l0 n))∧W.cell? ⟨b,1,none⟩=some (.int .u64 (l1 n))∧W.cell? ⟨b,2,none⟩=some (.int .u64 (l2 n))∧W.cell? ⟨b,3,none⟩=some (.int .u64 (l3 n)):=⟨h 0 (by simp),h 1 (by simp),h 2 (by simp),h 3 (by simp)⟩
theorem Nm.grown {W:World} {b:Nat} {n:Int} (h:Nm W b n):∀ d os,(grow (redrawn W d) os).cell? ⟨b,0,none⟩=some (.int .u64 (l0 n))∧(grow (redrawn W d) os).cell? ⟨b,1,none⟩=some (.int .u64 (l1 n))∧(grow (redrawn W d) os).cell? ⟨b,2,none⟩=some (.int .u64 (l2 n))∧(grow (redrawn W d) os).cell? ⟨b,3,none⟩=some (.int .u64 (l3 n)):=fun d os=>(h.keep (below_regrown W d os)).cells
theorem Nm.alloc {W:World} {b:Nat} {n:Int} (h:Nm W b n) (ob:Obj):Nm (W.alloc ob) b n:=h.keep ((Below.refl _ _).alloc (Nat.le_refl _) ob)
theorem aR.put {W:World} {b b':Nat} (h:aR W b) (ne:b'≠b) (x' y' z':Int):aR (fd W b' x' y' z') b:=⟨h.1.put ne x' y' z',by unfold fd;exact ((((((((((((h.2.set _ _).set _ _).set _ _).set _ _).set _ _).set _ _).set _ _).set _ _).set _ _).set _ _).set _ _).set _ _)⟩
theorem ar.lt {W:World} (h:ar W):0<W.heap.size:=World.block_lt_of_cell? W ⟨0,0+0*9,none⟩ (h 0 (by decide)).1
theorem Pts.cells_put {W:World} {b o b':Nat} {L:List PP} (h:Pts W b o L) (ne:b'≠b) (vs:List Value) (k:Nat):Pts (W.setCells b' k vs) b o L:=by
 induction vs generalizing W k with
 | nil=>exact h
 | cons v r ih=>exact ih (h.set ne v) (k+1)
theorem kt {a:Int} {b k A B:Nat} {q s t u v:EC.Pt} (hq:EC.On q) (es:s=(EC.smul A EC.gJ.pt).add (EC.smul B q)) (et:t=s.add s) {c d:Nat} (eu:u=t.add (EC.smul d q)) (ev:v=u.add (EC.smul c EC.gJ.pt))
  (ea:aAt a k=2*A+c) (eb:bAt b k=2*B+d):v=(EC.smul (aAt a k) EC.gJ.pt).add (EC.smul (bAt b k) q):=by
 rw [ev,eu,et,es,EC.step_pt EC.gJ_on hq,ea,eb]
theorem q6 {a b x y:Int} {i:Bool} {f:Nat→T3} (hb:Num b) (hv:Vd x y i) (hf:∀ k,(f k).Low∧(f k).j.pt=EC.smul k (bD x y i))
    (CM:Hid (∀ w,Mds w→Rt 40 #[P9 x y i] w (.agg (d8 (aS f 16)).toArray))) (ha:Num a) (w:World) (hm:Mds w) (hc:ar w) :
    Calls Tryz.prog 18 #[U4 a,U4 b,P9 x y i] w fun e w'=>∃ x' y' z',EC.Low x'∧EC.Low y'∧EC.Low z'∧(J3 x' y' z').pt=(EC.smul a.toNat EC.gJ.pt).add (EC.smul b.toNat (bD x y i))∧e = .returned (.agg #[.int .u64 (l0 x'),.int .u64 (l1 x'),.int .u64 (l2 x'),.int .u64 (l3 x'),.int .u64 (l0 y'),.int .u64 (l1 y'),.int .u64 (l2 y'),.int .u64 (l3 y'),.int .u64 (l0 z'),.int .u64 (l1 z'),.int .u64 (l2 z'),.int .u64 (l3 z')])∧Below w.heap.size w w':=by
  have HQ:Hid (EC.On (bD x y i)):=hv.on
  have HF:Hid (∀ k,(f k).Low∧(f k).j.pt=EC.smul k (bD x y i)):=hf
  have HB:Hid (Num b):=hb
  have HA:Hid (Num a):=ha
  clear hv hf hb ha
  go_enter Tryz.func18,Tryz.ntmps18
  go_wp2_with fail
  refine aa (fun W=>Below w.heap.size w W∧Mds W∧ar W∧Nm W w.heap.size a∧Nm W (w.heap.size+1) b∧aR W (w.heap.size+1+1+1))
    ⟨by repeat (first|with_reducible exact Below.refl _ _|with_reducible refine Below.alloc ?_ (by first|omega|(simp;done)|(simp;omega)) _),(((hm.alloc _).alloc _).alloc _).alloc _,(((Pts.alloc hc _).alloc _).alloc _).alloc _,(((Cl.new _ rfl rfl).alloc _).alloc _).alloc _,((Cl.new _ (by simp) rfl).alloc _).alloc _,aR.new (by simp)⟩ ?_
  rintro W ⟨B,hD,hC,hA,hB,hR⟩
  have ob:w.heap.size≤w.heap.size+1:=by omega
  have or:w.heap.size≤w.heap.size+1+1+1:=by omega
  generalize w.heap.size+1+1+1=br at *
  generalize w.heap.size+1=bb at *
  with_reducible refine (CM.out _ hD).mono ?_
  rintro e w1 ⟨rfl,hb⟩
  replace B:=B.trans (hb.mono B.size)
  replace hD:=hD.keep hb;replace hC:=Pts.keep hC hb;replace hA:=hA.keep hb;replace hB:=hB.keep hb;replace hR:=hR.keep hb
  clear hb W CM
  have sz:((d8 (aS f 16)).toArray).size=192:=by simp [iF,cE]
  have tr:(w1.alloc (.cells Tryz.zeroCells83 83)).there w1.heap.size 0 ((d8 (aS f 16)).toArray).size:=by rw [sz];exact (bH.new rfl).there (lq (n:=192) rfl) (by simp) (by simp)
  have oc:=all_oneCell_toArray (nI (aS f 16))
  have rg:bH ((w1.alloc (.cells Tryz.zeroCells83 83)).setCells w1.heap.size 0 (d8 (aS f 16))) w1.heap.size (aS f 16):=World.rangeAt_setCells_same _ _ _ _ (by simpa using tr)
  have gw:w.heap.size≤w1.heap.size:=B.size
  have FF:Hid (let V:=(w1.alloc (.cells Tryz.zeroCells83 83)).setCells w1.heap.size 0 (d8 (aS f 16));Below w.heap.size w V∧Mds V∧ar V∧Nm V w.heap.size a∧Nm V bb b∧aR V br∧bH V w1.heap.size (aS f 16)) :=
    ⟨dY (B.alloc B.size _) gw _ _,(hD.alloc _).cells_put (Nat.ne_of_gt hD.lt) _ _,Pts.cells_put (Pts.alloc hC _) (Nat.ne_of_gt (ar.lt hC)) _ _,Cl.cells_put (hA.alloc _) (Nat.ne_of_gt (Cl.lt hA (by simp))) _ _,Cl.cells_put (hB.alloc _) (Nat.ne_of_gt (Cl.lt hB (by simp))) _ _,⟨Cl.cells_put (hR.alloc _).1 (Nat.ne_of_gt hR.lt) _ _,(hR.alloc _).2.cells_put _ _⟩,rg⟩
  clear rg B hD hC hA hB hR
  go_wp2_with (refine wpList_store_mid rfl 83 _ _ rfl w1.heap.size 0 (d8 (aS f 16)).toArray rfl rfl tr (by rw [sz];kernel_rfl) oc ?_;refine aF (fun W=>Below w.heap.size w W∧Mds W∧ar W∧Nm W w.heap.size a∧Nm W bb b∧aR W br∧bH W w1.heap.size (aS f 16)) FF.out ?_;clear FF tr oc sz;rintro W ⟨B,hD,hC,hA,hB,hR,hF⟩)
  generalize w1.heap.size=bf at *
  clear gw w1
  refine ah (fun W'=>Below w.heap.size w W'∧Mds W'∧ar W'∧Nm W' w.heap.size a∧Nm W' bb b∧aR W' br∧bH W' bf (aS f 16)∧TV W' W.heap.size 0 0 0) ⟨B.alloc B.size _,hD.alloc _,Pts.alloc hC _,hA.alloc _,hB.alloc _,hR.alloc _,hF.alloc _,(aR.new rfl).tv⟩ ?_
  have os:w.heap.size≤W.heap.size:=B.size
  have nd:W.heap.size≠1:=Nat.ne_of_gt hD.lt
  have nc:W.heap.size≠0:=Nat.ne_of_gt (ar.lt hC)
  have na:W.heap.size≠w.heap.size:=Nat.ne_of_gt (Cl.lt hA (by simp))
  have nb:W.heap.size≠bb:=Nat.ne_of_gt (Cl.lt hB (by simp))
  have nr:W.heap.size≠br:=Nat.ne_of_gt hR.lt
  have nf:W.heap.size≠bf:=Nat.ne_of_gt (hF.lt (by rw [cE];decide))
  clear B hD hC hA hB hR hF
  generalize W.heap.size=bs at *
  clear W
  rintro W ⟨B,hD,hC,hA,hB,hR,hF,hS⟩
  go_loopg [9] 256 (fun k iv wr=>∃ n:Nat,k=n∧n≤256∧iv = .int .i64 ((n:Int)-1)∧Below w.heap.size w wr∧Mds wr∧ar wr∧Nm wr w.heap.size a∧Nm wr bb b∧aR wr br∧bH wr bf (aS f 16)∧∃ sx sy sz,EC.Low sx∧EC.Low sy∧EC.Low sz∧(J3 sx sy sz).pt=(EC.smul (aAt a n) EC.gJ.pt).add (EC.smul (bAt b.toNat n) (bD x y i))∧TV wr bs sx sy sz)
  case atStart =>
    refine ⟨256,rfl,by decide,rfl,B,hD,hC,hA,hB,hR,hF,0,0,0,gh,gh,gh,?_,hS⟩
    rw [ke a (by decide),zY (by have:=HB.out.1;have:=HB.out.2;omega)]
    exact EC.pt_o EC.fp_zero
  case round =>
    clear B hD hC hA hB hR hF hS W
    obtain ⟨n,hk,hn,hiv,B,hD,hC,hA,hB,hR,hF,sx,sy,sz,lx,ly,lz,es,hS⟩:=hrel
    cases n with
    | zero =>
      rw [xy HA.out,xz] at es
      have HE:Hid ((J3 sx sy sz).pt=(EC.smul a.toNat EC.gJ.pt).add (EC.smul b.toNat (bD x y i))):=es
      have HL:Hid (EC.Low sx∧EC.Low sy∧EC.Low sz):=⟨lx,ly,lz⟩
      rw [show (((0:Nat):Int)-1) = -1 by rfl] at hiv
      subst hiv
      clear es lx ly lz hD hC hA hB hF hn
      have gS:=hS.1.cells;have gR:=hR.cells;have fR:=hR.free
      go_wp2
      refine bodyPost_ret (v:=.agg #[.int .u64 (l0 sx),.int .u64 (l1 sx),.int .u64 (l2 sx),.int .u64 (l3 sx),.int .u64 (l0 sy),.int .u64 (l1 sy),.int .u64 (l2 sy),.int .u64 (l3 sy),.int .u64 (l0 sz),.int .u64 (l1 sz),.int .u64 (l2 sz),.int .u64 (l3 sz)]) ?_ rfl ⟨sx,sy,sz,HL.out.1,HL.out.2.1,HL.out.2.2,HE.out,rfl,?_⟩
      · simp [results,Tryz.results18,go_sem,gR]
      · repeat (first|with_reducible exact B|with_reducible refine Below.setCell ?_ or _)
    | succ k =>
      rw [show (((k+1:Nat):Int)-1)=(k:Int) by omega] at hiv
      subst hiv
      have hk256:k<256:=by omega
      have hk0:(0:Int)≤(k:Int):=by omega
      by_cases h4:k%4=0
      · have t4:(k:Int).tmod 4=0:=by rw [Int.tmod_eq_emod_of_nonneg hk0];omega
        by_cases h6:k<64
        · have h64:(k:Int)<64:=by omega
          obtain ⟨b1,b2,b3,m1,m2,m3,ed,CD⟩:=nk lx ly lz
          have onS:EC.On (J3 sx sy sz).pt:=by rw [es];exact EC.Pt.on (EC.smul_on EC.gJ_on _) (EC.smul_on HQ.out _)
          have et:Hid ((J3 b1 b2 b3).pt=(J3 sx sy sz).pt.add (J3 sx sy sz).pt):=by show _=_;rw [ed,EC.jd_pt onS]
          have onT:Hid (EC.On (J3 b1 b2 b3).pt):=by show EC.On _;rw [et.out];exact EC.Pt.on onS onS
          have CDH:Hid (∀ w,Mds w→Rt 41 #[.agg #[.int .u64 (l0 sx),.int .u64 (l1 sx),.int .u64 (l2 sx),.int .u64 (l3 sx),.int .u64 (l0 sy),.int .u64 (l1 sy),.int .u64 (l2 sy),.int .u64 (l3 sy),.int .u64 (l0 sz),.int .u64 (l1 sz),.int .u64 (l2 sz),.int .u64 (l3 sz)]] w (.agg #[.int .u64 (l0 b1),.int .u64 (l1 b1),.int .u64 (l2 b1),.int .u64 (l3 b1),.int .u64 (l0 b2),.int .u64 (l1 b2),.int .u64 (l2 b2),.int .u64 (l3 b2),.int .u64 (l0 b3),.int .u64 (l1 b3),.int .u64 (l2 b3),.int .u64 (l3 b3)])):=CD
          have LB:Hid (EC.Low b1∧EC.Low b2∧EC.Low b3):=⟨m1,m2,m3⟩
          have ES:Hid ((J3 sx sy sz).pt=(EC.smul (aAt a (k+1)) EC.gJ.pt).add (EC.smul (bAt b.toNat (k+1)) (bD x y i))):=es
          clear CD ed onS m1 m2 m3 lx ly lz es
          have gS:=hS.1.cells
          go_wp2_with fail
          refine aa (fun W=>Below w.heap.size w W∧Mds W∧ar W∧Nm W w.heap.size a∧Nm W bb b∧aR W br∧bH W bf (aS f 16)∧TV W bs sx sy sz) ⟨B,hD,hC,hA,hB,hR,hF,hS⟩ ?_
          clear B hD hC hA hB hR hF hS gS
          rintro W ⟨B,hD,hC,hA,hB,hR,hF,hS⟩
          clear wr
          with_reducible refine (CDH.out _ hD).mono ?_
          rintro e w1 ⟨rfl,hb⟩
          replace B:=B.trans (hb.mono B.size)
          replace hD:=hD.keep hb;replace hC:=Pts.keep hC hb;replace hA:=hA.keep hb;replace hB:=hB.keep hb;replace hR:=hR.keep hb;replace hF:=hF.keep hb;replace hS:=hS.keep hb
          clear hb W CDH
          have gS:=hS.1.cells;have fS:=hS.free
          go_wp2_with fail
          refine ah (fun W=>Below w.heap.size w W∧Mds W∧ar W∧Nm W w.heap.size a∧Nm W bb b∧aR W br∧bH W bf (aS f 16)∧TV W bs b1 b2 b3) ⟨de B os b1 b2 b3,hD.put nd b1 b2 b3,Pts.put hC nc b1 b2 b3,Cl.put hA na b1 b2 b3,Cl.put hB nb b1 b2 b3,hR.put nr b1 b2 b3,hF.put nf b1 b2 b3,hS.put b1 b2 b3⟩ ?_
          clear B hD hC hA hB hR hF hS gS fS
          rintro W ⟨B,hD,hC,hA,hB,hR,hF,hS⟩
          clear w1
          have hD16:=tX b k
          have gF:=hF.grown (i:=ge b k) (by rw [cE];exact hD16)
          rw [lp f hD16 hD16] at gF
          have hfd:=HF.out (ge b k)
          have eK:Hid (ge b k=b.toNat/2 ^ k%16):=tW HB.out hk256 h4
          have CG:=fun w=>mY b (i:=(k:Int)) (by omega) (by omega) w
          simp only [Int.toNat_natCast] at CG
          generalize ge b k=D at *
          obtain ⟨c1,c2,c3,k1,k2,k3,ec,CA⟩:=nq LB.out.1 LB.out.2.1 LB.out.2.2 hfd.1.1 hfd.1.2.1 hfd.1.2.2
          have onF:EC.On (f D).j.pt:=by rw [hfd.2];exact EC.smul_on HQ.out _
          have eu:Hid ((J3 c1 c2 c3).pt=(J3 b1 b2 b3).pt.add (EC.smul D (bD x y i))):=by show _=_;rw [ec,←hfd.2];exact EC.ja_pt onT.out onF
          have onU:Hid (EC.On (J3 c1 c2 c3).pt):=by show EC.On _;rw [eu.out];exact EC.Pt.on onT.out (EC.smul_on HQ.out _)
          have CGH:Hid (∀ w,Rt 43 #[U4 b,.int .i64 (k:Int)] w (.int .u64 (D:Int))):=CG
          have CAH:Hid (∀ w,Mds w→Rt 42 #[.agg #[.int .u64 (l0 b1),.int .u64 (l1 b1),.int .u64 (l2 b1),.int .u64 (l3 b1),.int .u64 (l0 b2),.int .u64 (l1 b2),.int .u64 (l2 b2),.int .u64 (l3 b2),.int .u64 (l0 b3),.int .u64 (l1 b3),.int .u64 (l2 b3),.int .u64 (l3 b3)],.agg #[.int .u64 (l0 (f D).x),.int .u64 (l1 (f D).x),.int .u64 (l2 (f D).x),.int .u64 (l3 (f D).x),.int .u64 (l0 (f D).y),.int .u64 (l1 (f D).y),.int .u64 (l2 (f D).y),.int .u64 (l3 (f D).y),.int .u64 (l0 (f D).z),.int .u64 (l1 (f D).z),.int .u64 (l2 (f D).z),.int .u64 (l3 (f D).z)]] w (.agg #[.int .u64 (l0 c1),.int .u64 (l1 c1),.int .u64 (l2 c1),.int .u64 (l3 c1),.int .u64 (l0 c2),.int .u64 (l1 c2),.int .u64 (l2 c2),.int .u64 (l3 c2),.int .u64 (l0 c3),.int .u64 (l1 c3),.int .u64 (l2 c3),.int .u64 (l3 c3)])):=CA
          have LC:Hid (EC.Low c1∧EC.Low c2∧EC.Low c3):=⟨k1,k2,k3⟩
          have eD:Hid (bAt b.toNat k=2*bAt b.toNat (k+1)+D):=by show _=_;rw [eK.out];exact oS _ h4
          clear CG CA onF ec hfd k1 k2 k3 eK
          have q1:(0:Int)≤D∧(D:Int)<16:=by omega
          have e2:((D:Int)).toNat=D:=by omega
          have gS:=hS.1.grown;have gB:=hB.grown
          have hDg:∀ d os,Mds (grow (redrawn W d) os):=fun d os=>hD.keep (below_regrown W d os)
          refine bj 7 (by kernel_rfl) (by kernel_rfl) ?_
          simp only [List.take_succ_cons,List.take_zero,List.drop_succ_cons,List.drop_zero]
          repeat
            first
              | go_big_quiet_skip
              | (go_big_quiet_want;go_big_quiet_op;go_big_quiet_on)
              | (go_big_quiet_want
                 go_big_quiet_op
                 apply Exists.intro
                 refine ⟨fun p=>?_,?_⟩
                 · (first|(go_at_call 43;with_reducible exact Calls.regrown_of (CGH.out _))|(go_at_call 42;with_reducible exact Calls.regrown_of (CAH.out _ (hDg p.d p.os))))
                 go_big_quiet_on)
          refine wpQuiet_nil ?_
          rintro w2 ⟨p,rfl⟩
          have hb:=below_regrown W p.d p.os
          generalize grow (redrawn W p.d) p.os=w2 at *
          replace B:=B.trans (hb.mono B.size)
          replace hD:=hD.keep hb;replace hC:=Pts.keep hC hb;replace hA:=hA.keep hb;replace hB:=hB.keep hb;replace hR:=hR.keep hb;replace hF:=hF.keep hb;replace hS:=hS.keep hb
          clear hb gS gB gF hDg CGH CAH W q1 e2 hD16
          have gS:=hS.1.cells;have fS:=hS.free
          go_wp2_with fail
          refine ah (fun W=>Below w.heap.size w W∧Mds W∧ar W∧Nm W w.heap.size a∧Nm W bb b∧aR W br∧bH W bf (aS f 16)∧TV W bs c1 c2 c3) ⟨de B os c1 c2 c3,hD.put nd c1 c2 c3,Pts.put hC nc c1 c2 c3,Cl.put hA na c1 c2 c3,Cl.put hB nb c1 c2 c3,hR.put nr c1 c2 c3,hF.put nf c1 c2 c3,hS.put c1 c2 c3⟩ ?_
          clear B hD hC hA hB hR hF hS gS fS
          rintro W ⟨B,hD,hC,hA,hB,hR,hF,hS⟩
          clear w2
          have hE16:=tV a k
          have gC:=fun d os=>Pts.keep hC (below_regrown W d os) (mp a k) hE16
          simp only [Nat.zero_add] at gC
          have hcp:=ys hE16
          have eA:Hid (aAt a k=2*aAt a (k+1)+EC.colK (mp a k)):=qw a k
          have CG:=fun w=>ma a (i:=(k:Int)) (by omega) (by omega) w
          simp only [Int.toNat_natCast] at CG
          generalize mp a k=E at *
          have eP:Hid ((fe.getD E ⟨0,0,true⟩).pt=bD (fe.getD E ⟨0,0,true⟩).x (fe.getD E ⟨0,0,true⟩).y (fe.getD E ⟨0,0,true⟩).i):=rfl
          generalize fe.getD E ⟨0,0,true⟩=cq at *
          obtain ⟨cx,cy,ci⟩:=cq
          simp only at gC hcp eP
          obtain ⟨a1,a2,a3,j1,j2,j3,ew,CW⟩:=nu hcp.1
          obtain ⟨d1,d2,d3,k1,k2,k3,ec,CA⟩:=nq LC.out.1 LC.out.2.1 LC.out.2.2 j1 j2 j3
          have onF:EC.On (J3 a1 a2 a3).pt:=by rw [ew];exact hcp.1.on
          have ev:Hid ((J3 d1 d2 d3).pt=(J3 c1 c2 c3).pt.add (EC.smul (EC.colK E) EC.gJ.pt)):=by show _=_;rw [ec,EC.ja_pt onU.out onF,ew,←hcp.2,eP.out]
          have CGH:Hid (∀ w,Rt 45 #[U4 a,.int .i64 (k:Int)] w (.int .u64 (E:Int))):=CG
          have CWH:Hid (∀ w,Rt 44 #[P9 cx cy ci] w (.agg #[.int .u64 (l0 a1),.int .u64 (l1 a1),.int .u64 (l2 a1),.int .u64 (l3 a1),.int .u64 (l0 a2),.int .u64 (l1 a2),.int .u64 (l2 a2),.int .u64 (l3 a2),.int .u64 (l0 a3),.int .u64 (l1 a3),.int .u64 (l2 a3),.int .u64 (l3 a3)])):=CW
          have CAH:Hid (∀ w,Mds w→Rt 42 #[.agg #[.int .u64 (l0 c1),.int .u64 (l1 c1),.int .u64 (l2 c1),.int .u64 (l3 c1),.int .u64 (l0 c2),.int .u64 (l1 c2),.int .u64 (l2 c2),.int .u64 (l3 c2),.int .u64 (l0 c3),.int .u64 (l1 c3),.int .u64 (l2 c3),.int .u64 (l3 c3)],.agg #[.int .u64 (l0 a1),.int .u64 (l1 a1),.int .u64 (l2 a1),.int .u64 (l3 a1),.int .u64 (l0 a2),.int .u64 (l1 a2),.int .u64 (l2 a2),.int .u64 (l3 a2),.int .u64 (l0 a3),.int .u64 (l1 a3),.int .u64 (l2 a3),.int .u64 (l3 a3)]] w (.agg #[.int .u64 (l0 d1),.int .u64 (l1 d1),.int .u64 (l2 d1),.int .u64 (l3 d1),.int .u64 (l0 d2),.int .u64 (l1 d2),.int .u64 (l2 d2),.int .u64 (l3 d2),.int .u64 (l0 d3),.int .u64 (l1 d3),.int .u64 (l2 d3),.int .u64 (l3 d3)])):=CA
          have LE:Hid (EC.Low d1∧EC.Low d2∧EC.Low d3):=⟨k1,k2,k3⟩
          clear CG CW CA onF ec ew hcp k1 k2 k3 j1 j2 j3 eP
          have q1:(0:Int)≤E∧(E:Int)<16:=by omega
          have e2:((E:Int)).toNat=E:=by omega
          have gS:=hS.1.grown;have gA:=hA.grown
          have hDg:∀ d os,Mds (grow (redrawn W d) os):=fun d os=>hD.keep (below_regrown W d os)
          refine bj 8 (by kernel_rfl) (by kernel_rfl) ?_
          simp only [List.take_succ_cons,List.take_zero,List.drop_succ_cons,List.drop_zero]
          repeat
            first
              | go_big_quiet_skip
              | (go_big_quiet_want;go_big_quiet_op;go_big_quiet_on)
              | (go_big_quiet_want
                 go_big_quiet_op
                 apply Exists.intro
                 refine ⟨fun p=>?_,?_⟩
                 · (first|(go_at_call 45;with_reducible exact Calls.regrown_of (CGH.out _))|(go_at_call 44;with_reducible exact Calls.regrown_of (CWH.out _))|(go_at_call 42;with_reducible exact Calls.regrown_of (CAH.out _ (hDg p.d p.os))))
                 go_big_quiet_on)
          refine wpQuiet_nil ?_
          rintro w3 ⟨p,rfl⟩
          have hb:=below_regrown W p.d p.os
          generalize grow (redrawn W p.d) p.os=w3 at *
          replace B:=B.trans (hb.mono B.size)
          replace hD:=hD.keep hb;replace hC:=Pts.keep hC hb;replace hA:=hA.keep hb;replace hB:=hB.keep hb;replace hR:=hR.keep hb;replace hF:=hF.keep hb;replace hS:=hS.keep hb
          clear hb gS gA gC hDg CGH CWH CAH W q1 e2 hE16
          have gS:=hS.1.cells;have fS:=hS.free
          go_wp2_with fail
          go_roundg k
          case measure=>have:=hk;omega
          case rel =>
            exact ⟨k,rfl,by omega,by go_num,de B os d1 d2 d3,hD.put nd d1 d2 d3,Pts.put hC nc d1 d2 d3,Cl.put hA na d1 d2 d3,Cl.put hB nb d1 d2 d3,hR.put nr d1 d2 d3,hF.put nf d1 d2 d3,d1,d2,d3,LE.out.1,LE.out.2.1,LE.out.2.2,kt HQ.out ES.out et.out eu.out ev.out eA.out eD.out,hS.put d1 d2 d3⟩
        · have h64:¬(k:Int)<64:=by omega
          obtain ⟨b1,b2,b3,m1,m2,m3,ed,CD⟩:=nk lx ly lz
          have onS:EC.On (J3 sx sy sz).pt:=by rw [es];exact EC.Pt.on (EC.smul_on EC.gJ_on _) (EC.smul_on HQ.out _)
          have et:Hid ((J3 b1 b2 b3).pt=(J3 sx sy sz).pt.add (J3 sx sy sz).pt):=by show _=_;rw [ed,EC.jd_pt onS]
          have onT:Hid (EC.On (J3 b1 b2 b3).pt):=by show EC.On _;rw [et.out];exact EC.Pt.on onS onS
          have CDH:Hid (∀ w,Mds w→Rt 41 #[.agg #[.int .u64 (l0 sx),.int .u64 (l1 sx),.int .u64 (l2 sx),.int .u64 (l3 sx),.int .u64 (l0 sy),.int .u64 (l1 sy),.int .u64 (l2 sy),.int .u64 (l3 sy),.int .u64 (l0 sz),.int .u64 (l1 sz),.int .u64 (l2 sz),.int .u64 (l3 sz)]] w (.agg #[.int .u64 (l0 b1),.int .u64 (l1 b1),.int .u64 (l2 b1),.int .u64 (l3 b1),.int .u64 (l0 b2),.int .u64 (l1 b2),.int .u64 (l2 b2),.int .u64 (l3 b2),.int .u64 (l0 b3),.int .u64 (l1 b3),.int .u64 (l2 b3),.int .u64 (l3 b3)])):=CD
          have LB:Hid (EC.Low b1∧EC.Low b2∧EC.Low b3):=⟨m1,m2,m3⟩
          have ES:Hid ((J3 sx sy sz).pt=(EC.smul (aAt a (k+1)) EC.gJ.pt).add (EC.smul (bAt b.toNat (k+1)) (bD x y i))):=es
          clear CD ed onS m1 m2 m3 lx ly lz es
          have gS:=hS.1.cells
          go_wp2_with fail
          refine aa (fun W=>Below w.heap.size w W∧Mds W∧ar W∧Nm W w.heap.size a∧Nm W bb b∧aR W br∧bH W bf (aS f 16)∧TV W bs sx sy sz) ⟨B,hD,hC,hA,hB,hR,hF,hS⟩ ?_
          clear B hD hC hA hB hR hF hS gS
          rintro W ⟨B,hD,hC,hA,hB,hR,hF,hS⟩
          clear wr
          with_reducible refine (CDH.out _ hD).mono ?_
          rintro e w1 ⟨rfl,hb⟩
          replace B:=B.trans (hb.mono B.size)
          replace hD:=hD.keep hb;replace hC:=Pts.keep hC hb;replace hA:=hA.keep hb;replace hB:=hB.keep hb;replace hR:=hR.keep hb;replace hF:=hF.keep hb;replace hS:=hS.keep hb
          clear hb W CDH
          have gS:=hS.1.cells;have fS:=hS.free
          go_wp2_with fail
          refine ah (fun W=>Below w.heap.size w W∧Mds W∧ar W∧Nm W w.heap.size a∧Nm W bb b∧aR W br∧bH W bf (aS f 16)∧TV W bs b1 b2 b3) ⟨de B os b1 b2 b3,hD.put nd b1 b2 b3,Pts.put hC nc b1 b2 b3,Cl.put hA na b1 b2 b3,Cl.put hB nb b1 b2 b3,hR.put nr b1 b2 b3,hF.put nf b1 b2 b3,hS.put b1 b2 b3⟩ ?_
          clear B hD hC hA hB hR hF hS gS fS
          rintro W ⟨B,hD,hC,hA,hB,hR,hF,hS⟩
          clear w1
          have hD16:=tX b k
          have gF:=hF.grown (i:=ge b k) (by rw [cE];exact hD16)
          rw [lp f hD16 hD16] at gF
          have hfd:=HF.out (ge b k)
          have eK:Hid (ge b k=b.toNat/2 ^ k%16):=tW HB.out hk256 h4
          have CG:=fun w=>mY b (i:=(k:Int)) (by omega) (by omega) w
          simp only [Int.toNat_natCast] at CG
          generalize ge b k=D at *
          obtain ⟨c1,c2,c3,k1,k2,k3,ec,CA⟩:=nq LB.out.1 LB.out.2.1 LB.out.2.2 hfd.1.1 hfd.1.2.1 hfd.1.2.2
          have onF:EC.On (f D).j.pt:=by rw [hfd.2];exact EC.smul_on HQ.out _
          have eu:Hid ((J3 c1 c2 c3).pt=(J3 b1 b2 b3).pt.add (EC.smul D (bD x y i))):=by show _=_;rw [ec,←hfd.2];exact EC.ja_pt onT.out onF
          have onU:Hid (EC.On (J3 c1 c2 c3).pt):=by show EC.On _;rw [eu.out];exact EC.Pt.on onT.out (EC.smul_on HQ.out _)
          have CGH:Hid (∀ w,Rt 43 #[U4 b,.int .i64 (k:Int)] w (.int .u64 (D:Int))):=CG
          have CAH:Hid (∀ w,Mds w→Rt 42 #[.agg #[.int .u64 (l0 b1),.int .u64 (l1 b1),.int .u64 (l2 b1),.int .u64 (l3 b1),.int .u64 (l0 b2),.int .u64 (l1 b2),.int .u64 (l2 b2),.int .u64 (l3 b2),.int .u64 (l0 b3),.int .u64 (l1 b3),.int .u64 (l2 b3),.int .u64 (l3 b3)],.agg #[.int .u64 (l0 (f D).x),.int .u64 (l1 (f D).x),.int .u64 (l2 (f D).x),.int .u64 (l3 (f D).x),.int .u64 (l0 (f D).y),.int .u64 (l1 (f D).y),.int .u64 (l2 (f D).y),.int .u64 (l3 (f D).y),.int .u64 (l0 (f D).z),.int .u64 (l1 (f D).z),.int .u64 (l2 (f D).z),.int .u64 (l3 (f D).z)]] w (.agg #[.int .u64 (l0 c1),.int .u64 (l1 c1),.int .u64 (l2 c1),.int .u64 (l3 c1),.int .u64 (l0 c2),.int .u64 (l1 c2),.int .u64 (l2 c2),.int .u64 (l3 c2),.int .u64 (l0 c3),.int .u64 (l1 c3),.int .u64 (l2 c3),.int .u64 (l3 c3)])):=CA
          have LC:Hid (EC.Low c1∧EC.Low c2∧EC.Low c3):=⟨k1,k2,k3⟩
          have eD:Hid (bAt b.toNat k=2*bAt b.toNat (k+1)+D):=by show _=_;rw [eK.out];exact oS _ h4
          clear CG CA onF ec hfd k1 k2 k3 eK
          have q1:(0:Int)≤D∧(D:Int)<16:=by omega
          have e2:((D:Int)).toNat=D:=by omega
          have gS:=hS.1.grown;have gB:=hB.grown
          have hDg:∀ d os,Mds (grow (redrawn W d) os):=fun d os=>hD.keep (below_regrown W d os)
          refine bj 7 (by kernel_rfl) (by kernel_rfl) ?_
          simp only [List.take_succ_cons,List.take_zero,List.drop_succ_cons,List.drop_zero]
          repeat
            first
              | go_big_quiet_skip
              | (go_big_quiet_want;go_big_quiet_op;go_big_quiet_on)
              | (go_big_quiet_want
                 go_big_quiet_op
                 apply Exists.intro
                 refine ⟨fun p=>?_,?_⟩
                 · (first|(go_at_call 43;with_reducible exact Calls.regrown_of (CGH.out _))|(go_at_call 42;with_reducible exact Calls.regrown_of (CAH.out _ (hDg p.d p.os))))
                 go_big_quiet_on)
          refine wpQuiet_nil ?_
          rintro w2 ⟨p,rfl⟩
          have hb:=below_regrown W p.d p.os
          generalize grow (redrawn W p.d) p.os=w2 at *
          replace B:=B.trans (hb.mono B.size)
          replace hD:=hD.keep hb;replace hC:=Pts.keep hC hb;replace hA:=hA.keep hb;replace hB:=hB.keep hb;replace hR:=hR.keep hb;replace hF:=hF.keep hb;replace hS:=hS.keep hb
          clear hb gS gB gF hDg CGH CAH W q1 e2 hD16
          have gS:=hS.1.cells;have fS:=hS.free
          go_wp2_with fail
          have eA:Hid (aAt a k=2*aAt a (k+1)+0):=by show _=_;rw [ke a (by omega),ke a (by omega)]
          have ev:(J3 c1 c2 c3).pt=(J3 c1 c2 c3).pt.add (EC.smul 0 EC.gJ.pt):=(EC.add_o _).symm
          go_roundg k
          case measure=>have:=hk;omega
          case rel =>
            exact ⟨k,rfl,by omega,by go_num,de B os c1 c2 c3,hD.put nd c1 c2 c3,Pts.put hC nc c1 c2 c3,Cl.put hA na c1 c2 c3,Cl.put hB nb c1 c2 c3,hR.put nr c1 c2 c3,hF.put nf c1 c2 c3,c1,c2,c3,LC.out.1,LC.out.2.1,LC.out.2.2,kt HQ.out ES.out et.out eu.out ev eA.out eD.out,hS.put c1 c2 c3⟩
      · have t4:¬(k:Int).tmod 4=0:=by rw [Int.tmod_eq_emod_of_nonneg hk0];omega
        by_cases h6:k<64
        · have h64:(k:Int)<64:=by omega
          obtain ⟨b1,b2,b3,m1,m2,m3,ed,CD⟩:=nk lx ly lz
          have onS:EC.On (J3 sx sy sz).pt:=by rw [es];exact EC.Pt.on (EC.smul_on EC.gJ_on _) (EC.smul_on HQ.out _)
          have et:Hid ((J3 b1 b2 b3).pt=(J3 sx sy sz).pt.add (J3 sx sy sz).pt):=by show _=_;rw [ed,EC.jd_pt onS]
          have onT:Hid (EC.On (J3 b1 b2 b3).pt):=by show EC.On _;rw [et.out];exact EC.Pt.on onS onS
          have CDH:Hid (∀ w,Mds w→Rt 41 #[.agg #[.int .u64 (l0 sx),.int .u64 (l1 sx),.int .u64 (l2 sx),.int .u64 (l3 sx),.int .u64 (l0 sy),.int .u64 (l1 sy),.int .u64 (l2 sy),.int .u64 (l3 sy),.int .u64 (l0 sz),.int .u64 (l1 sz),.int .u64 (l2 sz),.int .u64 (l3 sz)]] w (.agg #[.int .u64 (l0 b1),.int .u64 (l1 b1),.int .u64 (l2 b1),.int .u64 (l3 b1),.int .u64 (l0 b2),.int .u64 (l1 b2),.int .u64 (l2 b2),.int .u64 (l3 b2),.int .u64 (l0 b3),.int .u64 (l1 b3),.int .u64 (l2 b3),.int .u64 (l3 b3)])):=CD
          have LB:Hid (EC.Low b1∧EC.Low b2∧EC.Low b3):=⟨m1,m2,m3⟩
          have ES:Hid ((J3 sx sy sz).pt=(EC.smul (aAt a (k+1)) EC.gJ.pt).add (EC.smul (bAt b.toNat (k+1)) (bD x y i))):=es
          clear CD ed onS m1 m2 m3 lx ly lz es
          have gS:=hS.1.cells
          go_wp2_with fail
          refine aa (fun W=>Below w.heap.size w W∧Mds W∧ar W∧Nm W w.heap.size a∧Nm W bb b∧aR W br∧bH W bf (aS f 16)∧TV W bs sx sy sz) ⟨B,hD,hC,hA,hB,hR,hF,hS⟩ ?_
          clear B hD hC hA hB hR hF hS gS
          rintro W ⟨B,hD,hC,hA,hB,hR,hF,hS⟩
          clear wr
          with_reducible refine (CDH.out _ hD).mono ?_
          rintro e w1 ⟨rfl,hb⟩
          replace B:=B.trans (hb.mono B.size)
          replace hD:=hD.keep hb;replace hC:=Pts.keep hC hb;replace hA:=hA.keep hb;replace hB:=hB.keep hb;replace hR:=hR.keep hb;replace hF:=hF.keep hb;replace hS:=hS.keep hb
          clear hb W CDH
          have gS:=hS.1.cells;have fS:=hS.free
          go_wp2_with fail
          refine ah (fun W=>Below w.heap.size w W∧Mds W∧ar W∧Nm W w.heap.size a∧Nm W bb b∧aR W br∧bH W bf (aS f 16)∧TV W bs b1 b2 b3) ⟨de B os b1 b2 b3,hD.put nd b1 b2 b3,Pts.put hC nc b1 b2 b3,Cl.put hA na b1 b2 b3,Cl.put hB nb b1 b2 b3,hR.put nr b1 b2 b3,hF.put nf b1 b2 b3,hS.put b1 b2 b3⟩ ?_
          clear B hD hC hA hB hR hF hS gS fS
          rintro W ⟨B,hD,hC,hA,hB,hR,hF,hS⟩
          have eu:Hid ((J3 b1 b2 b3).pt=(J3 b1 b2 b3).pt.add (EC.smul 0 (bD x y i))):=(EC.add_o _).symm
          have eD:Hid (bAt b.toNat k=2*bAt b.toNat (k+1)+0):=oT _ h4
          have onU:=onT;have LC:=LB
          clear w1
          have hE16:=tV a k
          have gC:=fun d os=>Pts.keep hC (below_regrown W d os) (mp a k) hE16
          simp only [Nat.zero_add] at gC
          have hcp:=ys hE16
          have eA:Hid (aAt a k=2*aAt a (k+1)+EC.colK (mp a k)):=qw a k
          have CG:=fun w=>ma a (i:=(k:Int)) (by omega) (by omega) w
          simp only [Int.toNat_natCast] at CG
          generalize mp a k=E at *
          have eP:Hid ((fe.getD E ⟨0,0,true⟩).pt=bD (fe.getD E ⟨0,0,true⟩).x (fe.getD E ⟨0,0,true⟩).y (fe.getD E ⟨0,0,true⟩).i):=rfl
          generalize fe.getD E ⟨0,0,true⟩=cq at *
          obtain ⟨cx,cy,ci⟩:=cq
          simp only at gC hcp eP
          obtain ⟨a1,a2,a3,j1,j2,j3,ew,CW⟩:=nu hcp.1
          obtain ⟨d1,d2,d3,k1,k2,k3,ec,CA⟩:=nq LC.out.1 LC.out.2.1 LC.out.2.2 j1 j2 j3
          have onF:EC.On (J3 a1 a2 a3).pt:=by rw [ew];exact hcp.1.on
          have ev:Hid ((J3 d1 d2 d3).pt=(J3 b1 b2 b3).pt.add (EC.smul (EC.colK E) EC.gJ.pt)):=by show _=_;rw [ec,EC.ja_pt onU.out onF,ew,←hcp.2,eP.out]
          have CGH:Hid (∀ w,Rt 45 #[U4 a,.int .i64 (k:Int)] w (.int .u64 (E:Int))):=CG
          have CWH:Hid (∀ w,Rt 44 #[P9 cx cy ci] w (.agg #[.int .u64 (l0 a1),.int .u64 (l1 a1),.int .u64 (l2 a1),.int .u64 (l3 a1),.int .u64 (l0 a2),.int .u64 (l1 a2),.int .u64 (l2 a2),.int .u64 (l3 a2),.int .u64 (l0 a3),.int .u64 (l1 a3),.int .u64 (l2 a3),.int .u64 (l3 a3)])):=CW
          have CAH:Hid (∀ w,Mds w→Rt 42 #[.agg #[.int .u64 (l0 b1),.int .u64 (l1 b1),.int .u64 (l2 b1),.int .u64 (l3 b1),.int .u64 (l0 b2),.int .u64 (l1 b2),.int .u64 (l2 b2),.int .u64 (l3 b2),.int .u64 (l0 b3),.int .u64 (l1 b3),.int .u64 (l2 b3),.int .u64 (l3 b3)],.agg #[.int .u64 (l0 a1),.int .u64 (l1 a1),.int .u64 (l2 a1),.int .u64 (l3 a1),.int .u64 (l0 a2),.int .u64 (l1 a2),.int .u64 (l2 a2),.int .u64 (l3 a2),.int .u64 (l0 a3),.int .u64 (l1 a3),.int .u64 (l2 a3),.int .u64 (l3 a3)]] w (.agg #[.int .u64 (l0 d1),.int .u64 (l1 d1),.int .u64 (l2 d1),.int .u64 (l3 d1),.int .u64 (l0 d2),.int .u64 (l1 d2),.int .u64 (l2 d2),.int .u64 (l3 d2),.int .u64 (l0 d3),.int .u64 (l1 d3),.int .u64 (l2 d3),.int .u64 (l3 d3)])):=CA
          have LE:Hid (EC.Low d1∧EC.Low d2∧EC.Low d3):=⟨k1,k2,k3⟩
          clear CG CW CA onF ec ew hcp k1 k2 k3 j1 j2 j3 eP
          have q1:(0:Int)≤E∧(E:Int)<16:=by omega
          have e2:((E:Int)).toNat=E:=by omega
          have gS:=hS.1.grown;have gA:=hA.grown
          have hDg:∀ d os,Mds (grow (redrawn W d) os):=fun d os=>hD.keep (below_regrown W d os)
          refine bj 8 (by kernel_rfl) (by kernel_rfl) ?_
          simp only [List.take_succ_cons,List.take_zero,List.drop_succ_cons,List.drop_zero]
          repeat
            first
              | go_big_quiet_skip
              | (go_big_quiet_want;go_big_quiet_op;go_big_quiet_on)
              | (go_big_quiet_want
                 go_big_quiet_op
                 apply Exists.intro
                 refine ⟨fun p=>?_,?_⟩
                 · (first|(go_at_call 45;with_reducible exact Calls.regrown_of (CGH.out _))|(go_at_call 44;with_reducible exact Calls.regrown_of (CWH.out _))|(go_at_call 42;with_reducible exact Calls.regrown_of (CAH.out _ (hDg p.d p.os))))
                 go_big_quiet_on)
          refine wpQuiet_nil ?_
          rintro w3 ⟨p,rfl⟩
          have hb:=below_regrown W p.d p.os
          generalize grow (redrawn W p.d) p.os=w3 at *
          replace B:=B.trans (hb.mono B.size)
          replace hD:=hD.keep hb;replace hC:=Pts.keep hC hb;replace hA:=hA.keep hb;replace hB:=hB.keep hb;replace hR:=hR.keep hb;replace hF:=hF.keep hb;replace hS:=hS.keep hb
          clear hb gS gA gC hDg CGH CWH CAH W q1 e2 hE16
          have gS:=hS.1.cells;have fS:=hS.free
          go_wp2_with fail
          go_roundg k
          case measure=>have:=hk;omega
          case rel =>
            exact ⟨k,rfl,by omega,by go_num,de B os d1 d2 d3,hD.put nd d1 d2 d3,Pts.put hC nc d1 d2 d3,Cl.put hA na d1 d2 d3,Cl.put hB nb d1 d2 d3,hR.put nr d1 d2 d3,hF.put nf d1 d2 d3,d1,d2,d3,LE.out.1,LE.out.2.1,LE.out.2.2,kt HQ.out ES.out et.out eu.out ev.out eA.out eD.out,hS.put d1 d2 d3⟩
        · have h64:¬(k:Int)<64:=by omega
          obtain ⟨b1,b2,b3,m1,m2,m3,ed,CD⟩:=nk lx ly lz
          have onS:EC.On (J3 sx sy sz).pt:=by rw [es];exact EC.Pt.on (EC.smul_on EC.gJ_on _) (EC.smul_on HQ.out _)
          have et:Hid ((J3 b1 b2 b3).pt=(J3 sx sy sz).pt.add (J3 sx sy sz).pt):=by show _=_;rw [ed,EC.jd_pt onS]
          have onT:Hid (EC.On (J3 b1 b2 b3).pt):=by show EC.On _;rw [et.out];exact EC.Pt.on onS onS
          have CDH:Hid (∀ w,Mds w→Rt 41 #[.agg #[.int .u64 (l0 sx),.int .u64 (l1 sx),.int .u64 (l2 sx),.int .u64 (l3 sx),.int .u64 (l0 sy),.int .u64 (l1 sy),.int .u64 (l2 sy),.int .u64 (l3 sy),.int .u64 (l0 sz),.int .u64 (l1 sz),.int .u64 (l2 sz),.int .u64 (l3 sz)]] w (.agg #[.int .u64 (l0 b1),.int .u64 (l1 b1),.int .u64 (l2 b1),.int .u64 (l3 b1),.int .u64 (l0 b2),.int .u64 (l1 b2),.int .u64 (l2 b2),.int .u64 (l3 b2),.int .u64 (l0 b3),.int .u64 (l1 b3),.int .u64 (l2 b3),.int .u64 (l3 b3)])):=CD
          have LB:Hid (EC.Low b1∧EC.Low b2∧EC.Low b3):=⟨m1,m2,m3⟩
          have ES:Hid ((J3 sx sy sz).pt=(EC.smul (aAt a (k+1)) EC.gJ.pt).add (EC.smul (bAt b.toNat (k+1)) (bD x y i))):=es
          clear CD ed onS m1 m2 m3 lx ly lz es
          have gS:=hS.1.cells
          go_wp2_with fail
          refine aa (fun W=>Below w.heap.size w W∧Mds W∧ar W∧Nm W w.heap.size a∧Nm W bb b∧aR W br∧bH W bf (aS f 16)∧TV W bs sx sy sz) ⟨B,hD,hC,hA,hB,hR,hF,hS⟩ ?_
          clear B hD hC hA hB hR hF hS gS
          rintro W ⟨B,hD,hC,hA,hB,hR,hF,hS⟩
          clear wr
          with_reducible refine (CDH.out _ hD).mono ?_
          rintro e w1 ⟨rfl,hb⟩
          replace B:=B.trans (hb.mono B.size)
          replace hD:=hD.keep hb;replace hC:=Pts.keep hC hb;replace hA:=hA.keep hb;replace hB:=hB.keep hb;replace hR:=hR.keep hb;replace hF:=hF.keep hb;replace hS:=hS.keep hb
          clear hb W CDH
          have gS:=hS.1.cells;have fS:=hS.free
          go_wp2_with fail
          have eu:Hid ((J3 b1 b2 b3).pt=(J3 b1 b2 b3).pt.add (EC.smul 0 (bD x y i))):=(EC.add_o _).symm
          have eD:Hid (bAt b.toNat k=2*bAt b.toNat (k+1)+0):=oT _ h4
          have onU:=onT;have LC:=LB
          have eA:Hid (aAt a k=2*aAt a (k+1)+0):=by show _=_;rw [ke a (by omega),ke a (by omega)]
          have ev:(J3 b1 b2 b3).pt=(J3 b1 b2 b3).pt.add (EC.smul 0 EC.gJ.pt):=(EC.add_o _).symm
          go_roundg k
          case measure=>have:=hk;omega
          case rel =>
            exact ⟨k,rfl,by omega,by go_num,de B os b1 b2 b3,hD.put nd b1 b2 b3,Pts.put hC nc b1 b2 b3,Cl.put hA na b1 b2 b3,Cl.put hB nb b1 b2 b3,hR.put nr b1 b2 b3,hF.put nf b1 b2 b3,b1,b2,b3,LC.out.1,LC.out.2.1,LC.out.2.2,kt HQ.out ES.out et.out eu.out ev eA.out eD.out,hS.put b1 b2 b3⟩
open Go.RowKit Go.Sort
theorem nJ {a b x y:Int} {i:Bool} (ha:Num a) (hb:Num b) (hv:Vd x y i):Hid (∀ w,Mds w→ar w→Calls Tryz.prog 18 #[.agg #[.int .u64 (l0 a),.int .u64 (l1 a),.int .u64 (l2 a),.int .u64 (l3 a)],.agg #[.int .u64 (l0 b),.int .u64 (l1 b),.int .u64 (l2 b),.int .u64 (l3 b)],.agg #[.int .u64 (l0 x),.int .u64 (l1 x),.int .u64 (l2 x),.int .u64 (l3 x),.int .u64 (l0 y),.int .u64 (l1 y),.int .u64 (l2 y),.int .u64 (l3 y),.bool i]] w fun e w'=>∃ x' y' z',EC.Low x'∧EC.Low y'∧EC.Low z'∧(J3 x' y' z').pt=(EC.smul a.toNat EC.gJ.pt).add (EC.smul b.toNat (bD x y i))∧e = .returned (.agg #[.int .u64 (l0 x'),.int .u64 (l1 x'),.int .u64 (l2 x'),.int .u64 (l3 x'),.int .u64 (l0 y'),.int .u64 (l1 y'),.int .u64 (l2 y'),.int .u64 (l3 y'),.int .u64 (l0 z'),.int .u64 (l1 z'),.int .u64 (l2 z'),.int .u64 (l3 z')])∧Below w.heap.size w w'):=fun w hm hc=>by
 obtain ⟨t,f,CW,h0,hf⟩:=vM hv
 exact q6 hb hv (fun k=>⟨(hf k).1,(hf k).2.1⟩) (fun w hm=>qX CW h0 (fun k w hm=>(hf k).2.2 w hm) w hm) ha w hm hc
theorem pQ {a b x y x' y':Int} {i j:Bool} {p:EC.Pt} (C0:Hid (∀ w,Mds w→Calls Tryz.prog 66 #[.agg #[.int .u64 (l0 x),.int .u64 (l1 x),.int .u64 (l2 x),.int .u64 (l3 x),.int .u64 (l0 y),.int .u64 (l1 y),.int .u64 (l2 y),.int .u64 (l3 y),.bool i]] w fun e w'=>e = .returned (.bool true)∧Below w.heap.size w w')) (CB:Hid (∀ w,Mds w→ar w→Calls Tryz.prog 18 #[.agg #[.int .u64 (l0 a),.int .u64 (l1 a),.int .u64 (l2 a),.int .u64 (l3 a)],.agg #[.int .u64 (l0 b),.int .u64 (l1 b),.int .u64 (l2 b),.int .u64 (l3 b)],.agg #[.int .u64 (l0 x),.int .u64 (l1 x),.int .u64 (l2 x),.int .u64 (l3 x),.int .u64 (l0 y),.int .u64 (l1 y),.int .u64 (l2 y),.int .u64 (l3 y),.bool i]] w fun e w'=>∃ x' y' z',EC.Low x'∧EC.Low y'∧EC.Low z'∧(J3 x' y' z').pt=p∧e = .returned (.agg #[.int .u64 (l0 x'),.int .u64 (l1 x'),.int .u64 (l2 x'),.int .u64 (l3 x'),.int .u64 (l0 y'),.int .u64 (l1 y'),.int .u64 (l2 y'),.int .u64 (l3 y'),.int .u64 (l0 z'),.int .u64 (l1 z'),.int .u64 (l2 z'),.int .u64 (l3 z')])∧Below w.heap.size w w')) (HJ:Hid (Vd x' y' j∧bD x' y' j=p)) (w:World) (hm:Mds w) (hc:ar w) :
  Calls Tryz.prog 32 #[.agg #[.int .u64 (l0 a),.int .u64 (l1 a),.int .u64 (l2 a),.int .u64 (l3 a)],.agg #[.int .u64 (l0 b),.int .u64 (l1 b),.int .u64 (l2 b),.int .u64 (l3 b)],.agg #[.int .u64 (l0 x),.int .u64 (l1 x),.int .u64 (l2 x),.int .u64 (l3 x),.int .u64 (l0 y),.int .u64 (l1 y),.int .u64 (l2 y),.int .u64 (l3 y),.bool i]] w fun e w'=>e = .returned (.tuple #[.agg #[.int .u64 (l0 x'),.int .u64 (l1 x'),.int .u64 (l2 x'),.int .u64 (l3 x'),.int .u64 (l0 y'),.int .u64 (l1 y'),.int .u64 (l2 y'),.int .u64 (l3 y'),.bool j],.int .i64 0])∧Below w.heap.size w w':=by
 go_enter Tryz.func32,Tryz.ntmps32
 go_wp2_with fail
 refine aa (fun W=>Below w.heap.size w W∧Mds W∧ar W∧Nm W w.heap.size a∧Nm W (w.heap.size+1) b∧Pnt W (w.heap.size+1+1) x y i∧Bk9 W (w.heap.size+1+1+1))
  ⟨by repeat (first|with_reducible exact Below.refl _ _|with_reducible refine Below.alloc ?_ (by first|omega|(simp;done)|(simp;omega)) _),(((hm.alloc _).alloc _).alloc _).alloc _,(((Pts.alloc hc _).alloc _).alloc _).alloc _,(((Cl.new _ rfl rfl).alloc _).alloc _).alloc _,((Cl.new _ (by simp) rfl).alloc _).alloc _,(Pnt.new (by simp)).alloc _,Bk9.new (by simp)⟩ ?_
 rintro W ⟨B,hD,hC,hA,hB,hQ,hR⟩
 have o3:w.heap.size≤w.heap.size+1+1+1:=by omega
 generalize w.heap.size+1+1+1=br at *
 generalize w.heap.size+1+1=bq at *
 generalize w.heap.size+1=bb at *
 with_reducible refine (C0.out _ hD).mono ?_
 rintro e w1 ⟨rfl,hb⟩
 replace B:=B.trans (hb.mono B.size)
 replace hD:=hD.keep hb;replace hC:=Pts.keep hC hb;replace hA:=hA.keep hb;replace hB:=hB.keep hb;replace hQ:=hQ.keep hb;replace hR:=hR.keep hb
 clear hb W
 have gA:=hA.cells;have gB:=hB.cells;have gQ:=hQ.cells
 go_wp2_with fail
 refine aa (fun W=>Below w.heap.size w W∧Mds W∧ar W∧Bk9 W br) ⟨B,hD,hC,hR⟩ ?_
 clear B hD hC hA hB hQ hR gA gB gQ
 rintro W ⟨B,hD,hC,hR⟩
 clear w1
 with_reducible refine (CB.out _ hD hC).mono ?_
 rintro e w1 ⟨tx,ty,tz,s1,s2,s3,ep,rfl,hb⟩
 replace B:=B.trans (hb.mono B.size)
 replace hD:=hD.keep hb;replace hR:=hR.keep hb
 clear hb W hC CB
 obtain ⟨px,py,pi,u1,u2,u3,u4,CP⟩:=qS s1 s2 s3
 have hvd:Vd px py pi:=by
  have hon:EC.On (bD px py pi):=by rw [u4,ep,←HJ.out.2];exact HJ.out.1.on
  cases pi with
  | true=>exact u3 rfl
  | false=>exact ⟨u1,u2,hon⟩
 obtain ⟨rfl,rfl,rfl⟩:=hvd.inj HJ.out.1 (by rw [u4,ep,HJ.out.2])
 have CPH:Hid (∀ w,Mds w→Calls Tryz.prog 19 #[.agg #[.int .u64 (l0 tx),.int .u64 (l1 tx),.int .u64 (l2 tx),.int .u64 (l3 tx),.int .u64 (l0 ty),.int .u64 (l1 ty),.int .u64 (l2 ty),.int .u64 (l3 ty),.int .u64 (l0 tz),.int .u64 (l1 tz),.int .u64 (l2 tz),.int .u64 (l3 tz)]] w fun e w'=>e = .returned (.agg #[.int .u64 (l0 px),.int .u64 (l1 px),.int .u64 (l2 px),.int .u64 (l3 px),.int .u64 (l0 py),.int .u64 (l1 py),.int .u64 (l2 py),.int .u64 (l3 py),.bool pi])∧Below w.heap.size w w'):=CP
 clear CP u1 u2 u3 u4 hvd s1 s2 s3 ep
 go_wp2_with fail
 refine aa (fun W=>Below w.heap.size w W∧Mds W∧Bk9 W br) ⟨B,hD,hR⟩ ?_
 clear B hD hR
 rintro W ⟨B,hD,hR⟩
 clear w1
 with_reducible refine (CPH.out _ hD).mono ?_
 rintro e w1 ⟨rfl,hb⟩
 replace B:=B.trans (hb.mono B.size)
 replace hR:=hR.keep hb
 clear hb W hD CPH
 have gR:=hR.cells;have fR:=hR.free
 go_wp2
 simp [bodyPost,results,Tryz.results32,go_sem,gR]
 repeat (first|with_reducible exact B|with_reducible refine Below.setCell ?_ o3 _)
theorem q7 {a b x y x' y':Int} {i j:Bool} (ha:Num a) (hb:Num b) (hv:Vd x y i) (hj:Vd x' y' j) (ej:bD x' y' j=(EC.smul a.toNat EC.gJ.pt).add (EC.smul b.toNat (bD x y i))) (w:World) (hm:Mds w) (hc:ar w) :
  Calls Tryz.prog 32 #[.agg #[.int .u64 (l0 a),.int .u64 (l1 a),.int .u64 (l2 a),.int .u64 (l3 a)],.agg #[.int .u64 (l0 b),.int .u64 (l1 b),.int .u64 (l2 b),.int .u64 (l3 b)],.agg #[.int .u64 (l0 x),.int .u64 (l1 x),.int .u64 (l2 x),.int .u64 (l3 x),.int .u64 (l0 y),.int .u64 (l1 y),.int .u64 (l2 y),.int .u64 (l3 y),.bool i]] w fun e w'=>e = .returned (.tuple #[.agg #[.int .u64 (l0 x'),.int .u64 (l1 x'),.int .u64 (l2 x'),.int .u64 (l3 x'),.int .u64 (l0 y'),.int .u64 (l1 y'),.int .u64 (l2 y'),.int .u64 (l3 y'),.bool j],.int .i64 0])∧Below w.heap.size w w' :=
 pQ (uc hv) (nJ ha hb hv) ⟨hj,ej⟩ w hm hc
theorem sM {k x' y':Int} {j:Bool} {p:EC.Pt} (CB:Hid (∀ w,Mds w→ar w→Calls Tryz.prog 18 #[.agg #[.int .u64 (l0 k),.int .u64 (l1 k),.int .u64 (l2 k),.int .u64 (l3 k)],.agg #[.int .u64 0,.int .u64 0,.int .u64 0,.int .u64 0],.agg #[.int .u64 0,.int .u64 0,.int .u64 0,.int .u64 0,.int .u64 0,.int .u64 0,.int .u64 0,.int .u64 0,.bool true]] w fun e w'=>∃ x' y' z',EC.Low x'∧EC.Low y'∧EC.Low z'∧(J3 x' y' z').pt=p∧e = .returned (.agg #[.int .u64 (l0 x'),.int .u64 (l1 x'),.int .u64 (l2 x'),.int .u64 (l3 x'),.int .u64 (l0 y'),.int .u64 (l1 y'),.int .u64 (l2 y'),.int .u64 (l3 y'),.int .u64 (l0 z'),.int .u64 (l1 z'),.int .u64 (l2 z'),.int .u64 (l3 z')])∧Below w.heap.size w w')) (HJ:Hid (Vd x' y' j∧bD x' y' j=p)) (w:World) (hm:Mds w) (hc:ar w) :
  Calls Tryz.prog 10 #[.agg #[.int .u64 (l0 k),.int .u64 (l1 k),.int .u64 (l2 k),.int .u64 (l3 k)]] w fun e w'=>e = .returned (.agg #[.int .u64 (l0 x'),.int .u64 (l1 x'),.int .u64 (l2 x'),.int .u64 (l3 x'),.int .u64 (l0 y'),.int .u64 (l1 y'),.int .u64 (l2 y'),.int .u64 (l3 y'),.bool j])∧Below w.heap.size w w':=by
 go_enter Tryz.func10,Tryz.ntmps10
 go_wp2_with fail
 refine aa (fun W=>Below w.heap.size w W∧Mds W∧ar W∧Bk9 W (w.heap.size+1)) ⟨by repeat (first|with_reducible exact Below.refl _ _|with_reducible refine Below.alloc ?_ (by first|omega|(simp;done)|(simp;omega)) _),(hm.alloc _).alloc _,(Pts.alloc hc _).alloc _,Bk9.new (by simp)⟩ ?_
 rintro W ⟨B,hD,hC,hR⟩
 have o3:w.heap.size≤w.heap.size+1:=by omega
 generalize w.heap.size+1=br at *
 with_reducible refine (CB.out _ hD hC).mono ?_
 rintro e w1 ⟨tx,ty,tz,s1,s2,s3,ep,rfl,hb⟩
 replace B:=B.trans (hb.mono B.size)
 replace hD:=hD.keep hb;replace hR:=hR.keep hb
 clear hb W hC CB
 obtain ⟨px,py,pi,u1,u2,u3,u4,CP⟩:=qS s1 s2 s3
 have hvd:Vd px py pi:=by
  have hon:EC.On (bD px py pi):=by rw [u4,ep,←HJ.out.2];exact HJ.out.1.on
  cases pi with
  | true=>exact u3 rfl
  | false=>exact ⟨u1,u2,hon⟩
 obtain ⟨rfl,rfl,rfl⟩:=hvd.inj HJ.out.1 (by rw [u4,ep,HJ.out.2])
 have CPH:Hid (∀ w,Mds w→Calls Tryz.prog 19 #[.agg #[.int .u64 (l0 tx),.int .u64 (l1 tx),.int .u64 (l2 tx),.int .u64 (l3 tx),.int .u64 (l0 ty),.int .u64 (l1 ty),.int .u64 (l2 ty),.int .u64 (l3 ty),.int .u64 (l0 tz),.int .u64 (l1 tz),.int .u64 (l2 tz),.int .u64 (l3 tz)]] w fun e w'=>e = .returned (.agg #[.int .u64 (l0 px),.int .u64 (l1 px),.int .u64 (l2 px),.int .u64 (l3 px),.int .u64 (l0 py),.int .u64 (l1 py),.int .u64 (l2 py),.int .u64 (l3 py),.bool pi])∧Below w.heap.size w w'):=CP
 clear CP u1 u2 u3 u4 hvd s1 s2 s3 ep
 go_wp2_with fail
 refine aa (fun W=>Below w.heap.size w W∧Mds W∧Bk9 W br) ⟨B,hD,hR⟩ ?_
 clear B hD hR
 rintro W ⟨B,hD,hR⟩
 clear w1
 with_reducible refine (CPH.out _ hD).mono ?_
 rintro e w1 ⟨rfl,hb⟩
 replace B:=B.trans (hb.mono B.size)
 replace hR:=hR.keep hb
 clear hb W hD CPH
 have gR:=hR.cells;have fR:=hR.free
 go_wp2
 simp [bodyPost,results,Tryz.results10,go_sem,gR]
 repeat (first|with_reducible exact B|with_reducible refine Below.setCell ?_ o3 _)
theorem o7 {k x' y':Int} {j:Bool} (hk:Num k) (hj:Vd x' y' j) (ej:bD x' y' j=EC.smul k.toNat EC.gJ.pt) (w:World) (hm:Mds w) (hc:ar w) :
  Calls Tryz.prog 10 #[.agg #[.int .u64 (l0 k),.int .u64 (l1 k),.int .u64 (l2 k),.int .u64 (l3 k)]] w fun e w'=>e = .returned (.agg #[.int .u64 (l0 x'),.int .u64 (l1 x'),.int .u64 (l2 x'),.int .u64 (l3 x'),.int .u64 (l0 y'),.int .u64 (l1 y'),.int .u64 (l2 y'),.int .u64 (l3 y'),.bool j])∧Below w.heap.size w w':=by
 obtain ⟨z0,z1,z2,z3⟩:=ap
 have CB:=fun w hm hc=>(nJ (b:=0) (x:=0) (y:=0) (i:=true) hk ⟨by decide,by decide⟩ ⟨rfl,rfl⟩).out w hm hc
 simp only [z0,z1,z2,z3] at CB
 exact sM CB ⟨hj,by rw [ej];exact (EC.add_o _).symm⟩ w hm hc
open Go.RowKit Go.Sort
theorem ar.keep {W w1:World} (h:ar W) (hb:Below W.heap.size W w1):ar w1:=Pts.keep h hb
theorem ar.alloc {W:World} (h:ar W) (ob:Obj):ar (W.alloc ob):=Pts.alloc h ob
theorem ar.put9 {W:World} {b':Nat} {x' y':Int} {j:Bool} (h:ar W) (ne:b'≠0):ar (Go.Proofs.YtjoandmehahfgaaGreatDoor.put9 W b' x' y' j):=by
 unfold Go.Proofs.YtjoandmehahfgaaGreatDoor.put9
 exact Pts.set (Pts.set (Pts.set (Pts.set (Pts.set (Pts.set (Pts.set (Pts.set (Pts.set h ne _) ne _) ne _) ne _) ne _) ne _) ne _) ne _) ne _
theorem Nm.lt {W:World} {b:Nat} {n:Int} (h:Nm W b n):b<W.heap.size:=Cl.lt h (by simp)
theorem Nm.put9 {W:World} {b b':Nat} {n x' y':Int} {j:Bool} (h:Nm W b n) (ne:b'≠b):Nm (Go.Proofs.YtjoandmehahfgaaGreatDoor.put9 W b' x' y' j) b n:=by
 unfold Go.Proofs.YtjoandmehahfgaaGreatDoor.put9
 exact Cl.set (Cl.set (Cl.set (Cl.set (Cl.set (Cl.set (Cl.set (Cl.set (Cl.set h ne _) ne _) ne _) ne _) ne _) ne _) ne _) ne _) ne _
theorem ku (dst:Option Tmp) (pos:String) (ty:TypeId) (ρ:Operand→Value) (w:World):(execOp ρ { dst:=dst,op:=Op.alloc 40,type:=ty,pos:=pos,after:=#[],guard:=none }).run Tryz.prog w = .ok (.value (.pointer (some ⟨w.heap.size,0,none⟩))) (w.alloc (.cells #[.int .u64 0,.int .u64 0,.int .u64 0,.int .u64 0,.int .u64 0,.int .u64 0,.int .u64 0,.int .u64 0,.bool false] 40)):=by
 simp [execOp,go_sem]
open Go.RowKit Go.Sort
abbrev OnT:={t:T3 // t.Low∧EC.On t.j.pt}
end Go.Proofs.YtjoandmehahfgaaGreatDoor

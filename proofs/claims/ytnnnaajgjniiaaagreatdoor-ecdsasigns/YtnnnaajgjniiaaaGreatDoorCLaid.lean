import Derived.Test.YtnnnaajgjniiaaaGreatDoorFLaid
import Derived.Test.YtnnnaajgjniiaaaGreatDoorCSumK
import Derived.Test.YtnnnaajgjniiaaaGreatDoorFNum
namespace Go.Proofs.YtnnnaajgjniiaaaGreatDoor
open Go.ChangeShapes Go.WideShapes Go.ChangeAt Go.RowKit
def eE:List PP:=[⟨0,0,true⟩,⟨55066263022277343669578718895168534326250603453777594175500187360389116729240,32670510020758816978083085130507043184471273380659243275938904335757337482424,false⟩,⟨23129491278950567785970148376500648032717531886785241126168611397589814798013,39307099057880941662675806615359097347682728603444928455093651353540932186784,false⟩,⟨39916386994098653651340504623184494026505192778969232963776799277217860096554,77695575659854970078381054308384608904162856086065395460454541130246870330052,false⟩,⟨64865771952738249789114440545196421582918768733599534045195125031385885360346,46211216742671250426576585530459394900178019437443360579906162037052661563266,false⟩,⟨62956393427022405755976450133369655038099213677278627754557760022799719382793,13082069741720843297365566874415150979823939205374148607908286415326657186361,false⟩,⟨65391324139359902950779012657131823058897528274710599622587298727820162666608,55678678901976961034851141171099683764042537219738814451396256789998919516746,false⟩,⟨13959939370688770666325487670456658803530339548113069433768761465106690066796,22559511711903204205497612652453239942677781895148685816390096527086096797598,false⟩,⟨106135013536326263233204638779771538367307463662639765758785315935371743257267,86028625094535483850261571256264386723357163272666519397289099603747119225149,false⟩,⟨9973306195059528124901308192896912065301586738602818704047887158603589307761,47550737222913410146990392887207170422081805466962992704415224560240471273101,false⟩,⟨10408235467190594532658284160018661939053509590544244223895117989310080411153,31909477787222051652620693503372063818611156939026073808841074749836050586859,false⟩,⟨34749749239048416579065784309763412727789817042898663625618004329631146599946,95377962589647571915918767430902259246364047745309528926564157501801400736944,false⟩,⟨35100291029465268200104524632206498974746160643734379820053186096493468629768,63649237753185187991497345968307015122086344167628790568404068702224870699668,false⟩,⟨48074804865593590526050057954317924768207876745616920563143825738670412255079,39603649421637064702680441919339022540018356677245678064840325639551216127816,false⟩,⟨97961733493436058853212079277933719455846400536489600403051700625241492430503,79399374496004472965547648531290568228943717215858104057923735338968170318549,false⟩,⟨37482150587009552227874965502370530439116956499492586127545708378008971686370,26303144990879249190765029698997677228786829604307054541955121827041411670506,false⟩]
def cD (q:PP):DataW Unit:=.agg [Lib.tabData .u64 [l0 q.x,l1 q.x,l2 q.x,l3 q.x],Lib.tabData .u64 [l0 q.y,l1 q.y,l2 q.y,l3 q.y],.lit (.bool q.i)]
def aM (W:World):Prop:=Pts W 0 0 eE
theorem pO:Tryz.prog.cellsOf 56=9:=by kernel_rfl
theorem qX:Tryz.prog.cellsOf 4=1:=by kernel_rfl
theorem nq : Tryz.prog.globalNamed "waybill/curve.columns" = some 0 := by kernel_rfl
theorem tR:(Tryz.prog.globals[0]?).map (·.type)=some 109:=by kernel_rfl
theorem tS:(Rows.laid_waybill_curve_columns:DataW Unit) = .agg (eE.map cD):=by kernel_rfl
theorem nine {H:Type} {enc:TypeId×Value→H} {w:World} {base:Nat} {sp:Nat→Bool} {held:Bool} {fuel:Nat} {cs:List Value} {z1 z2:List Int} {b:Bool} {p:List MemPlace}
  (h:DataW.trod enc Tryz.prog w base sp held fuel 56 cs=some (.agg [Lib.tabData .u64 z1,Lib.tabData .u64 z2,.lit (.bool b)],p)):cs=(z1.map fun z=>Value.int .u64 z)++((z2.map fun z=>Value.int .u64 z)++[.bool b]):=by
 obtain ⟨xs,m,rfl,hx,hl,hn,hi⟩:=DataW.trod_struct Tryz.underlying56 h
 have hxs:xs.map (·.1)=[Lib.tabData .u64 z1,Lib.tabData .u64 z2,.lit (.bool b)]:=by
  have:=congrArg Prod.fst hx
  simpa using this.symm
 match xs,hxs with
 | [(_,p1),(_,p2),(_,p3)],hxs =>
  simp only [List.map_cons,List.map_nil,List.cons.injEq,and_true] at hxs
  obtain ⟨rfl,rfl,rfl⟩:=hxs
  have a:List.take (Tryz.prog.cellsOf 24) (List.drop 0 cs)=z1.map fun z=>Value.int .u64 z:=four (hi 0 _ rfl)
  have c:List.take (Tryz.prog.cellsOf 24) (List.drop 4 cs)=z2.map fun z=>Value.int .u64 z:=four (hi 1 _ rfl)
  have d:DataW.trod enc Tryz.prog w base sp held m 4 (List.take (Tryz.prog.cellsOf 4) (List.drop 8 cs))=some (.lit (.bool b),p3):=hi 2 _ rfl
  obtain ⟨b',e,hb⟩:=DataW.trod_bool Tryz.underlying4 d
  simp only [Prod.mk.injEq,DataW.lit.injEq,Lit.bool.injEq] at hb
  obtain ⟨rfl,_⟩:=hb
  rw [qX] at e
  rw [jO] at a c
  rw [pO] at hl
  rw [List.drop_zero] at a
  rw [←a,←c,←e]
  rw [show List.take 1 (List.drop 8 cs)=List.drop 8 cs from List.take_of_length_le (by simp;omega),show List.drop 8 cs=List.drop 4 (List.drop 4 cs) by rw [List.drop_drop],List.take_append_drop,List.take_append_drop]
theorem yA {W : World} {ps : List MemPlace} {r : List (String × DataW Unit)} (h : DataW.LaidVars Tryz.prog W (("waybill/curve.columns", Rows.laid_waybill_curve_columns) :: r) ps) : aM W := by
 obtain ⟨g,t,cs,fuel,p,q,h1,h2,h3,h4,_,_⟩:=h
 obtain rfl:0=g:=Option.some.inj (nq.symm.trans h1)
 obtain rfl:109=t:=Option.some.inj (tR.symm.trans h2)
 rw [tS] at h4
 obtain ⟨xs,m,rfl,hx,hl,hn,hi⟩:=DataW.trod_array Tryz.underlying109 h4
 have hxs:xs.map (·.1)=eE.map cD:=by
  have:=congrArg Prod.fst hx
  simp only [DataW.agg.injEq] at this
  exact this.symm
 intro k hk
 have hk16:k<16:=hk
 have hcell:=fun j=>World.var?_cell nq h3 (k*9+j)
 have hx1:=hi k (by simpa using hk16)
 have hxk:xs[k]?=(xs[k]?.map fun x=>(cD (eE.getD k ⟨0,0,true⟩),x.2)):=by
  have e1:(xs.map (·.1))[k]?=(eE.map cD)[k]?:=by rw [hxs]
  rw [List.getElem?_map,List.getElem?_map] at e1
  cases hv:xs[k]? with
  | none=>rfl
  | some v =>
   rw [hv] at e1
   have hk':k<eE.length:=hk
   rw [List.getElem?_eq_getElem hk'] at e1
   simp only [Option.map_some,Option.some.injEq] at e1
   simp only [Option.map_some,Option.some.injEq,List.getD,List.getElem?_eq_getElem hk',Option.getD_some]
   rw [←e1]
 rw [hxk,List.getElem?_eq_getElem (by omega)] at hx1
 generalize eE.getD k ⟨0,0,true⟩=q at *
 have hv:=nine hx1
 rw [pO] at hv
 have get:∀ j,j<9→W.cell? ⟨0,0+k*9+j,none⟩=(List.take 9 (List.drop (k*9) cs.toList))[j]?:=fun j hj=>by
  rw [Nat.zero_add,hcell j,List.getElem?_take,if_pos hj,List.getElem?_drop,Array.getElem?_toList]
 rw [hv] at get
 exact ⟨get 0 (by omega),get 1 (by omega),get 2 (by omega),get 3 (by omega),get 4 (by omega),get 5 (by omega),get 6 (by omega),get 7 (by omega),get 8 (by omega)⟩
open Go.RowKit Go.Sort
namespace EC
def isPt (t:J) (u v:F):Bool:=decide (t.z≠0)&&decide (t.x=u*(t.z*t.z))&&decide (t.y=v*(t.z*t.z*t.z))
theorem isPt_pt {t:J} {u v:F} (h:isPt t u v=true):t.pt = .a u v:=by
 unfold isPt at h
 simp only [Bool.and_eq_true,decide_eq_true_eq] at h
 exact pt_of h.1.1 h.1.2 h.2
theorem step_pt {g q:Pt} (hg:On g) (hq:On q) (A B c d:Nat) :
  (((((smul A g).add (smul B q)).add ((smul A g).add (smul B q))).add (smul d q)).add (smul c g))=(smul (2*A+c) g).add (smul (2*B+d) q):=by
 have a:=smul_on hg A;have b:=smul_on hq B;have hc:=smul_on hg c;have hd:=smul_on hq d
 rw [Pt.four a b a b,←smul_add hg,←smul_add hq,show A+A=2*A by omega,show B+B=2*B by omega]
 have a2:=smul_on hg (2*A);have b2:=smul_on hq (2*B)
 rw [Pt.assoc a2 b2 hd,←smul_add hq,Pt.assoc a2 (smul_on hq _) hc,Pt.comm (smul_on hq _) hc,←Pt.assoc a2 hc (smul_on hq _),←smul_add hg]
end EC
def zp (c:Nat):Bool :=
 let q:=eE.getD c ⟨0,0,true⟩
 !q.i&&EC.isPt (EC.jm 193 (EC.colK c) EC.gJ) (EC.fp q.x) (EC.fp q.y)&&decide (0≤q.x)&&decide (q.x<pN)&&decide (0≤q.y)&&decide (q.y<pN)
theorem yB:(List.range 15).all (fun c=>zp (c+1))=true:=by decide +kernel
theorem yC (c:Nat):EC.colK c<2 ^ 193:=by
 have h1:=Nat.mod_lt c (show 0<2 by decide)
 have h2:=Nat.mod_lt (c/2) (show 0<2 by decide)
 have h3:=Nat.mod_lt (c/4) (show 0<2 by decide)
 have h4:=Nat.mod_lt (c/8) (show 0<2 by decide)
 unfold EC.colK
 rw [show (2:Nat) ^ 193=12554203470773361527671578846415332832204710888928069025792 by decide]
 omega
theorem wG {c:Nat} (hc:c<16):Vd (eE.getD c ⟨0,0,true⟩).x (eE.getD c ⟨0,0,true⟩).y (eE.getD c ⟨0,0,true⟩).i∧(eE.getD c ⟨0,0,true⟩).pt=EC.smul (EC.colK c) EC.gJ.pt:=by
 cases c with
 | zero=>exact ⟨⟨rfl,rfl⟩,rfl⟩
 | succ c =>
  have h:=List.all_eq_true.1 yB c (List.mem_range.2 (by omega))
  unfold zp at h
  generalize eE.getD (c+1) ⟨0,0,true⟩=q at *
  obtain ⟨x,y,i⟩:=q
  simp only [Bool.and_eq_true,decide_eq_true_eq,Bool.not_eq_true'] at h
  obtain ⟨⟨⟨⟨⟨h1,h2⟩,h3⟩,h4⟩,h5⟩,h6⟩:=h
  subst h1
  have e:bI x y false=EC.smul (EC.colK (c+1)) EC.gJ.pt:=by
   rw [←EC.jm_pt EC.gJ_on 193 _ (yC _)]
   exact (EC.isPt_pt h2).symm
  exact ⟨⟨⟨h3,h4⟩,⟨h5,h6⟩,by rw [e];exact EC.smul_on EC.gJ_on _⟩,e⟩
end Go.Proofs.YtnnnaajgjniiaaaGreatDoor

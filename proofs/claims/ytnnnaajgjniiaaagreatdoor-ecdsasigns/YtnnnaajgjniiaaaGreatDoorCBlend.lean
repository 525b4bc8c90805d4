import Derived.Test.YtnnnaajgjniiaaaGreatDoorAb
import Derived.Test.YtnnnaajgjniiaaaGreatDoorCTrs
import Derived.Test.YtnnnaajgjniiaaaGreatDoorCLaid
import Derived.Test.YtnnnaajgjniiaaaGreatDoorRefBit
import Derived.Test.YtnnnaajgjniiaaaGreatDoorCRBoth
import Derived.Test.YtnnnaajgjniiaaaGreatDoorCSumK
import Derived.Test.YtnnnaajgjniiaaaGreatDoorHold
set_option maxRecDepth 100000
set_option maxHeartbeats 16000000
namespace Go.Proofs.YtnnnaajgjniiaaaGreatDoor
open Go.RowKit Go.Sort
def Nm (W:World) (b:Nat) (n:Int):Prop:=Cl W b [.int .u64 (l0 n),.int .u64 (l1 n),.int .u64 (l2 n),.int .u64 (l3 n)]
theorem Nm.keep {W w1:World} {b:Nat} {n:Int} (h:Nm W b n) (hb:Below W.heap.size W w1):Nm w1 b n:=Cl.keep h hb
theorem Nm.cells {W:World} {b:Nat} {n:Int} (h:Nm W b n):W.cell? ⟨b,0,none⟩=some (.int .u64 (l0 n))∧W.cell? ⟨b,1,none⟩=some (.int .u64 (l1 n))∧W.cell? ⟨b,2,none⟩=some (.int .u64 (l2 n))∧W.cell? ⟨b,3,none⟩=some (.int .u64 (l3 n)):=⟨h 0 (by simp),h 1 (by simp),h 2 (by simp),h 3 (by simp)⟩
theorem Nm.grown {W:World} {b:Nat} {n:Int} (h:Nm W b n):∀ d os,(grow (redrawn W d) os).cell? ⟨b,0,none⟩=some (.int .u64 (l0 n))∧(grow (redrawn W d) os).cell? ⟨b,1,none⟩=some (.int .u64 (l1 n))∧(grow (redrawn W d) os).cell? ⟨b,2,none⟩=some (.int .u64 (l2 n))∧(grow (redrawn W d) os).cell? ⟨b,3,none⟩=some (.int .u64 (l3 n)):=fun d os=>(h.keep (below_regrown W d os)).cells
theorem Nm.alloc {W:World} {b:Nat} {n:Int} (h:Nm W b n) (ob:Obj):Nm (W.alloc ob) b n:=h.keep ((Below.refl _ _).alloc (Nat.le_refl _) ob)
theorem aw.put {W:World} {b b':Nat} (h:aw W b) (ne:b'≠b) (x' y' z':Int):aw (ek W b' x' y' z') b:=⟨h.1.put ne x' y' z',by unfold ek;exact ((((((((((((h.2.set _ _).set _ _).set _ _).set _ _).set _ _).set _ _).set _ _).set _ _).set _ _).set _ _).set _ _).set _ _)⟩
theorem aM.lt {W:World} (h:aM W):0<W.heap.size:=World.block_lt_of_cell? W ⟨0,0+0*9,none⟩ (h 0 (by decide)).1
theorem Pts.cells_put {W:World} {b o b':Nat} {L:List PP} (h:Pts W b o L) (ne:b'≠b) (vs:List Value) (k:Nat):Pts (W.setCells b' k vs) b o L:=by
 induction vs generalizing W k with
 | nil=>exact h
 | cons v r ih=>exact ih (h.set ne v) (k+1)
theorem jw {a:Int} {b k A B:Nat} {q s t u v:EC.Pt} (hq:EC.On q) (es:s=(EC.smul A EC.gJ.pt).add (EC.smul B q)) (et:t=s.add s) {c d:Nat} (eu:u=t.add (EC.smul d q)) (ev:v=u.add (EC.smul c EC.gJ.pt))
  (ea:aAt a k=2*A+c) (eb:bAt b k=2*B+d):v=(EC.smul (aAt a k) EC.gJ.pt).add (EC.smul (bAt b k) q):=by
 rw [ev,eu,et,es,EC.step_pt EC.gJ_on hq,ea,eb]
theorem pR {a b x y:Int} {i:Bool} {f:Nat→T3} (hb:Num b) (hv:Vd x y i) (hf:∀ k,(f k).Low∧(f k).j.pt=EC.smul k (bI x y i))
    (CM:Hid (∀ w,Mds w→Rt 78 #[P9 x y i] w (.agg (dK (aQ f 16)).toArray))) (ha:Num a) (w:World) (hm:Mds w) (hc:aM w) :
    Calls Tryz.prog 44 #[U4 a,U4 b,P9 x y i] w fun e w'=>∃ x' y' z',EC.Low x'∧EC.Low y'∧EC.Low z'∧(J3 x' y' z').pt=(EC.smul a.toNat EC.gJ.pt).add (EC.smul b.toNat (bI x y i))∧e = .returned (.agg #[.int .u64 (l0 x'),.int .u64 (l1 x'),.int .u64 (l2 x'),.int .u64 (l3 x'),.int .u64 (l0 y'),.int .u64 (l1 y'),.int .u64 (l2 y'),.int .u64 (l3 y'),.int .u64 (l0 z'),.int .u64 (l1 z'),.int .u64 (l2 z'),.int .u64 (l3 z')])∧Below w.heap.size w w':=by
  have HQ:Hid (EC.On (bI x y i)):=hv.on
  have HF:Hid (∀ k,(f k).Low∧(f k).j.pt=EC.smul k (bI x y i)):=hf
  have HB:Hid (Num b):=hb
  have HA:Hid (Num a):=ha
  clear hv hf hb ha
  go_enter Tryz.func44,Tryz.ntmps44
  go_wp2_with fail
  refine aa (fun W=>Below w.heap.size w W∧Mds W∧aM W∧Nm W w.heap.size a∧Nm W (w.heap.size+1) b∧aw W (w.heap.size+1+1+1))
    ⟨by repeat (first|with_reducible exact Below.refl _ _|with_reducible refine Below.alloc ?_ (by first|omega|(simp;done)|(simp;omega)) _),(((hm.alloc _).alloc _).alloc _).alloc _,(((Pts.alloc hc _).alloc _).alloc _).alloc _,(((Cl.new _ rfl rfl).alloc _).alloc _).alloc _,((Cl.new _ (by simp) rfl).alloc _).alloc _,aw.new (by simp)⟩ ?_
  rintro W ⟨B,hD,hC,hA,hB,hR⟩
  have ob:w.heap.size≤w.heap.size+1:=by omega
  have or:w.heap.size≤w.heap.size+1+1+1:=by omega
  generalize w.heap.size+1+1+1=br at *
  generalize w.heap.size+1=bb at *
  with_reducible refine (CM.out _ hD).mono ?_
  rintro e w1 ⟨rfl,hb⟩
  replace B:=B.trans (hb.mono B.size)
  replace hD:=hD.keep hb;replace hC:=Pts.keep hC hb;replace hA:=hA.keep hb;replace hB:=hB.keep hb;replace hR:=hR.keep hb
  clear hb W CM
  have sz:((dK (aQ f 16)).toArray).size=192:=by simp [hJ,cA]
  have tr:(w1.alloc (.cells Tryz.zeroCells103 103)).there w1.heap.size 0 ((dK (aQ f 16)).toArray).size:=by rw [sz];exact (bJ.new rfl).there (iB (n:=192) rfl) (by simp) (by simp)
  have oc:=all_oneCell_toArray (mc (aQ f 16))
  have rg:bJ ((w1.alloc (.cells Tryz.zeroCells103 103)).setCells w1.heap.size 0 (dK (aQ f 16))) w1.heap.size (aQ f 16):=World.rangeAt_setCells_same _ _ _ _ (by simpa using tr)
  have gw:w.heap.size≤w1.heap.size:=B.size
  have FF:Hid (let V:=(w1.alloc (.cells Tryz.zeroCells103 103)).setCells w1.heap.size 0 (dK (aQ f 16));Below w.heap.size w V∧Mds V∧aM V∧Nm V w.heap.size a∧Nm V bb b∧aw V br∧bJ V w1.heap.size (aQ f 16)) :=
    ⟨ia (B.alloc B.size _) gw _ _,(hD.alloc _).cells_put (Nat.ne_of_gt hD.lt) _ _,Pts.cells_put (Pts.alloc hC _) (Nat.ne_of_gt (aM.lt hC)) _ _,Cl.cells_put (hA.alloc _) (Nat.ne_of_gt (Cl.lt hA (by simp))) _ _,Cl.cells_put (hB.alloc _) (Nat.ne_of_gt (Cl.lt hB (by simp))) _ _,⟨Cl.cells_put (hR.alloc _).1 (Nat.ne_of_gt hR.lt) _ _,(hR.alloc _).2.cells_put _ _⟩,rg⟩
  clear rg B hD hC hA hB hR
  go_wp2_with (refine wpList_store_mid rfl 103 _ _ rfl w1.heap.size 0 (dK (aQ f 16)).toArray rfl rfl tr (by rw [sz];kernel_rfl) oc ?_;refine aA (fun W=>Below w.heap.size w W∧Mds W∧aM W∧Nm W w.heap.size a∧Nm W bb b∧aw W br∧bJ W w1.heap.size (aQ f 16)) FF.out ?_;clear FF tr oc sz;rintro W ⟨B,hD,hC,hA,hB,hR,hF⟩)
  generalize w1.heap.size=bf at *
  clear gw w1
  refine af (fun W'=>Below w.heap.size w W'∧Mds W'∧aM W'∧Nm W' w.heap.size a∧Nm W' bb b∧aw W' br∧bJ W' bf (aQ f 16)∧TV W' W.heap.size 0 0 0) ⟨B.alloc B.size _,hD.alloc _,Pts.alloc hC _,hA.alloc _,hB.alloc _,hR.alloc _,hF.alloc _,(aw.new rfl).tv⟩ ?_
  have os:w.heap.size≤W.heap.size:=B.size
  have nd:W.heap.size≠1:=Nat.ne_of_gt hD.lt
  have nc:W.heap.size≠0:=Nat.ne_of_gt (aM.lt hC)
  have na:W.heap.size≠w.heap.size:=Nat.ne_of_gt (Cl.lt hA (by simp))
  have nb:W.heap.size≠bb:=Nat.ne_of_gt (Cl.lt hB (by simp))
  have nr:W.heap.size≠br:=Nat.ne_of_gt hR.lt
  have nf:W.heap.size≠bf:=Nat.ne_of_gt (hF.lt (by rw [cA];decide))
  clear B hD hC hA hB hR hF
  generalize W.heap.size=bs at *
  clear W
  rintro W ⟨B,hD,hC,hA,hB,hR,hF,hS⟩
  go_loopg [9] 256 (fun k iv wr=>∃ n:Nat,k=n∧n≤256∧iv = .int .i64 ((n:Int)-1)∧Below w.heap.size w wr∧Mds wr∧aM wr∧Nm wr w.heap.size a∧Nm wr bb b∧aw wr br∧bJ wr bf (aQ f 16)∧∃ sx sy sz,EC.Low sx∧EC.Low sy∧EC.Low sz∧(J3 sx sy sz).pt=(EC.smul (aAt a n) EC.gJ.pt).add (EC.smul (bAt b.toNat n) (bI x y i))∧TV wr bs sx sy sz)
  case atStart =>
    refine ⟨256,rfl,by decide,rfl,B,hD,hC,hA,hB,hR,hF,0,0,0,dk,dk,dk,?_,hS⟩
    rw [jb a (by decide),xM (by have:=HB.out.1;have:=HB.out.2;omega)]
    exact EC.pt_o EC.fp_zero
  case round =>
    clear B hD hC hA hB hR hF hS W
    obtain ⟨n,hk,hn,hiv,B,hD,hC,hA,hB,hR,hF,sx,sy,sz,lx,ly,lz,es,hS⟩:=hrel
    cases n with
    | zero =>
      rw [uQ HA.out,uR] at es
      have HE:Hid ((J3 sx sy sz).pt=(EC.smul a.toNat EC.gJ.pt).add (EC.smul b.toNat (bI x y i))):=es
      have HL:Hid (EC.Low sx∧EC.Low sy∧EC.Low sz):=⟨lx,ly,lz⟩
      rw [show (((0:Nat):Int)-1) = -1 by rfl] at hiv
      subst hiv
      clear es lx ly lz hD hC hA hB hF hn
      have gS:=hS.1.cells;have gR:=hR.cells;have fR:=hR.free
      go_wp2
      refine bodyPost_ret (v:=.agg #[.int .u64 (l0 sx),.int .u64 (l1 sx),.int .u64 (l2 sx),.int .u64 (l3 sx),.int .u64 (l0 sy),.int .u64 (l1 sy),.int .u64 (l2 sy),.int .u64 (l3 sy),.int .u64 (l0 sz),.int .u64 (l1 sz),.int .u64 (l2 sz),.int .u64 (l3 sz)]) ?_ rfl ⟨sx,sy,sz,HL.out.1,HL.out.2.1,HL.out.2.2,HE.out,rfl,?_⟩
      · simp [results,Tryz.results44,go_sem,gR]
      · repeat (first|with_reducible exact B|with_reducible refine Below.setCell ?_ or _)
    | succ k =>
      rw [show (((k+1:Nat):Int)-1)=(k:Int) by omega] at hiv
      subst hiv
      have hk256:k<256:=by omega
      have hk0:(0:Int)≤(k:Int):=by omega
      by_cases h4:k%4=0
      · have t4:(k:Int).tmod 4=0:=by rw [Int.tmod_eq_emod_of_nonneg hk0];omega
        by_cases h6:k<64
        · have h64:(k:Int)<64:=by omega
          obtain ⟨b1,b2,b3,m1,m2,m3,ed,CD⟩:=l7 lx ly lz
          have onS:EC.On (J3 sx sy sz).pt:=by rw [es];exact EC.Pt.on (EC.smul_on EC.gJ_on _) (EC.smul_on HQ.out _)
          have et:Hid ((J3 b1 b2 b3).pt=(J3 sx sy sz).pt.add (J3 sx sy sz).pt):=by show _=_;rw [ed,EC.jd_pt onS]
          have onT:Hid (EC.On (J3 b1 b2 b3).pt):=by show EC.On _;rw [et.out];exact EC.Pt.on onS onS
          have CDH:Hid (∀ w,Mds w→Rt 79 #[.agg #[.int .u64 (l0 sx),.int .u64 (l1 sx),.int .u64 (l2 sx),.int .u64 (l3 sx),.int .u64 (l0 sy),.int .u64 (l1 sy),.int .u64 (l2 sy),.int .u64 (l3 sy),.int .u64 (l0 sz),.int .u64 (l1 sz),.int .u64 (l2 sz),.int .u64 (l3 sz)]] w (.agg #[.int .u64 (l0 b1),.int .u64 (l1 b1),.int .u64 (l2 b1),.int .u64 (l3 b1),.int .u64 (l0 b2),.int .u64 (l1 b2),.int .u64 (l2 b2),.int .u64 (l3 b2),.int .u64 (l0 b3),.int .u64 (l1 b3),.int .u64 (l2 b3),.int .u64 (l3 b3)])):=CD
          have LB:Hid (EC.Low b1∧EC.Low b2∧EC.Low b3):=⟨m1,m2,m3⟩
          have ES:Hid ((J3 sx sy sz).pt=(EC.smul (aAt a (k+1)) EC.gJ.pt).add (EC.smul (bAt b.toNat (k+1)) (bI x y i))):=es
          clear CD ed onS m1 m2 m3 lx ly lz es
          have gS:=hS.1.cells
          go_wp2_with fail
          refine aa (fun W=>Below w.heap.size w W∧Mds W∧aM W∧Nm W w.heap.size a∧Nm W bb b∧aw W br∧bJ W bf (aQ f 16)∧TV W bs sx sy sz) ⟨B,hD,hC,hA,hB,hR,hF,hS⟩ ?_
          clear B hD hC hA hB hR hF hS gS
          rintro W ⟨B,hD,hC,hA,hB,hR,hF,hS⟩
          clear wr
          with_reducible refine (CDH.out _ hD).mono ?_
          rintro e w1 ⟨rfl,hb⟩
          replace B:=B.trans (hb.mono B.size)
          replace hD:=hD.keep hb;replace hC:=Pts.keep hC hb;replace hA:=hA.keep hb;replace hB:=hB.keep hb;replace hR:=hR.keep hb;replace hF:=hF.keep hb;replace hS:=hS.keep hb
          clear hb W CDH
          have gS:=hS.1.cells;have fS:=hS.free
          go_wp2_with fail
          refine af (fun W=>Below w.heap.size w W∧Mds W∧aM W∧Nm W w.heap.size a∧Nm W bb b∧aw W br∧bJ W bf (aQ f 16)∧TV W bs b1 b2 b3) ⟨bZ B os b1 b2 b3,hD.put nd b1 b2 b3,Pts.put hC nc b1 b2 b3,Cl.put hA na b1 b2 b3,Cl.put hB nb b1 b2 b3,hR.put nr b1 b2 b3,hF.put nf b1 b2 b3,hS.put b1 b2 b3⟩ ?_
          clear B hD hC hA hB hR hF hS gS fS
          rintro W ⟨B,hD,hC,hA,hB,hR,hF,hS⟩
          clear w1
          have hD16:=rX b k
          have gF:=hF.grown (i:=fe b k) (by rw [cA];exact hD16)
          rw [jN f hD16 hD16] at gF
          have hfd:=HF.out (fe b k)
          have eK:Hid (fe b k=b.toNat/2 ^ k%16):=rW HB.out hk256 h4
          have CG:=fun w=>lT b (i:=(k:Int)) (by omega) (by omega) w
          simp only [Int.toNat_natCast] at CG
          generalize fe b k=D at *
          obtain ⟨c1,c2,c3,k1,k2,k3,ec,CA⟩:=l8 LB.out.1 LB.out.2.1 LB.out.2.2 hfd.1.1 hfd.1.2.1 hfd.1.2.2
          have onF:EC.On (f D).j.pt:=by rw [hfd.2];exact EC.smul_on HQ.out _
          have eu:Hid ((J3 c1 c2 c3).pt=(J3 b1 b2 b3).pt.add (EC.smul D (bI x y i))):=by show _=_;rw [ec,←hfd.2];exact EC.ja_pt onT.out onF
          have onU:Hid (EC.On (J3 c1 c2 c3).pt):=by show EC.On _;rw [eu.out];exact EC.Pt.on onT.out (EC.smul_on HQ.out _)
          have CGH:Hid (∀ w,Rt 81 #[U4 b,.int .i64 (k:Int)] w (.int .u64 (D:Int))):=CG
          have CAH:Hid (∀ w,Mds w→Rt 80 #[.agg #[.int .u64 (l0 b1),.int .u64 (l1 b1),.int .u64 (l2 b1),.int .u64 (l3 b1),.int .u64 (l0 b2),.int .u64 (l1 b2),.int .u64 (l2 b2),.int .u64 (l3 b2),.int .u64 (l0 b3),.int .u64 (l1 b3),.int .u64 (l2 b3),.int .u64 (l3 b3)],.agg #[.int .u64 (l0 (f D).x),.int .u64 (l1 (f D).x),.int .u64 (l2 (f D).x),.int .u64 (l3 (f D).x),.int .u64 (l0 (f D).y),.int .u64 (l1 (f D).y),.int .u64 (l2 (f D).y),.int .u64 (l3 (f D).y),.int .u64 (l0 (f D).z),.int .u64 (l1 (f D).z),.int .u64 (l2 (f D).z),.int .u64 (l3 (f D).z)]] w (.agg #[.int .u64 (l0 c1),.int .u64 (l1 c1),.int .u64 (l2 c1),.int .u64 (l3 c1),.int .u64 (l0 c2),.int .u64 (l1 c2),.int .u64 (l2 c2),.int .u64 (l3 c2),.int .u64 (l0 c3),.int .u64 (l1 c3),.int .u64 (l2 c3),.int .u64 (l3 c3)])):=CA
          have LC:Hid (EC.Low c1∧EC.Low c2∧EC.Low c3):=⟨k1,k2,k3⟩
          have eD:Hid (bAt b.toNat k=2*bAt b.toNat (k+1)+D):=by show _=_;rw [eK.out];exact mQ _ h4
          clear CG CA onF ec hfd k1 k2 k3 eK
          have q1:(0:Int)≤D∧(D:Int)<16:=by omega
          have e2:((D:Int)).toNat=D:=by omega
          have gS:=hS.1.grown;have gB:=hB.grown
          have hDg:∀ d os,Mds (grow (redrawn W d) os):=fun d os=>hD.keep (below_regrown W d os)
          refine aL 7 (by kernel_rfl) (by kernel_rfl) ?_
          simp only [List.take_succ_cons,List.take_zero,List.drop_succ_cons,List.drop_zero]
          repeat
            first
              | go_big_quiet_skip
              | (go_big_quiet_want;go_big_quiet_op;go_big_quiet_on)
              | (go_big_quiet_want
                 go_big_quiet_op
                 apply Exists.intro
                 refine ⟨fun p=>?_,?_⟩
                 · (first|(go_at_call 81;with_reducible exact Calls.regrown_of (CGH.out _))|(go_at_call 80;with_reducible exact Calls.regrown_of (CAH.out _ (hDg p.d p.os))))
                 go_big_quiet_on)
          refine wpQuiet_nil ?_
          rintro w2 ⟨p,rfl⟩
          have hb:=below_regrown W p.d p.os
          generalize grow (redrawn W p.d) p.os=w2 at *
          replace B:=B.trans (hb.mono B.size)
          replace hD:=hD.keep hb;replace hC:=Pts.keep hC hb;replace hA:=hA.keep hb;replace hB:=hB.keep hb;replace hR:=hR.keep hb;replace hF:=hF.keep hb;replace hS:=hS.keep hb
          clear hb gS gB gF hDg CGH CAH W q1 e2 hD16
          have gS:=hS.1.cells;have fS:=hS.free
          go_wp2_with fail
          refine af (fun W=>Below w.heap.size w W∧Mds W∧aM W∧Nm W w.heap.size a∧Nm W bb b∧aw W br∧bJ W bf (aQ f 16)∧TV W bs c1 c2 c3) ⟨bZ B os c1 c2 c3,hD.put nd c1 c2 c3,Pts.put hC nc c1 c2 c3,Cl.put hA na c1 c2 c3,Cl.put hB nb c1 c2 c3,hR.put nr c1 c2 c3,hF.put nf c1 c2 c3,hS.put c1 c2 c3⟩ ?_
          clear B hD hC hA hB hR hF hS gS fS
          rintro W ⟨B,hD,hC,hA,hB,hR,hF,hS⟩
          clear w2
          have hE16:=rV a k
          have gC:=fun d os=>Pts.keep hC (below_regrown W d os) (kf a k) hE16
          simp only [Nat.zero_add] at gC
          have hcp:=wG hE16
          have eA:Hid (aAt a k=2*aAt a (k+1)+EC.colK (kf a k)):=o5 a k
          have CG:=fun w=>j4 a (i:=(k:Int)) (by omega) (by omega) w
          simp only [Int.toNat_natCast] at CG
          generalize kf a k=E at *
          have eP:Hid ((eE.getD E ⟨0,0,true⟩).pt=bI (eE.getD E ⟨0,0,true⟩).x (eE.getD E ⟨0,0,true⟩).y (eE.getD E ⟨0,0,true⟩).i):=rfl
          generalize eE.getD E ⟨0,0,true⟩=cq at *
          obtain ⟨cx,cy,ci⟩:=cq
          simp only at gC hcp eP
          obtain ⟨a1,a2,a3,j1,j2,j3,ew,CW⟩:=l9 hcp.1
          obtain ⟨d1,d2,d3,k1,k2,k3,ec,CA⟩:=l8 LC.out.1 LC.out.2.1 LC.out.2.2 j1 j2 j3
          have onF:EC.On (J3 a1 a2 a3).pt:=by rw [ew];exact hcp.1.on
          have ev:Hid ((J3 d1 d2 d3).pt=(J3 c1 c2 c3).pt.add (EC.smul (EC.colK E) EC.gJ.pt)):=by show _=_;rw [ec,EC.ja_pt onU.out onF,ew,←hcp.2,eP.out]
          have CGH:Hid (∀ w,Rt 83 #[U4 a,.int .i64 (k:Int)] w (.int .u64 (E:Int))):=CG
          have CWH:Hid (∀ w,Rt 82 #[P9 cx cy ci] w (.agg #[.int .u64 (l0 a1),.int .u64 (l1 a1),.int .u64 (l2 a1),.int .u64 (l3 a1),.int .u64 (l0 a2),.int .u64 (l1 a2),.int .u64 (l2 a2),.int .u64 (l3 a2),.int .u64 (l0 a3),.int .u64 (l1 a3),.int .u64 (l2 a3),.int .u64 (l3 a3)])):=CW
          have CAH:Hid (∀ w,Mds w→Rt 80 #[.agg #[.int .u64 (l0 c1),.int .u64 (l1 c1),.int .u64 (l2 c1),.int .u64 (l3 c1),.int .u64 (l0 c2),.int .u64 (l1 c2),.int .u64 (l2 c2),.int .u64 (l3 c2),.int .u64 (l0 c3),.int .u64 (l1 c3),.int .u64 (l2 c3),.int .u64 (l3 c3)],.agg #[.int .u64 (l0 a1),.int .u64 (l1 a1),.int .u64 (l2 a1),.int .u64 (l3 a1),.int .u64 (l0 a2),.int .u64 (l1 a2),.int .u64 (l2 a2),.int .u64 (l3 a2),.int .u64 (l0 a3),.int .u64 (l1 a3),.int .u64 (l2 a3),.int .u64 (l3 a3)]] w (.agg #[.int .u64 (l0 d1),.int .u64 (l1 d1),.int .u64 (l2 d1),.int .u64 (l3 d1),.int .u64 (l0 d2),.int .u64 (l1 d2),.int .u64 (l2 d2),.int .u64 (l3 d2),.int .u64 (l0 d3),.int .u64 (l1 d3),.int .u64 (l2 d3),.int .u64 (l3 d3)])):=CA
          have LE:Hid (EC.Low d1∧EC.Low d2∧EC.Low d3):=⟨k1,k2,k3⟩
          clear CG CW CA onF ec ew hcp k1 k2 k3 j1 j2 j3 eP
          have q1:(0:Int)≤E∧(E:Int)<16:=by omega
          have e2:((E:Int)).toNat=E:=by omega
          have gS:=hS.1.grown;have gA:=hA.grown
          have hDg:∀ d os,Mds (grow (redrawn W d) os):=fun d os=>hD.keep (below_regrown W d os)
          refine aL 8 (by kernel_rfl) (by kernel_rfl) ?_
          simp only [List.take_succ_cons,List.take_zero,List.drop_succ_cons,List.drop_zero]
          repeat
            first
              | go_big_quiet_skip
              | (go_big_quiet_want;go_big_quiet_op;go_big_quiet_on)
              | (go_big_quiet_want
                 go_big_quiet_op
                 apply Exists.intro
                 refine ⟨fun p=>?_,?_⟩
                 · (first|(go_at_call 83;with_reducible exact Calls.regrown_of (CGH.out _))|(go_at_call 82;with_reducible exact Calls.regrown_of (CWH.out _))|(go_at_call 80;with_reducible exact Calls.regrown_of (CAH.out _ (hDg p.d p.os))))
                 go_big_quiet_on)
          refine wpQuiet_nil ?_
          rintro w3 ⟨p,rfl⟩
          have hb:=below_regrown W p.d p.os
          generalize grow (redrawn W p.d) p.os=w3 at *
          replace B:=B.trans (hb.mono B.size)
          replace hD:=hD.keep hb;replace hC:=Pts.keep hC hb;replace hA:=hA.keep hb;replace hB:=hB.keep hb;replace hR:=hR.keep hb;replace hF:=hF.keep hb;replace hS:=hS.keep hb
          clear hb gS gA gC hDg CGH CWH CAH W q1 e2 hE16
          have gS:=hS.1.cells;have fS:=hS.free
          go_wp2_with fail
          go_roundg k
          case measure=>have:=hk;omega
          case rel =>
            exact ⟨k,rfl,by omega,by go_num,bZ B os d1 d2 d3,hD.put nd d1 d2 d3,Pts.put hC nc d1 d2 d3,Cl.put hA na d1 d2 d3,Cl.put hB nb d1 d2 d3,hR.put nr d1 d2 d3,hF.put nf d1 d2 d3,d1,d2,d3,LE.out.1,LE.out.2.1,LE.out.2.2,jw HQ.out ES.out et.out eu.out ev.out eA.out eD.out,hS.put d1 d2 d3⟩
        · have h64:¬(k:Int)<64:=by omega
          obtain ⟨b1,b2,b3,m1,m2,m3,ed,CD⟩:=l7 lx ly lz
          have onS:EC.On (J3 sx sy sz).pt:=by rw [es];exact EC.Pt.on (EC.smul_on EC.gJ_on _) (EC.smul_on HQ.out _)
          have et:Hid ((J3 b1 b2 b3).pt=(J3 sx sy sz).pt.add (J3 sx sy sz).pt):=by show _=_;rw [ed,EC.jd_pt onS]
          have onT:Hid (EC.On (J3 b1 b2 b3).pt):=by show EC.On _;rw [et.out];exact EC.Pt.on onS onS
          have CDH:Hid (∀ w,Mds w→Rt 79 #[.agg #[.int .u64 (l0 sx),.int .u64 (l1 sx),.int .u64 (l2 sx),.int .u64 (l3 sx),.int .u64 (l0 sy),.int .u64 (l1 sy),.int .u64 (l2 sy),.int .u64 (l3 sy),.int .u64 (l0 sz),.int .u64 (l1 sz),.int .u64 (l2 sz),.int .u64 (l3 sz)]] w (.agg #[.int .u64 (l0 b1),.int .u64 (l1 b1),.int .u64 (l2 b1),.int .u64 (l3 b1),.int .u64 (l0 b2),.int .u64 (l1 b2),.int .u64 (l2 b2),.int .u64 (l3 b2),.int .u64 (l0 b3),.int .u64 (l1 b3),.int .u64 (l2 b3),.int .u64 (l3 b3)])):=CD
          have LB:Hid (EC.Low b1∧EC.Low b2∧EC.Low b3):=⟨m1,m2,m3⟩
          have ES:Hid ((J3 sx sy sz).pt=(EC.smul (aAt a (k+1)) EC.gJ.pt).add (EC.smul (bAt b.toNat (k+1)) (bI x y i))):=es
          clear CD ed onS m1 m2 m3 lx ly lz es
          have gS:=hS.1.cells
          go_wp2_with fail
          refine aa (fun W=>Below w.heap.size w W∧Mds W∧aM W∧Nm W w.heap.size a∧Nm W bb b∧aw W br∧bJ W bf (aQ f 16)∧TV W bs sx sy sz) ⟨B,hD,hC,hA,hB,hR,hF,hS⟩ ?_
          clear B hD hC hA hB hR hF hS gS
          rintro W ⟨B,hD,hC,hA,hB,hR,hF,hS⟩
          clear wr
          with_reducible refine (CDH.out _ hD).mono ?_
          rintro e w1 ⟨rfl,hb⟩
          replace B:=B.trans (hb.mono B.size)
          replace hD:=hD.keep hb;replace hC:=Pts.keep hC hb;replace hA:=hA.keep hb;replace hB:=hB.keep hb;replace hR:=hR.keep hb;replace hF:=hF.keep hb;replace hS:=hS.keep hb
          clear hb W CDH
          have gS:=hS.1.cells;have fS:=hS.free
          go_wp2_with fail
          refine af (fun W=>Below w.heap.size w W∧Mds W∧aM W∧Nm W w.heap.size a∧Nm W bb b∧aw W br∧bJ W bf (aQ f 16)∧TV W bs b1 b2 b3) ⟨bZ B os b1 b2 b3,hD.put nd b1 b2 b3,Pts.put hC nc b1 b2 b3,Cl.put hA na b1 b2 b3,Cl.put hB nb b1 b2 b3,hR.put nr b1 b2 b3,hF.put nf b1 b2 b3,hS.put b1 b2 b3⟩ ?_
          clear B hD hC hA hB hR hF hS gS fS
          rintro W ⟨B,hD,hC,hA,hB,hR,hF,hS⟩
          clear w1
          have hD16:=rX b k
          have gF:=hF.grown (i:=fe b k) (by rw [cA];exact hD16)
          rw [jN f hD16 hD16] at gF
          have hfd:=HF.out (fe b k)
          have eK:Hid (fe b k=b.toNat/2 ^ k%16):=rW HB.out hk256 h4
          have CG:=fun w=>lT b (i:=(k:Int)) (by omega) (by omega) w
          simp only [Int.toNat_natCast] at CG
          generalize fe b k=D at *
          obtain ⟨c1,c2,c3,k1,k2,k3,ec,CA⟩:=l8 LB.out.1 LB.out.2.1 LB.out.2.2 hfd.1.1 hfd.1.2.1 hfd.1.2.2
          have onF:EC.On (f D).j.pt:=by rw [hfd.2];exact EC.smul_on HQ.out _
          have eu:Hid ((J3 c1 c2 c3).pt=(J3 b1 b2 b3).pt.add (EC.smul D (bI x y i))):=by show _=_;rw [ec,←hfd.2];exact EC.ja_pt onT.out onF
          have onU:Hid (EC.On (J3 c1 c2 c3).pt):=by show EC.On _;rw [eu.out];exact EC.Pt.on onT.out (EC.smul_on HQ.out _)
          have CGH:Hid (∀ w,Rt 81 #[U4 b,.int .i64 (k:Int)] w (.int .u64 (D:Int))):=CG
          have CAH:Hid (∀ w,Mds w→Rt 80 #[.agg #[.int .u64 (l0 b1),.int .u64 (l1 b1),.int .u64 (l2 b1),.int .u64 (l3 b1),.int .u64 (l0 b2),.int .u64 (l1 b2),.int .u64 (l2 b2),.int .u64 (l3 b2),.int .u64 (l0 b3),.int .u64 (l1 b3),.int .u64 (l2 b3),.int .u64 (l3 b3)],.agg #[.int .u64 (l0 (f D).x),.int .u64 (l1 (f D).x),.int .u64 (l2 (f D).x),.int .u64 (l3 (f D).x),.int .u64 (l0 (f D).y),.int .u64 (l1 (f D).y),.int .u64 (l2 (f D).y),.int .u64 (l3 (f D).y),.int .u64 (l0 (f D).z),.int .u64 (l1 (f D).z),.int .u64 (l2 (f D).z),.int .u64 (l3 (f D).z)]] w (.agg #[.int .u64 (l0 c1),.int .u64 (l1 c1),.int .u64 (l2 c1),.int .u64 (l3 c1),.int .u64 (l0 c2),.int .u64 (l1 c2),.int .u64 (l2 c2),.int .u64 (l3 c2),.int .u64 (l0 c3),.int .u64 (l1 c3),.int .u64 (l2 c3),.int .u64 (l3 c3)])):=CA
          have LC:Hid (EC.Low c1∧EC.Low c2∧EC.Low c3):=⟨k1,k2,k3⟩
          have eD:Hid (bAt b.toNat k=2*bAt b.toNat (k+1)+D):=by show _=_;rw [eK.out];exact mQ _ h4
          clear CG CA onF ec hfd k1 k2 k3 eK
          have q1:(0:Int)≤D∧(D:Int)<16:=by omega
          have e2:((D:Int)).toNat=D:=by omega
          have gS:=hS.1.grown;have gB:=hB.grown
          have hDg:∀ d os,Mds (grow (redrawn W d) os):=fun d os=>hD.keep (below_regrown W d os)
          refine aL 7 (by kernel_rfl) (by kernel_rfl) ?_
          simp only [List.take_succ_cons,List.take_zero,List.drop_succ_cons,List.drop_zero]
          repeat
            first
              | go_big_quiet_skip
              | (go_big_quiet_want;go_big_quiet_op;go_big_quiet_on)
              | (go_big_quiet_want
                 go_big_quiet_op
                 apply Exists.intro
                 refine ⟨fun p=>?_,?_⟩
                 · (first|(go_at_call 81;with_reducible exact Calls.regrown_of (CGH.out _))|(go_at_call 80;with_reducible exact Calls.regrown_of (CAH.out _ (hDg p.d p.os))))
                 go_big_quiet_on)
          refine wpQuiet_nil ?_
          rintro w2 ⟨p,rfl⟩
          have hb:=below_regrown W p.d p.os
          generalize grow (redrawn W p.d) p.os=w2 at *
          replace B:=B.trans (hb.mono B.size)
          replace hD:=hD.keep hb;replace hC:=Pts.keep hC hb;replace hA:=hA.keep hb;replace hB:=hB.keep hb;replace hR:=hR.keep hb;replace hF:=hF.keep hb;replace hS:=hS.keep hb
          clear hb gS gB gF hDg CGH CAH W q1 e2 hD16
          have gS:=hS.1.cells;have fS:=hS.free
          go_wp2_with fail
          have eA:Hid (aAt a k=2*aAt a (k+1)+0):=by show _=_;rw [jb a (by omega),jb a (by omega)]
          have ev:(J3 c1 c2 c3).pt=(J3 c1 c2 c3).pt.add (EC.smul 0 EC.gJ.pt):=(EC.add_o _).symm
          go_roundg k
          case measure=>have:=hk;omega
          case rel =>
            exact ⟨k,rfl,by omega,by go_num,bZ B os c1 c2 c3,hD.put nd c1 c2 c3,Pts.put hC nc c1 c2 c3,Cl.put hA na c1 c2 c3,Cl.put hB nb c1 c2 c3,hR.put nr c1 c2 c3,hF.put nf c1 c2 c3,c1,c2,c3,LC.out.1,LC.out.2.1,LC.out.2.2,jw HQ.out ES.out et.out eu.out ev eA.out eD.out,hS.put c1 c2 c3⟩
      · have t4:¬(k:Int).tmod 4=0:=by rw [Int.tmod_eq_emod_of_nonneg hk0];omega
        by_cases h6:k<64
        · have h64:(k:Int)<64:=by omega
          obtain ⟨b1,b2,b3,m1,m2,m3,ed,CD⟩:=l7 lx ly lz
          have onS:EC.On (J3 sx sy sz).pt:=by rw [es];exact EC.Pt.on (EC.smul_on EC.gJ_on _) (EC.smul_on HQ.out _)
          have et:Hid ((J3 b1 b2 b3).pt=(J3 sx sy sz).pt.add (J3 sx sy sz).pt):=by show _=_;rw [ed,EC.jd_pt onS]
          have onT:Hid (EC.On (J3 b1 b2 b3).pt):=by show EC.On _;rw [et.out];exact EC.Pt.on onS onS
          have CDH:Hid (∀ w,Mds w→Rt 79 #[.agg #[.int .u64 (l0 sx),.int .u64 (l1 sx),.int .u64 (l2 sx),.int .u64 (l3 sx),.int .u64 (l0 sy),.int .u64 (l1 sy),.int .u64 (l2 sy),.int .u64 (l3 sy),.int .u64 (l0 sz),.int .u64 (l1 sz),.int .u64 (l2 sz),.int .u64 (l3 sz)]] w (.agg #[.int .u64 (l0 b1),.int .u64 (l1 b1),.int .u64 (l2 b1),.int .u64 (l3 b1),.int .u64 (l0 b2),.int .u64 (l1 b2),.int .u64 (l2 b2),.int .u64 (l3 b2),.int .u64 (l0 b3),.int .u64 (l1 b3),.int .u64 (l2 b3),.int .u64 (l3 b3)])):=CD
          have LB:Hid (EC.Low b1∧EC.Low b2∧EC.Low b3):=⟨m1,m2,m3⟩
          have ES:Hid ((J3 sx sy sz).pt=(EC.smul (aAt a (k+1)) EC.gJ.pt).add (EC.smul (bAt b.toNat (k+1)) (bI x y i))):=es
          clear CD ed onS m1 m2 m3 lx ly lz es
          have gS:=hS.1.cells
          go_wp2_with fail
          refine aa (fun W=>Below w.heap.size w W∧Mds W∧aM W∧Nm W w.heap.size a∧Nm W bb b∧aw W br∧bJ W bf (aQ f 16)∧TV W bs sx sy sz) ⟨B,hD,hC,hA,hB,hR,hF,hS⟩ ?_
          clear B hD hC hA hB hR hF hS gS
          rintro W ⟨B,hD,hC,hA,hB,hR,hF,hS⟩
          clear wr
          with_reducible refine (CDH.out _ hD).mono ?_
          rintro e w1 ⟨rfl,hb⟩
          replace B:=B.trans (hb.mono B.size)
          replace hD:=hD.keep hb;replace hC:=Pts.keep hC hb;replace hA:=hA.keep hb;replace hB:=hB.keep hb;replace hR:=hR.keep hb;replace hF:=hF.keep hb;replace hS:=hS.keep hb
          clear hb W CDH
          have gS:=hS.1.cells;have fS:=hS.free
          go_wp2_with fail
          refine af (fun W=>Below w.heap.size w W∧Mds W∧aM W∧Nm W w.heap.size a∧Nm W bb b∧aw W br∧bJ W bf (aQ f 16)∧TV W bs b1 b2 b3) ⟨bZ B os b1 b2 b3,hD.put nd b1 b2 b3,Pts.put hC nc b1 b2 b3,Cl.put hA na b1 b2 b3,Cl.put hB nb b1 b2 b3,hR.put nr b1 b2 b3,hF.put nf b1 b2 b3,hS.put b1 b2 b3⟩ ?_
          clear B hD hC hA hB hR hF hS gS fS
          rintro W ⟨B,hD,hC,hA,hB,hR,hF,hS⟩
          have eu:Hid ((J3 b1 b2 b3).pt=(J3 b1 b2 b3).pt.add (EC.smul 0 (bI x y i))):=(EC.add_o _).symm
          have eD:Hid (bAt b.toNat k=2*bAt b.toNat (k+1)+0):=mR _ h4
          have onU:=onT;have LC:=LB
          clear w1
          have hE16:=rV a k
          have gC:=fun d os=>Pts.keep hC (below_regrown W d os) (kf a k) hE16
          simp only [Nat.zero_add] at gC
          have hcp:=wG hE16
          have eA:Hid (aAt a k=2*aAt a (k+1)+EC.colK (kf a k)):=o5 a k
          have CG:=fun w=>j4 a (i:=(k:Int)) (by omega) (by omega) w
          simp only [Int.toNat_natCast] at CG
          generalize kf a k=E at *
          have eP:Hid ((eE.getD E ⟨0,0,true⟩).pt=bI (eE.getD E ⟨0,0,true⟩).x (eE.getD E ⟨0,0,true⟩).y (eE.getD E ⟨0,0,true⟩).i):=rfl
          generalize eE.getD E ⟨0,0,true⟩=cq at *
          obtain ⟨cx,cy,ci⟩:=cq
          simp only at gC hcp eP
          obtain ⟨a1,a2,a3,j1,j2,j3,ew,CW⟩:=l9 hcp.1
          obtain ⟨d1,d2,d3,k1,k2,k3,ec,CA⟩:=l8 LC.out.1 LC.out.2.1 LC.out.2.2 j1 j2 j3
          have onF:EC.On (J3 a1 a2 a3).pt:=by rw [ew];exact hcp.1.on
          have ev:Hid ((J3 d1 d2 d3).pt=(J3 b1 b2 b3).pt.add (EC.smul (EC.colK E) EC.gJ.pt)):=by show _=_;rw [ec,EC.ja_pt onU.out onF,ew,←hcp.2,eP.out]
          have CGH:Hid (∀ w,Rt 83 #[U4 a,.int .i64 (k:Int)] w (.int .u64 (E:Int))):=CG
          have CWH:Hid (∀ w,Rt 82 #[P9 cx cy ci] w (.agg #[.int .u64 (l0 a1),.int .u64 (l1 a1),.int .u64 (l2 a1),.int .u64 (l3 a1),.int .u64 (l0 a2),.int .u64 (l1 a2),.int .u64 (l2 a2),.int .u64 (l3 a2),.int .u64 (l0 a3),.int .u64 (l1 a3),.int .u64 (l2 a3),.int .u64 (l3 a3)])):=CW
          have CAH:Hid (∀ w,Mds w→Rt 80 #[.agg #[.int .u64 (l0 b1),.int .u64 (l1 b1),.int .u64 (l2 b1),.int .u64 (l3 b1),.int .u64 (l0 b2),.int .u64 (l1 b2),.int .u64 (l2 b2),.int .u64 (l3 b2),.int .u64 (l0 b3),.int .u64 (l1 b3),.int .u64 (l2 b3),.int .u64 (l3 b3)],.agg #[.int .u64 (l0 a1),.int .u64 (l1 a1),.int .u64 (l2 a1),.int .u64 (l3 a1),.int .u64 (l0 a2),.int .u64 (l1 a2),.int .u64 (l2 a2),.int .u64 (l3 a2),.int .u64 (l0 a3),.int .u64 (l1 a3),.int .u64 (l2 a3),.int .u64 (l3 a3)]] w (.agg #[.int .u64 (l0 d1),.int .u64 (l1 d1),.int .u64 (l2 d1),.int .u64 (l3 d1),.int .u64 (l0 d2),.int .u64 (l1 d2),.int .u64 (l2 d2),.int .u64 (l3 d2),.int .u64 (l0 d3),.int .u64 (l1 d3),.int .u64 (l2 d3),.int .u64 (l3 d3)])):=CA
          have LE:Hid (EC.Low d1∧EC.Low d2∧EC.Low d3):=⟨k1,k2,k3⟩
          clear CG CW CA onF ec ew hcp k1 k2 k3 j1 j2 j3 eP
          have q1:(0:Int)≤E∧(E:Int)<16:=by omega
          have e2:((E:Int)).toNat=E:=by omega
          have gS:=hS.1.grown;have gA:=hA.grown
          have hDg:∀ d os,Mds (grow (redrawn W d) os):=fun d os=>hD.keep (below_regrown W d os)
          refine aL 8 (by kernel_rfl) (by kernel_rfl) ?_
          simp only [List.take_succ_cons,List.take_zero,List.drop_succ_cons,List.drop_zero]
          repeat
            first
              | go_big_quiet_skip
              | (go_big_quiet_want;go_big_quiet_op;go_big_quiet_on)
              | (go_big_quiet_want
                 go_big_quiet_op
                 apply Exists.intro
                 refine ⟨fun p=>?_,?_⟩
                 · (first|(go_at_call 83;with_reducible exact Calls.regrown_of (CGH.out _))|(go_at_call 82;with_reducible exact Calls.regrown_of (CWH.out _))|(go_at_call 80;with_reducible exact Calls.regrown_of (CAH.out _ (hDg p.d p.os))))
                 go_big_quiet_on)
          refine wpQuiet_nil ?_
          rintro w3 ⟨p,rfl⟩
          have hb:=below_regrown W p.d p.os
          generalize grow (redrawn W p.d) p.os=w3 at *
          replace B:=B.trans (hb.mono B.size)
          replace hD:=hD.keep hb;replace hC:=Pts.keep hC hb;replace hA:=hA.keep hb;replace hB:=hB.keep hb;replace hR:=hR.keep hb;replace hF:=hF.keep hb;replace hS:=hS.keep hb
          clear hb gS gA gC hDg CGH CWH CAH W q1 e2 hE16
          have gS:=hS.1.cells;have fS:=hS.free
          go_wp2_with fail
          go_roundg k
          case measure=>have:=hk;omega
          case rel =>
            exact ⟨k,rfl,by omega,by go_num,bZ B os d1 d2 d3,hD.put nd d1 d2 d3,Pts.put hC nc d1 d2 d3,Cl.put hA na d1 d2 d3,Cl.put hB nb d1 d2 d3,hR.put nr d1 d2 d3,hF.put nf d1 d2 d3,d1,d2,d3,LE.out.1,LE.out.2.1,LE.out.2.2,jw HQ.out ES.out et.out eu.out ev.out eA.out eD.out,hS.put d1 d2 d3⟩
        · have h64:¬(k:Int)<64:=by omega
          obtain ⟨b1,b2,b3,m1,m2,m3,ed,CD⟩:=l7 lx ly lz
          have onS:EC.On (J3 sx sy sz).pt:=by rw [es];exact EC.Pt.on (EC.smul_on EC.gJ_on _) (EC.smul_on HQ.out _)
          have et:Hid ((J3 b1 b2 b3).pt=(J3 sx sy sz).pt.add (J3 sx sy sz).pt):=by show _=_;rw [ed,EC.jd_pt onS]
          have onT:Hid (EC.On (J3 b1 b2 b3).pt):=by show EC.On _;rw [et.out];exact EC.Pt.on onS onS
          have CDH:Hid (∀ w,Mds w→Rt 79 #[.agg #[.int .u64 (l0 sx),.int .u64 (l1 sx),.int .u64 (l2 sx),.int .u64 (l3 sx),.int .u64 (l0 sy),.int .u64 (l1 sy),.int .u64 (l2 sy),.int .u64 (l3 sy),.int .u64 (l0 sz),.int .u64 (l1 sz),.int .u64 (l2 sz),.int .u64 (l3 sz)]] w (.agg #[.int .u64 (l0 b1),.int .u64 (l1 b1),.int .u64 (l2 b1),.int .u64 (l3 b1),.int .u64 (l0 b2),.int .u64 (l1 b2),.int .u64 (l2 b2),.int .u64 (l3 b2),.int .u64 (l0 b3),.int .u64 (l1 b3),.int .u64 (l2 b3),.int .u64 (l3 b3)])):=CD
          have LB:Hid (EC.Low b1∧EC.Low b2∧EC.Low b3):=⟨m1,m2,m3⟩
          have ES:Hid ((J3 sx sy sz).pt=(EC.smul (aAt a (k+1)) EC.gJ.pt).add (EC.smul (bAt b.toNat (k+1)) (bI x y i))):=es
          clear CD ed onS m1 m2 m3 lx ly lz es
          have gS:=hS.1.cells
          go_wp2_with fail
          refine aa (fun W=>Below w.heap.size w W∧Mds W∧aM W∧Nm W w.heap.size a∧Nm W bb b∧aw W br∧bJ W bf (aQ f 16)∧TV W bs sx sy sz) ⟨B,hD,hC,hA,hB,hR,hF,hS⟩ ?_
          clear B hD hC hA hB hR hF hS gS
          rintro W ⟨B,hD,hC,hA,hB,hR,hF,hS⟩
          clear wr
          with_reducible refine (CDH.out _ hD).mono ?_
          rintro e w1 ⟨rfl,hb⟩
          replace B:=B.trans (hb.mono B.size)
          replace hD:=hD.keep hb;replace hC:=Pts.keep hC hb;replace hA:=hA.keep hb;replace hB:=hB.keep hb;replace hR:=hR.keep hb;replace hF:=hF.keep hb;replace hS:=hS.keep hb
          clear hb W CDH
          have gS:=hS.1.cells;have fS:=hS.free
          go_wp2_with fail
          have eu:Hid ((J3 b1 b2 b3).pt=(J3 b1 b2 b3).pt.add (EC.smul 0 (bI x y i))):=(EC.add_o _).symm
          have eD:Hid (bAt b.toNat k=2*bAt b.toNat (k+1)+0):=mR _ h4
          have onU:=onT;have LC:=LB
          have eA:Hid (aAt a k=2*aAt a (k+1)+0):=by show _=_;rw [jb a (by omega),jb a (by omega)]
          have ev:(J3 b1 b2 b3).pt=(J3 b1 b2 b3).pt.add (EC.smul 0 EC.gJ.pt):=(EC.add_o _).symm
          go_roundg k
          case measure=>have:=hk;omega
          case rel =>
            exact ⟨k,rfl,by omega,by go_num,bZ B os b1 b2 b3,hD.put nd b1 b2 b3,Pts.put hC nc b1 b2 b3,Cl.put hA na b1 b2 b3,Cl.put hB nb b1 b2 b3,hR.put nr b1 b2 b3,hF.put nf b1 b2 b3,b1,b2,b3,LC.out.1,LC.out.2.1,LC.out.2.2,jw HQ.out ES.out et.out eu.out ev eA.out eD.out,hS.put b1 b2 b3⟩
open Go.RowKit Go.Sort
abbrev OnT:={t:T3 // t.Low∧EC.On t.j.pt}
def ny (TW:OnT→OnT) (s:OnT):OnT:=if s.1.z=0 then s else TW s
def nA (b:Int) (TW BO:OnT→OnT) (k:Nat) (s:OnT):OnT:=if cG b (k:Int)=1 then BO (ny TW s) else ny TW s
def AX:OnT:=⟨⟨0,0,0⟩,⟨dk,dk,dk⟩,by rw [show (T3.j ⟨0,0,0⟩).pt = .o from EC.pt_o EC.fp_zero];exact EC.on_o⟩
def AY (b:Int) (TW BO:OnT→OnT):Nat→OnT
 | 0=>AX
 | j+1=>nA b TW BO (255-j) (AY b TW BO j)
def stT (b:Int) (TW BO:OnT→OnT) (n:Nat):OnT:=AY b TW BO (256-n)
theorem pS (b:Int) (TW BO:OnT→OnT) {k:Nat} (hk:k<256):stT b TW BO k=nA b TW BO k (stT b TW BO (k+1)):=by
 unfold stT
 rw [show 256-k=(256-(k+1))+1 by omega]
 show nA b TW BO (255-(256-(k+1))) _=_
 rw [show 255-(256-(k+1))=k by omega]
theorem yD {b:Int} (hb:Num b) {k:Nat} (hk:k<256):cG b (k:Int)=((b.toNat/2 ^ k%2:Nat):Int):=by
 unfold cG
 rw [if_neg (by omega)]
 obtain ⟨n,rfl⟩:=Int.eq_ofNat_of_zero_le hb.1
 simp
theorem wK {b:Int} {TW BO:OnT→OnT} {p:EC.Pt} (hp:EC.On p) (hb:Num b) (hT:∀ s,(TW s).1.j.pt=s.1.j.pt.add s.1.j.pt) (hB:∀ s,(BO s).1.j.pt=s.1.j.pt.add p):∀ m,m≤256→(stT b TW BO (256-m)).1.j.pt=EC.smul (b.toNat/2 ^ (256-m)) p
 | 0,_=>by
  rw [show b.toNat/2 ^ (256-0)=0 from Nat.div_eq_of_lt (by have:=hb.2;have:=hb.1;omega)]
  exact EC.pt_o EC.fp_zero
 | m+1,hm=>by
  have ih:=wK hp hb hT hB m (by omega)
  obtain ⟨k,hk⟩:∃ k,k=256-(m+1):=⟨_,rfl⟩
  rw [←hk,pS b TW BO (by omega),show k+1=256-m by omega]
  have hd:(ny TW (stT b TW BO (256-m))).1.j.pt=EC.smul (2*(b.toNat/2 ^ (256-m))) p:=by
   unfold ny
   split
   ·next hz =>
    have e0:(stT b TW BO (256-m)).1.j.pt = .o:=EC.pt_o (by show EC.fp _=0;rw [hz,EC.fp_zero])
    rw [e0] at ih
    rw [e0,show 2*(b.toNat/2 ^ (256-m))=b.toNat/2 ^ (256-m)+b.toNat/2 ^ (256-m) by omega,EC.smul_add hp,←ih]
    rfl
   ·rw [hT,ih,←EC.smul_add hp]
    congr 1;omega
  have hh:=fX b.toNat k
  rw [show k+1=256-m by omega] at hh
  unfold nA
  rw [yD hb (by omega)]
  split
  ·next h1 =>
   rw [hB,hd,hh,show b.toNat/2 ^ k%2=1 by omega]
   rfl
  ·next h1 =>
   rw [hd,hh,show b.toNat/2 ^ k%2=0 by omega]
   rfl
theorem km {b x y:Int} {i:Bool} {t:T3} {TW BO:OnT→OnT} (hb0:Num b) (CTh:Hid (∀ w,Rt 148 #[P9 x y i] w (.agg #[.int .u64 (l0 t.x),.int .u64 (l1 t.x),.int .u64 (l2 t.x),.int .u64 (l3 t.x),.int .u64 (l0 t.y),.int .u64 (l1 t.y),.int .u64 (l2 t.y),.int .u64 (l3 t.y),.int .u64 (l0 t.z),.int .u64 (l1 t.z),.int .u64 (l2 t.z),.int .u64 (l3 t.z)]))) (CTw:Hid (∀ s:OnT,∀ w,Rt 149 #[.agg #[.int .u64 (l0 s.1.x),.int .u64 (l1 s.1.x),.int .u64 (l2 s.1.x),.int .u64 (l3 s.1.x),.int .u64 (l0 s.1.y),.int .u64 (l1 s.1.y),.int .u64 (l2 s.1.y),.int .u64 (l3 s.1.y),.int .u64 (l0 s.1.z),.int .u64 (l1 s.1.z),.int .u64 (l2 s.1.z),.int .u64 (l3 s.1.z)]] w (.agg #[.int .u64 (l0 (TW s).1.x),.int .u64 (l1 (TW s).1.x),.int .u64 (l2 (TW s).1.x),.int .u64 (l3 (TW s).1.x),.int .u64 (l0 (TW s).1.y),.int .u64 (l1 (TW s).1.y),.int .u64 (l2 (TW s).1.y),.int .u64 (l3 (TW s).1.y),.int .u64 (l0 (TW s).1.z),.int .u64 (l1 (TW s).1.z),.int .u64 (l2 (TW s).1.z),.int .u64 (l3 (TW s).1.z)])))
  (CBo:Hid (∀ s:OnT,∀ w,Rt 151 #[.agg #[.int .u64 (l0 s.1.x),.int .u64 (l1 s.1.x),.int .u64 (l2 s.1.x),.int .u64 (l3 s.1.x),.int .u64 (l0 s.1.y),.int .u64 (l1 s.1.y),.int .u64 (l2 s.1.y),.int .u64 (l3 s.1.y),.int .u64 (l0 s.1.z),.int .u64 (l1 s.1.z),.int .u64 (l2 s.1.z),.int .u64 (l3 s.1.z)],.agg #[.int .u64 (l0 t.x),.int .u64 (l1 t.x),.int .u64 (l2 t.x),.int .u64 (l3 t.x),.int .u64 (l0 t.y),.int .u64 (l1 t.y),.int .u64 (l2 t.y),.int .u64 (l3 t.y),.int .u64 (l0 t.z),.int .u64 (l1 t.z),.int .u64 (l2 t.z),.int .u64 (l3 t.z)]] w (.agg #[.int .u64 (l0 (BO s).1.x),.int .u64 (l1 (BO s).1.x),.int .u64 (l2 (BO s).1.x),.int .u64 (l3 (BO s).1.x),.int .u64 (l0 (BO s).1.y),.int .u64 (l1 (BO s).1.y),.int .u64 (l2 (BO s).1.y),.int .u64 (l3 (BO s).1.y),.int .u64 (l0 (BO s).1.z),.int .u64 (l1 (BO s).1.z),.int .u64 (l2 (BO s).1.z),.int .u64 (l3 (BO s).1.z)]))) (w:World) :
  Rt 114 #[U4 b,P9 x y i] w (.agg #[.int .u64 (l0 (stT b TW BO 0).1.x),.int .u64 (l1 (stT b TW BO 0).1.x),.int .u64 (l2 (stT b TW BO 0).1.x),.int .u64 (l3 (stT b TW BO 0).1.x),.int .u64 (l0 (stT b TW BO 0).1.y),.int .u64 (l1 (stT b TW BO 0).1.y),.int .u64 (l2 (stT b TW BO 0).1.y),.int .u64 (l3 (stT b TW BO 0).1.y),.int .u64 (l0 (stT b TW BO 0).1.z),.int .u64 (l1 (stT b TW BO 0).1.z),.int .u64 (l2 (stT b TW BO 0).1.z),.int .u64 (l3 (stT b TW BO 0).1.z)]):=by
 have HB:Hid (Num b):=hb0
 clear hb0
 go_enter Tryz.func114,Tryz.ntmps114
 go_wp2_with fail
 refine aa (fun W=>Below w.heap.size w W∧Nm W w.heap.size b∧aw W (w.heap.size+1+1)) ⟨by repeat (first|with_reducible exact Below.refl _ _|with_reducible refine Below.alloc ?_ (by first|omega|(simp;done)|(simp;omega)) _),Nm.alloc (Nm.alloc (Cl.new _ rfl rfl) _) _,aw.new (by simp)⟩ ?_
 rintro W ⟨B,hK,hR⟩
 have or:w.heap.size≤w.heap.size+1+1:=by omega
 generalize w.heap.size+1+1=br at *
 with_reducible refine (CTh.out _).mono ?_
 rintro e w1 ⟨rfl,hb⟩
 replace B:=B.trans (hb.mono B.size)
 replace hK:=hK.keep hb;replace hR:=hR.keep hb
 clear hb W CTh
 go_wp2_with fail
 refine af (fun W=>Below w.heap.size w W∧Nm W w.heap.size b∧aw W br∧Thr W w1.heap.size t.x t.y t.z∧TV W (w1.heap.size+1) 0 0 0)
  ⟨(B.alloc B.size _).alloc (by have:=B.size;simp;omega) _,(hK.alloc _).alloc _,(hR.alloc _).alloc _,(Thr.new rfl).alloc _,(aw.new (by simp)).tv⟩ ?_
 have os:w.heap.size≤w1.heap.size+1:=by have:=B.size;omega
 have nk:w1.heap.size+1≠w.heap.size:=by have:=B.size;omega
 have nr:w1.heap.size+1≠br:=by have:=hR.lt;omega
 have nt:w1.heap.size+1≠w1.heap.size:=by omega
 clear B hK hR
 generalize w1.heap.size+1=bs at *
 generalize w1.heap.size=bt at *
 clear w1
 rintro W ⟨B,hK,hR,hT,hS⟩
 go_loopg [7] 256 (fun k iv wr=>∃ n:Nat,k=n∧n≤256∧iv = .int .i64 ((n:Int)-1)∧Below w.heap.size w wr∧Nm wr w.heap.size b∧aw wr br∧Thr wr bt t.x t.y t.z∧TV wr bs (stT b TW BO n).1.x (stT b TW BO n).1.y (stT b TW BO n).1.z)
 case atStart=>exact ⟨256,rfl,by decide,rfl,B,hK,hR,hT,hS⟩
 case round =>
  clear B hK hR hT hS W
  obtain ⟨n,hk,hn,hiv,B,hK,hR,hT,hS⟩:=hrel
  cases n with
  | zero =>
   rw [show (((0:Nat):Int)-1) = -1 by rfl] at hiv
   subst hiv
   have gS:=hS.1.cells;have gR:=hR.cells;have fR:=hR.free
   clear hK hT hn hS
   generalize h0:stT b TW BO 0=s0 at *
   go_wp2
   refine bodyPost_ret (v:=.agg #[.int .u64 (l0 s0.1.x),.int .u64 (l1 s0.1.x),.int .u64 (l2 s0.1.x),.int .u64 (l3 s0.1.x),.int .u64 (l0 s0.1.y),.int .u64 (l1 s0.1.y),.int .u64 (l2 s0.1.y),.int .u64 (l3 s0.1.y),.int .u64 (l0 s0.1.z),.int .u64 (l1 s0.1.z),.int .u64 (l2 s0.1.z),.int .u64 (l3 s0.1.z)]) ?_ rfl ⟨by rw [←h0],?_⟩
   ·simp [results,Tryz.results114,go_sem,gR]
   ·repeat (first|with_reducible exact B|with_reducible refine Below.setCell ?_ or _)
  | succ k =>
   rw [show (((k+1:Nat):Int)-1)=(k:Int) by omega] at hiv
   subst hiv
   have hk256:k<256:=by omega
   have hst:=pS b TW BO hk256
   have hk0:(0:Int)≤(k:Int):=by omega
   have CBt:Hid (∀ w,Rt 150 #[U4 b,.int .i64 (k:Int)] w (.int .i64 (cG b (k:Int)))):=fun w=>gG HB.out w
   generalize stT b TW BO (k+1)=s at *
   have gS:=hS.1.cells;have fS:=hS.free
   by_cases hz:s.1.z=0
   ·have Ez:=eqz s.2.1.2.2.num (decide_eq_true hz)
    have hst:stT b TW BO k=if cG b (k:Int)=1 then BO s else s:=by rw [hst];unfold nA ny;rw [if_pos hz]
    clear hz
    have gK:=hK.cells
    go_wp2_with fail
    refine aa (fun W=>Below w.heap.size w W∧Nm W w.heap.size b∧aw W br∧Thr W bt t.x t.y t.z∧TV W bs s.1.x s.1.y s.1.z) ⟨B,hK,hR,hT,hS⟩ ?_
    clear B hK hR hT hS gS fS gK
    rintro W ⟨B,hK,hR,hT,hS⟩
    with_reducible refine (CBt.out _).mono ?_
    rintro e w3 ⟨rfl,hb⟩
    replace B:=B.trans (hb.mono B.size)
    replace hK:=hK.keep hb;replace hR:=hR.keep hb;replace hT:=hT.keep hb;replace hS:=hS.keep hb
    clear hb W
    have gS:=hS.1.cells;have fS:=hS.free
    by_cases h1:cG b (k:Int)=1
    ·rw [if_pos h1] at hst
     have gT:=hT.cells
     go_wp2_with fail
     refine aa (fun W=>Below w.heap.size w W∧Nm W w.heap.size b∧aw W br∧Thr W bt t.x t.y t.z∧TV W bs s.1.x s.1.y s.1.z) ⟨B,hK,hR,hT,hS⟩ ?_
     clear B hK hR hT hS gS fS gT
     rintro W ⟨B,hK,hR,hT,hS⟩
     with_reducible refine (CBo.out s _).mono ?_
     rintro e w4 ⟨rfl,hb⟩
     replace B:=B.trans (hb.mono B.size)
     replace hK:=hK.keep hb;replace hR:=hR.keep hb;replace hT:=hT.keep hb;replace hS:=hS.keep hb
     clear hb W
     have gS:=hS.1.cells;have fS:=hS.free
     go_wp2_with fail
     go_roundg k
     case measure=>have:=hk;omega
     case rel =>
      refine ⟨k,rfl,by omega,by go_num,bZ B os (BO (s)).1.x (BO (s)).1.y (BO (s)).1.z,Cl.put hK nk (BO (s)).1.x (BO (s)).1.y (BO (s)).1.z,hR.put nr (BO (s)).1.x (BO (s)).1.y (BO (s)).1.z,Cl.put hT nt (BO (s)).1.x (BO (s)).1.y (BO (s)).1.z,?_⟩
      rw [hst]
      exact hS.put _ _ _
    ·rw [if_neg h1] at hst
     go_wp2_with fail
     go_roundg k
     case measure=>have:=hk;omega
     case rel =>
      refine ⟨k,rfl,by omega,by go_num,B,hK,hR,hT,?_⟩
      rw [hst]
      exact hS
   ·have Ez:=eqz s.2.1.2.2.num (decide_eq_false hz)
    have hst:stT b TW BO k=if cG b (k:Int)=1 then BO (TW s) else TW s:=by rw [hst];unfold nA ny;rw [if_neg hz]
    clear hz
    go_wp2_with fail
    refine aa (fun W=>Below w.heap.size w W∧Nm W w.heap.size b∧aw W br∧Thr W bt t.x t.y t.z∧TV W bs s.1.x s.1.y s.1.z) ⟨B,hK,hR,hT,hS⟩ ?_
    clear B hK hR hT hS gS fS
    rintro W ⟨B,hK,hR,hT,hS⟩
    with_reducible refine (CTw.out s _).mono ?_
    rintro e w2 ⟨rfl,hb⟩
    replace B:=B.trans (hb.mono B.size)
    replace hK:=hK.keep hb;replace hR:=hR.keep hb;replace hT:=hT.keep hb;replace hS:=hS.keep hb
    clear hb W
    have gS:=hS.1.cells;have fS:=hS.free
    have gK:=hK.cells
    go_wp2_with fail
    refine aa (fun W=>Below w.heap.size w W∧Nm W w.heap.size b∧aw W br∧Thr W bt t.x t.y t.z∧TV W bs (TW s).1.x (TW s).1.y (TW s).1.z) ⟨bZ B os (TW s).1.x (TW s).1.y (TW s).1.z,Cl.put hK nk (TW s).1.x (TW s).1.y (TW s).1.z,hR.put nr (TW s).1.x (TW s).1.y (TW s).1.z,Cl.put hT nt (TW s).1.x (TW s).1.y (TW s).1.z,hS.put (TW s).1.x (TW s).1.y (TW s).1.z⟩ ?_
    clear B hK hR hT hS gS fS gK
    rintro W ⟨B,hK,hR,hT,hS⟩
    with_reducible refine (CBt.out _).mono ?_
    rintro e w3 ⟨rfl,hb⟩
    replace B:=B.trans (hb.mono B.size)
    replace hK:=hK.keep hb;replace hR:=hR.keep hb;replace hT:=hT.keep hb;replace hS:=hS.keep hb
    clear hb W
    have gS:=hS.1.cells;have fS:=hS.free
    by_cases h1:cG b (k:Int)=1
    ·rw [if_pos h1] at hst
     have gT:=hT.cells
     go_wp2_with fail
     refine aa (fun W=>Below w.heap.size w W∧Nm W w.heap.size b∧aw W br∧Thr W bt t.x t.y t.z∧TV W bs (TW s).1.x (TW s).1.y (TW s).1.z) ⟨B,hK,hR,hT,hS⟩ ?_
     clear B hK hR hT hS gS fS gT
     rintro W ⟨B,hK,hR,hT,hS⟩
     with_reducible refine (CBo.out (TW s) _).mono ?_
     rintro e w4 ⟨rfl,hb⟩
     replace B:=B.trans (hb.mono B.size)
     replace hK:=hK.keep hb;replace hR:=hR.keep hb;replace hT:=hT.keep hb;replace hS:=hS.keep hb
     clear hb W
     have gS:=hS.1.cells;have fS:=hS.free
     go_wp2_with fail
     go_roundg k
     case measure=>have:=hk;omega
     case rel =>
      refine ⟨k,rfl,by omega,by go_num,bZ B os (BO ((TW s))).1.x (BO ((TW s))).1.y (BO ((TW s))).1.z,Cl.put hK nk (BO ((TW s))).1.x (BO ((TW s))).1.y (BO ((TW s))).1.z,hR.put nr (BO ((TW s))).1.x (BO ((TW s))).1.y (BO ((TW s))).1.z,Cl.put hT nt (BO ((TW s))).1.x (BO ((TW s))).1.y (BO ((TW s))).1.z,?_⟩
      rw [hst]
      exact hS.put _ _ _
    ·rw [if_neg h1] at hst
     go_wp2_with fail
     go_roundg k
     case measure=>have:=hk;omega
     case rel =>
      refine ⟨k,rfl,by omega,by go_num,B,hK,hR,hT,?_⟩
      rw [hst]
      exact hS
theorem mf {b x y:Int} {i:Bool} (hb:Num b) (hv:Vd x y i):∃ t:T3,t.Low∧t.j.pt=EC.smul b.toNat (bI x y i)∧∀ w,Rt 114 #[U4 b,P9 x y i] w (.agg #[.int .u64 (l0 t.x),.int .u64 (l1 t.x),.int .u64 (l2 t.x),.int .u64 (l3 t.x),.int .u64 (l0 t.y),.int .u64 (l1 t.y),.int .u64 (l2 t.y),.int .u64 (l3 t.y),.int .u64 (l0 t.z),.int .u64 (l1 t.z),.int .u64 (l2 t.z),.int .u64 (l3 t.z)]):=by
 obtain ⟨a1,a2,a3,k1,k2,k3,et,CT⟩:=tV hv
 have onT:EC.On (J3 a1 a2 a3).pt:=by rw [et];exact hv.on
 have s1:∀ s:OnT,∃ u:OnT,u.1.j.pt=s.1.j.pt.add s.1.j.pt∧∀ w,Rt 149 #[.agg #[.int .u64 (l0 s.1.x),.int .u64 (l1 s.1.x),.int .u64 (l2 s.1.x),.int .u64 (l3 s.1.x),.int .u64 (l0 s.1.y),.int .u64 (l1 s.1.y),.int .u64 (l2 s.1.y),.int .u64 (l3 s.1.y),.int .u64 (l0 s.1.z),.int .u64 (l1 s.1.z),.int .u64 (l2 s.1.z),.int .u64 (l3 s.1.z)]] w (.agg #[.int .u64 (l0 u.1.x),.int .u64 (l1 u.1.x),.int .u64 (l2 u.1.x),.int .u64 (l3 u.1.x),.int .u64 (l0 u.1.y),.int .u64 (l1 u.1.y),.int .u64 (l2 u.1.y),.int .u64 (l3 u.1.y),.int .u64 (l0 u.1.z),.int .u64 (l1 u.1.z),.int .u64 (l2 u.1.z),.int .u64 (l3 u.1.z)]):=fun ⟨s,ls,os⟩=>by
  obtain ⟨b1,b2,b3,m1,m2,m3,ep,CA⟩:=qZ ls.1 ls.2.1 ls.2.2 os
  exact ⟨⟨⟨b1,b2,b3⟩,⟨m1,m2,m3⟩,by rw [show (T3.j ⟨b1,b2,b3⟩).pt=_ from ep];exact EC.Pt.on os os⟩,ep,CA⟩
 have s2:∀ s:OnT,∃ u:OnT,u.1.j.pt=s.1.j.pt.add (bI x y i)∧∀ w,Rt 151 #[.agg #[.int .u64 (l0 s.1.x),.int .u64 (l1 s.1.x),.int .u64 (l2 s.1.x),.int .u64 (l3 s.1.x),.int .u64 (l0 s.1.y),.int .u64 (l1 s.1.y),.int .u64 (l2 s.1.y),.int .u64 (l3 s.1.y),.int .u64 (l0 s.1.z),.int .u64 (l1 s.1.z),.int .u64 (l2 s.1.z),.int .u64 (l3 s.1.z)],.agg #[.int .u64 (l0 a1),.int .u64 (l1 a1),.int .u64 (l2 a1),.int .u64 (l3 a1),.int .u64 (l0 a2),.int .u64 (l1 a2),.int .u64 (l2 a2),.int .u64 (l3 a2),.int .u64 (l0 a3),.int .u64 (l1 a3),.int .u64 (l2 a3),.int .u64 (l3 a3)]] w (.agg #[.int .u64 (l0 u.1.x),.int .u64 (l1 u.1.x),.int .u64 (l2 u.1.x),.int .u64 (l3 u.1.x),.int .u64 (l0 u.1.y),.int .u64 (l1 u.1.y),.int .u64 (l2 u.1.y),.int .u64 (l3 u.1.y),.int .u64 (l0 u.1.z),.int .u64 (l1 u.1.z),.int .u64 (l2 u.1.z),.int .u64 (l3 u.1.z)]):=fun ⟨s,ls,os⟩=>by
  obtain ⟨b1,b2,b3,m1,m2,m3,ej,CA⟩:=wJ ls.1 ls.2.1 ls.2.2 k1 k2 k3
  have ep:(T3.j ⟨b1,b2,b3⟩).pt=s.j.pt.add (bI x y i):=by
   show (J3 b1 b2 b3).pt=_
   rw [ej,←et]
   exact EC.ja_pt os onT
  exact ⟨⟨⟨b1,b2,b3⟩,⟨m1,m2,m3⟩,by rw [ep];exact EC.Pt.on os hv.on⟩,ep,CA⟩
 obtain ⟨TW,hT⟩:=Classical.skolem.1 s1
 obtain ⟨BO,hB⟩:=Classical.skolem.1 s2
 refine ⟨(stT b TW BO 0).1,(stT b TW BO 0).2.1,?_,fun w=>km (t:=⟨a1,a2,a3⟩) hb CT (fun s w=>(hT s).2 w) (fun s w=>(hB s).2 w) w⟩
 have:=wK hv.on hb (fun s=>(hT s).1) (fun s=>(hB s).1) 256 (Nat.le_refl _)
 simpa using this
open Go.RowKit Go.Sort
theorem q9 {a b x y:Int} {i:Bool} (ha:Num a) (hb:Num b) (hv:Vd x y i):Hid (∀ w,Mds w→aM w→Calls Tryz.prog 44 #[.agg #[.int .u64 (l0 a),.int .u64 (l1 a),.int .u64 (l2 a),.int .u64 (l3 a)],.agg #[.int .u64 (l0 b),.int .u64 (l1 b),.int .u64 (l2 b),.int .u64 (l3 b)],.agg #[.int .u64 (l0 x),.int .u64 (l1 x),.int .u64 (l2 x),.int .u64 (l3 x),.int .u64 (l0 y),.int .u64 (l1 y),.int .u64 (l2 y),.int .u64 (l3 y),.bool i]] w fun e w'=>∃ x' y' z',EC.Low x'∧EC.Low y'∧EC.Low z'∧(J3 x' y' z').pt=(EC.smul a.toNat EC.gJ.pt).add (EC.smul b.toNat (bI x y i))∧e = .returned (.agg #[.int .u64 (l0 x'),.int .u64 (l1 x'),.int .u64 (l2 x'),.int .u64 (l3 x'),.int .u64 (l0 y'),.int .u64 (l1 y'),.int .u64 (l2 y'),.int .u64 (l3 y'),.int .u64 (l0 z'),.int .u64 (l1 z'),.int .u64 (l2 z'),.int .u64 (l3 z')])∧Below w.heap.size w w'):=fun w hm hc=>by
 obtain ⟨t,f,CW,h0,hf⟩:=tM hv
 exact pR hb hv (fun k=>⟨(hf k).1,(hf k).2.1⟩) (fun w hm=>pL CW h0 (fun k w hm=>(hf k).2.2 w hm) w hm) ha w hm hc
theorem yE {a b x y x' y':Int} {i j:Bool} {p:EC.Pt} (C0:Hid (∀ w,Mds w→Calls Tryz.prog 93 #[.agg #[.int .u64 (l0 x),.int .u64 (l1 x),.int .u64 (l2 x),.int .u64 (l3 x),.int .u64 (l0 y),.int .u64 (l1 y),.int .u64 (l2 y),.int .u64 (l3 y),.bool i]] w fun e w'=>e = .returned (.bool true)∧Below w.heap.size w w')) (CB:Hid (∀ w,Mds w→aM w→Calls Tryz.prog 44 #[.agg #[.int .u64 (l0 a),.int .u64 (l1 a),.int .u64 (l2 a),.int .u64 (l3 a)],.agg #[.int .u64 (l0 b),.int .u64 (l1 b),.int .u64 (l2 b),.int .u64 (l3 b)],.agg #[.int .u64 (l0 x),.int .u64 (l1 x),.int .u64 (l2 x),.int .u64 (l3 x),.int .u64 (l0 y),.int .u64 (l1 y),.int .u64 (l2 y),.int .u64 (l3 y),.bool i]] w fun e w'=>∃ x' y' z',EC.Low x'∧EC.Low y'∧EC.Low z'∧(J3 x' y' z').pt=p∧e = .returned (.agg #[.int .u64 (l0 x'),.int .u64 (l1 x'),.int .u64 (l2 x'),.int .u64 (l3 x'),.int .u64 (l0 y'),.int .u64 (l1 y'),.int .u64 (l2 y'),.int .u64 (l3 y'),.int .u64 (l0 z'),.int .u64 (l1 z'),.int .u64 (l2 z'),.int .u64 (l3 z')])∧Below w.heap.size w w')) (HJ:Hid (Vd x' y' j∧bI x' y' j=p)) (w:World) (hm:Mds w) (hc:aM w) :
  Calls Tryz.prog 49 #[.agg #[.int .u64 (l0 a),.int .u64 (l1 a),.int .u64 (l2 a),.int .u64 (l3 a)],.agg #[.int .u64 (l0 b),.int .u64 (l1 b),.int .u64 (l2 b),.int .u64 (l3 b)],.agg #[.int .u64 (l0 x),.int .u64 (l1 x),.int .u64 (l2 x),.int .u64 (l3 x),.int .u64 (l0 y),.int .u64 (l1 y),.int .u64 (l2 y),.int .u64 (l3 y),.bool i]] w fun e w'=>e = .returned (.tuple #[.agg #[.int .u64 (l0 x'),.int .u64 (l1 x'),.int .u64 (l2 x'),.int .u64 (l3 x'),.int .u64 (l0 y'),.int .u64 (l1 y'),.int .u64 (l2 y'),.int .u64 (l3 y'),.bool j],.int .i64 0])∧Below w.heap.size w w':=by
 go_enter Tryz.func49,Tryz.ntmps49
 go_wp2_with fail
 refine aa (fun W=>Below w.heap.size w W∧Mds W∧aM W∧Nm W w.heap.size a∧Nm W (w.heap.size+1) b∧Pnt W (w.heap.size+1+1) x y i∧Bk9 W (w.heap.size+1+1+1))
  ⟨by repeat (first|with_reducible exact Below.refl _ _|with_reducible refine Below.alloc ?_ (by first|omega|(simp;done)|(simp;omega)) _),(((hm.alloc _).alloc _).alloc _).alloc _,(((Pts.alloc hc _).alloc _).alloc _).alloc _,(((Cl.new _ rfl rfl).alloc _).alloc _).alloc _,((Cl.new _ (by simp) rfl).alloc _).alloc _,(Pnt.new (by simp)).alloc _,Bk9.new (by simp)⟩ ?_
 rintro W ⟨B,hD,hC,hA,hB,hQ,hR⟩
 have o3:w.heap.size≤w.heap.size+1+1+1:=by omega
 generalize w.heap.size+1+1+1=br at *
 generalize w.heap.size+1+1=bq at *
 generalize w.heap.size+1=bb at *
 with_reducible refine (C0.out _ hD).mono ?_
 rintro e w1 ⟨rfl,hb⟩
 replace B:=B.trans (hb.mono B.size)
 replace hD:=hD.keep hb;replace hC:=Pts.keep hC hb;replace hA:=hA.keep hb;replace hB:=hB.keep hb;replace hQ:=hQ.keep hb;replace hR:=hR.keep hb
 clear hb W
 have gA:=hA.cells;have gB:=hB.cells;have gQ:=hQ.cells
 go_wp2_with fail
 refine aa (fun W=>Below w.heap.size w W∧Mds W∧aM W∧Bk9 W br) ⟨B,hD,hC,hR⟩ ?_
 clear B hD hC hA hB hQ hR gA gB gQ
 rintro W ⟨B,hD,hC,hR⟩
 clear w1
 with_reducible refine (CB.out _ hD hC).mono ?_
 rintro e w1 ⟨tx,ty,tz,s1,s2,s3,ep,rfl,hb⟩
 replace B:=B.trans (hb.mono B.size)
 replace hD:=hD.keep hb;replace hR:=hR.keep hb
 clear hb W hC CB
 obtain ⟨px,py,pi,u1,u2,u3,u4,CP⟩:=pJ s1 s2 s3
 have hvd:Vd px py pi:=by
  have hon:EC.On (bI px py pi):=by rw [u4,ep,←HJ.out.2];exact HJ.out.1.on
  cases pi with
  | true=>exact u3 rfl
  | false=>exact ⟨u1,u2,hon⟩
 obtain ⟨rfl,rfl,rfl⟩:=hvd.inj HJ.out.1 (by rw [u4,ep,HJ.out.2])
 have CPH:Hid (∀ w,Mds w→Calls Tryz.prog 45 #[.agg #[.int .u64 (l0 tx),.int .u64 (l1 tx),.int .u64 (l2 tx),.int .u64 (l3 tx),.int .u64 (l0 ty),.int .u64 (l1 ty),.int .u64 (l2 ty),.int .u64 (l3 ty),.int .u64 (l0 tz),.int .u64 (l1 tz),.int .u64 (l2 tz),.int .u64 (l3 tz)]] w fun e w'=>e = .returned (.agg #[.int .u64 (l0 px),.int .u64 (l1 px),.int .u64 (l2 px),.int .u64 (l3 px),.int .u64 (l0 py),.int .u64 (l1 py),.int .u64 (l2 py),.int .u64 (l3 py),.bool pi])∧Below w.heap.size w w'):=CP
 clear CP u1 u2 u3 u4 hvd s1 s2 s3 ep
 go_wp2_with fail
 refine aa (fun W=>Below w.heap.size w W∧Mds W∧Bk9 W br) ⟨B,hD,hR⟩ ?_
 clear B hD hR
 rintro W ⟨B,hD,hR⟩
 clear w1
 with_reducible refine (CPH.out _ hD).mono ?_
 rintro e w1 ⟨rfl,hb⟩
 replace B:=B.trans (hb.mono B.size)
 replace hR:=hR.keep hb
 clear hb W hD CPH
 have gR:=hR.cells;have fR:=hR.free
 go_wp2
 simp [bodyPost,results,Tryz.results49,go_sem,gR]
 repeat (first|with_reducible exact B|with_reducible refine Below.setCell ?_ o3 _)
theorem rc {k x' y':Int} {j:Bool} {p:EC.Pt} (CB:Hid (∀ w,Mds w→aM w→Calls Tryz.prog 44 #[.agg #[.int .u64 (l0 k),.int .u64 (l1 k),.int .u64 (l2 k),.int .u64 (l3 k)],.agg #[.int .u64 0,.int .u64 0,.int .u64 0,.int .u64 0],.agg #[.int .u64 0,.int .u64 0,.int .u64 0,.int .u64 0,.int .u64 0,.int .u64 0,.int .u64 0,.int .u64 0,.bool true]] w fun e w'=>∃ x' y' z',EC.Low x'∧EC.Low y'∧EC.Low z'∧(J3 x' y' z').pt=p∧e = .returned (.agg #[.int .u64 (l0 x'),.int .u64 (l1 x'),.int .u64 (l2 x'),.int .u64 (l3 x'),.int .u64 (l0 y'),.int .u64 (l1 y'),.int .u64 (l2 y'),.int .u64 (l3 y'),.int .u64 (l0 z'),.int .u64 (l1 z'),.int .u64 (l2 z'),.int .u64 (l3 z')])∧Below w.heap.size w w')) (HJ:Hid (Vd x' y' j∧bI x' y' j=p)) (w:World) (hm:Mds w) (hc:aM w) :
  Calls Tryz.prog 23 #[.agg #[.int .u64 (l0 k),.int .u64 (l1 k),.int .u64 (l2 k),.int .u64 (l3 k)]] w fun e w'=>e = .returned (.agg #[.int .u64 (l0 x'),.int .u64 (l1 x'),.int .u64 (l2 x'),.int .u64 (l3 x'),.int .u64 (l0 y'),.int .u64 (l1 y'),.int .u64 (l2 y'),.int .u64 (l3 y'),.bool j])∧Below w.heap.size w w':=by
 go_enter Tryz.func23,Tryz.ntmps23
 go_wp2_with fail
 refine aa (fun W=>Below w.heap.size w W∧Mds W∧aM W∧Bk9 W (w.heap.size+1)) ⟨by repeat (first|with_reducible exact Below.refl _ _|with_reducible refine Below.alloc ?_ (by first|omega|(simp;done)|(simp;omega)) _),(hm.alloc _).alloc _,(Pts.alloc hc _).alloc _,Bk9.new (by simp)⟩ ?_
 rintro W ⟨B,hD,hC,hR⟩
 have o3:w.heap.size≤w.heap.size+1:=by omega
 generalize w.heap.size+1=br at *
 with_reducible refine (CB.out _ hD hC).mono ?_
 rintro e w1 ⟨tx,ty,tz,s1,s2,s3,ep,rfl,hb⟩
 replace B:=B.trans (hb.mono B.size)
 replace hD:=hD.keep hb;replace hR:=hR.keep hb
 clear hb W hC CB
 obtain ⟨px,py,pi,u1,u2,u3,u4,CP⟩:=pJ s1 s2 s3
 have hvd:Vd px py pi:=by
  have hon:EC.On (bI px py pi):=by rw [u4,ep,←HJ.out.2];exact HJ.out.1.on
  cases pi with
  | true=>exact u3 rfl
  | false=>exact ⟨u1,u2,hon⟩
 obtain ⟨rfl,rfl,rfl⟩:=hvd.inj HJ.out.1 (by rw [u4,ep,HJ.out.2])
 have CPH:Hid (∀ w,Mds w→Calls Tryz.prog 45 #[.agg #[.int .u64 (l0 tx),.int .u64 (l1 tx),.int .u64 (l2 tx),.int .u64 (l3 tx),.int .u64 (l0 ty),.int .u64 (l1 ty),.int .u64 (l2 ty),.int .u64 (l3 ty),.int .u64 (l0 tz),.int .u64 (l1 tz),.int .u64 (l2 tz),.int .u64 (l3 tz)]] w fun e w'=>e = .returned (.agg #[.int .u64 (l0 px),.int .u64 (l1 px),.int .u64 (l2 px),.int .u64 (l3 px),.int .u64 (l0 py),.int .u64 (l1 py),.int .u64 (l2 py),.int .u64 (l3 py),.bool pi])∧Below w.heap.size w w'):=CP
 clear CP u1 u2 u3 u4 hvd s1 s2 s3 ep
 go_wp2_with fail
 refine aa (fun W=>Below w.heap.size w W∧Mds W∧Bk9 W br) ⟨B,hD,hR⟩ ?_
 clear B hD hR
 rintro W ⟨B,hD,hR⟩
 clear w1
 with_reducible refine (CPH.out _ hD).mono ?_
 rintro e w1 ⟨rfl,hb⟩
 replace B:=B.trans (hb.mono B.size)
 replace hR:=hR.keep hb
 clear hb W hD CPH
 have gR:=hR.cells;have fR:=hR.free
 go_wp2
 simp [bodyPost,results,Tryz.results23,go_sem,gR]
 repeat (first|with_reducible exact B|with_reducible refine Below.setCell ?_ o3 _)
theorem tW {k x' y':Int} {j:Bool} (hk:Num k) (hj:Vd x' y' j) (ej:bI x' y' j=EC.smul k.toNat EC.gJ.pt) (w:World) (hm:Mds w) (hc:aM w) :
  Calls Tryz.prog 23 #[.agg #[.int .u64 (l0 k),.int .u64 (l1 k),.int .u64 (l2 k),.int .u64 (l3 k)]] w fun e w'=>e = .returned (.agg #[.int .u64 (l0 x'),.int .u64 (l1 x'),.int .u64 (l2 x'),.int .u64 (l3 x'),.int .u64 (l0 y'),.int .u64 (l1 y'),.int .u64 (l2 y'),.int .u64 (l3 y'),.bool j])∧Below w.heap.size w w':=by
 obtain ⟨z0,z1,z2,z3⟩:=aq
 have CB:=fun w hm hc=>(q9 (b:=0) (x:=0) (y:=0) (i:=true) hk ⟨by decide,by decide⟩ ⟨rfl,rfl⟩).out w hm hc
 simp only [z0,z1,z2,z3] at CB
 exact rc CB ⟨hj,by rw [ej];exact (EC.add_o _).symm⟩ w hm hc
open Go.RowKit Go.Sort
theorem aM.keep {W w1:World} (h:aM W) (hb:Below W.heap.size W w1):aM w1:=Pts.keep h hb
theorem aM.alloc {W:World} (h:aM W) (ob:Obj):aM (W.alloc ob):=Pts.alloc h ob
theorem aM.put9 {W:World} {b':Nat} {x' y':Int} {j:Bool} (h:aM W) (ne:b'≠0):aM (Go.Proofs.YtnnnaajgjniiaaaGreatDoor.put9 W b' x' y' j):=by
 unfold Go.Proofs.YtnnnaajgjniiaaaGreatDoor.put9
 exact Pts.set (Pts.set (Pts.set (Pts.set (Pts.set (Pts.set (Pts.set (Pts.set (Pts.set h ne _) ne _) ne _) ne _) ne _) ne _) ne _) ne _) ne _
theorem Nm.lt {W:World} {b:Nat} {n:Int} (h:Nm W b n):b<W.heap.size:=Cl.lt h (by simp)
theorem Nm.put9 {W:World} {b b':Nat} {n x' y':Int} {j:Bool} (h:Nm W b n) (ne:b'≠b):Nm (Go.Proofs.YtnnnaajgjniiaaaGreatDoor.put9 W b' x' y' j) b n:=by
 unfold Go.Proofs.YtnnnaajgjniiaaaGreatDoor.put9
 exact Cl.set (Cl.set (Cl.set (Cl.set (Cl.set (Cl.set (Cl.set (Cl.set (Cl.set h ne _) ne _) ne _) ne _) ne _) ne _) ne _) ne _) ne _
def put4 (W:World) (b:Nat) (n:Int):World:=(((W.setCell ⟨b,0,none⟩ (.int .u64 (l0 n))).setCell ⟨b,1,none⟩ (.int .u64 (l1 n))).setCell ⟨b,2,none⟩ (.int .u64 (l2 n))).setCell ⟨b,3,none⟩ (.int .u64 (l3 n))
theorem ac.put4 {W:World} {b:Nat} (h:ac W b) (n:Int):Nm (Go.Proofs.YtnnnaajgjniiaaaGreatDoor.put4 W b n) b n:=by
 obtain ⟨a0,a1,a2,a3⟩:=h.1.all4
 intro k hk
 have hk':k<4:=by simpa using hk
 have hc:k=0∨k=1∨k=2∨k=3:=by omega
 unfold Go.Proofs.YtnnnaajgjniiaaaGreatDoor.put4
 rcases hc with rfl|rfl|rfl|rfl<;>simp [go_sem,a0,a1,a2,a3]
theorem Pnt.put4 {W:World} {b b':Nat} {x y n:Int} {i:Bool} (h:Pnt W b x y i) (ne:b'≠b):Pnt (Go.Proofs.YtnnnaajgjniiaaaGreatDoor.put4 W b' n) b x y i:=by
 unfold Go.Proofs.YtnnnaajgjniiaaaGreatDoor.put4
 exact Cl.set (Cl.set (Cl.set (Cl.set h ne _) ne _) ne _) ne _
theorem Nm.put4 {W:World} {b b':Nat} {m n:Int} (h:Nm W b m) (ne:b'≠b):Nm (Go.Proofs.YtnnnaajgjniiaaaGreatDoor.put4 W b' n) b m:=by
 unfold Go.Proofs.YtnnnaajgjniiaaaGreatDoor.put4
 exact Cl.set (Cl.set (Cl.set (Cl.set h ne _) ne _) ne _) ne _
theorem iY {W w:World} {n b:Nat} {m:Int} (h:Below n w W) (hb:n≤b):Below n w (put4 W b m):=by
 unfold put4
 exact (((h.setCell hb _).setCell hb _).setCell hb _).setCell hb _
open Go.RowKit Go.Sort
theorem yF (w:World):Calls Tryz.prog 115 #[] w fun e w'=>e = .returned (.agg #[.int .u64 (l0 gX),.int .u64 (l1 gX),.int .u64 (l2 gX),.int .u64 (l3 gX),.int .u64 (l0 gY),.int .u64 (l1 gY),.int .u64 (l2 gY),.int .u64 (l3 gY),.bool false])∧Below w.heap.size w w':=by
 obtain ⟨r0,r1,r2,r3,r4,r5,r6,r7⟩:=yw
 rw [r0,r1,r2,r3,r4,r5,r6,r7]
 clear r0 r1 r2 r3 r4 r5 r6 r7
 go_enter Tryz.func115,Tryz.ntmps115
 go_wp2
 simp [bodyPost,results,Tryz.results115,go_sem]
 repeat (first|with_reducible exact Below.refl _ _|with_reducible refine Below.alloc ?_ (by first|omega|(simp;done)|(simp;omega)) _|with_reducible refine Below.setCell ?_ (by first|omega|(simp;done)|(simp;omega)) _)
theorem pT {b x' y':Int} {j:Bool} {t:T3} (CG:Hid (∀ w,Calls Tryz.prog 115 #[] w fun e w'=>e = .returned (.agg #[.int .u64 (l0 gX),.int .u64 (l1 gX),.int .u64 (l2 gX),.int .u64 (l3 gX),.int .u64 (l0 gY),.int .u64 (l1 gY),.int .u64 (l2 gY),.int .u64 (l3 gY),.bool false])∧Below w.heap.size w w')) (C2:Hid (∀ w,Calls Tryz.prog 114 #[.agg #[.int .u64 (l0 b),.int .u64 (l1 b),.int .u64 (l2 b),.int .u64 (l3 b)],.agg #[.int .u64 (l0 gX),.int .u64 (l1 gX),.int .u64 (l2 gX),.int .u64 (l3 gX),.int .u64 (l0 gY),.int .u64 (l1 gY),.int .u64 (l2 gY),.int .u64 (l3 gY),.bool false]] w fun e w'=>e = .returned (.agg #[.int .u64 (l0 t.x),.int .u64 (l1 t.x),.int .u64 (l2 t.x),.int .u64 (l3 t.x),.int .u64 (l0 t.y),.int .u64 (l1 t.y),.int .u64 (l2 t.y),.int .u64 (l3 t.y),.int .u64 (l0 t.z),.int .u64 (l1 t.z),.int .u64 (l2 t.z),.int .u64 (l3 t.z)])∧Below w.heap.size w w')) (C4:Hid (∀ w,Calls Tryz.prog 113 #[.agg #[.int .u64 (l0 t.x),.int .u64 (l1 t.x),.int .u64 (l2 t.x),.int .u64 (l3 t.x),.int .u64 (l0 t.y),.int .u64 (l1 t.y),.int .u64 (l2 t.y),.int .u64 (l3 t.y),.int .u64 (l0 t.z),.int .u64 (l1 t.z),.int .u64 (l2 t.z),.int .u64 (l3 t.z)]] w fun e w'=>e = .returned (.agg #[.int .u64 (l0 x'),.int .u64 (l1 x'),.int .u64 (l2 x'),.int .u64 (l3 x'),.int .u64 (l0 y'),.int .u64 (l1 y'),.int .u64 (l2 y'),.int .u64 (l3 y'),.bool j])∧Below w.heap.size w w')) (w:World) :
    Calls Tryz.prog 68 #[.agg #[.int .u64 (l0 b),.int .u64 (l1 b),.int .u64 (l2 b),.int .u64 (l3 b)]] w fun e w'=>e = .returned (.agg #[.int .u64 (l0 x'),.int .u64 (l1 x'),.int .u64 (l2 x'),.int .u64 (l3 x'),.int .u64 (l0 y'),.int .u64 (l1 y'),.int .u64 (l2 y'),.int .u64 (l3 y'),.bool j])∧Below w.heap.size w w':=by
  go_enter Tryz.func68,Tryz.ntmps68
  go_wp2_with fail
  refine af (fun W=>Below w.heap.size w W∧Nm W w.heap.size b∧Bk9 W (w.heap.size+1)) ⟨by repeat (first|with_reducible exact Below.refl _ _|with_reducible refine Below.alloc ?_ (by first|omega|(simp;done)|(simp;omega)) _),Nm.alloc (Cl.new _ rfl rfl) _,Bk9.new (by simp)⟩ ?_
  rintro W ⟨B,hB,hR⟩
  have o3:w.heap.size≤w.heap.size+1:=by omega
  generalize w.heap.size+1=br at *
  have ghB:=hB.grown
  refine aL 4 (by kernel_rfl) (by kernel_rfl) ?_
  simp only [List.take_succ_cons,List.take_zero,List.drop_succ_cons,List.drop_zero]
  repeat
    first
      | go_big_quiet_skip
      | (go_big_quiet_want;go_big_quiet_op;go_big_quiet_on)
      | (go_big_quiet_want
         go_big_quiet_op
         apply Exists.intro
         refine ⟨fun p=>?_,?_⟩
         · (first|(go_at_call 115;with_reducible exact Calls.regrown_of (CG.out _))|(go_at_call 114;with_reducible exact Calls.regrown_of (C2.out _))|(go_at_call 113;with_reducible exact Calls.regrown_of (C4.out _)))
         go_big_quiet_on)
  refine wpQuiet_nil ?_
  rintro w1 ⟨p,rfl⟩
  have hb:=below_regrown W p.d p.os
  generalize grow (redrawn W p.d) p.os=w1 at *
  replace B:=B.trans (hb.mono B.size)
  replace hB:=hB.keep hb;replace hR:=hR.keep hb
  clear hb W ghB
  clear hB
  have gR:=hR.cells;have fR:=hR.free
  go_wp2
  simp [bodyPost,results,Tryz.results68,go_sem,gR]
  repeat (first|with_reducible exact B|with_reducible refine Below.setCell ?_ o3 _)
theorem AZ:bI gX gY false=EC.gJ.pt:=by
 rw [EC.gJ_pt]
 show EC.Pt.a (EC.fp gX) (EC.fp gY)=_
 rw [show EC.fp gX=EC.gJ.x by decide +kernel,show EC.fp gY=EC.gJ.y by decide +kernel]
theorem rd {t:T3} (hl:t.Low) {x' y':Int} {j:Bool} (hj:Vd x' y' j) (ej:bI x' y' j=t.j.pt):Hid (∀ w,Calls Tryz.prog 113 #[.agg #[.int .u64 (l0 t.x),.int .u64 (l1 t.x),.int .u64 (l2 t.x),.int .u64 (l3 t.x),.int .u64 (l0 t.y),.int .u64 (l1 t.y),.int .u64 (l2 t.y),.int .u64 (l3 t.y),.int .u64 (l0 t.z),.int .u64 (l1 t.z),.int .u64 (l2 t.z),.int .u64 (l3 t.z)]] w fun e w'=>e = .returned (.agg #[.int .u64 (l0 x'),.int .u64 (l1 x'),.int .u64 (l2 x'),.int .u64 (l3 x'),.int .u64 (l0 y'),.int .u64 (l1 y'),.int .u64 (l2 y'),.int .u64 (l3 y'),.bool j])∧Below w.heap.size w w'):=by
 obtain ⟨px,py,pi,u1,u2,u3,u4,CP⟩:=tU hl.1 hl.2.1 hl.2.2
 have e:bI px py pi=bI x' y' j:=by rw [u4,ej];rfl
 have hvd:Vd px py pi:=by
  have hon:EC.On (bI px py pi):=by rw [e];exact hj.on
  cases pi with
  | true=>exact u3 rfl
  | false=>exact ⟨u1,u2,hon⟩
 obtain ⟨rfl,rfl,rfl⟩:=hvd.inj hj e
 exact CP
theorem re {b x' y':Int} {j:Bool} (hb:Num b) (hj:Vd x' y' j) (ej:bI x' y' j=EC.smul b.toNat EC.gJ.pt) (w:World) :
  Calls Tryz.prog 68 #[.agg #[.int .u64 (l0 b),.int .u64 (l1 b),.int .u64 (l2 b),.int .u64 (l3 b)]] w fun e w'=>e = .returned (.agg #[.int .u64 (l0 x'),.int .u64 (l1 x'),.int .u64 (l2 x'),.int .u64 (l3 x'),.int .u64 (l0 y'),.int .u64 (l1 y'),.int .u64 (l2 y'),.int .u64 (l3 y'),.bool j])∧Below w.heap.size w w':=by
 obtain ⟨t,lt,et,Ct⟩:=mf hb yx
 exact pT (fun w=>yF w) Ct (rd lt hj (by rw [ej,et,AZ])) w
end Go.Proofs.YtnnnaajgjniiaaaGreatDoor

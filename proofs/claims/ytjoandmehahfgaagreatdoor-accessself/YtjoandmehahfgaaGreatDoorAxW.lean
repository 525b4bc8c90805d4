import Derived.Test.YtjoandmehahfgaaGreatDoorAb
import Derived.Test.YtjoandmehahfgaaGreatDoorAxV
import Derived.Test.YtjoandmehahfgaaGreatDoorESW
import Derived.Test.YtjoandmehahfgaaGreatDoorFFermat
import Derived.Test.YtjoandmehahfgaaGreatDoorNzU
set_option maxRecDepth 100000
set_option maxHeartbeats 8000000
namespace Go.Proofs.YtjoandmehahfgaaGreatDoor
open Go.RowKit Go.Sort
theorem dL {M MB NA:List Value} {key e0 f0:Int} (hM:M.length=34) (oM:MB.toArray.all (·.oneCell')=true) (hB:MB.length=34) (hN:NA.length=20) (oN:NA.toArray.all (·.oneCell')=true) (w:World)
  (OK:Hid (∀ W,Below w.heap.size w W→Rt 4 #[U4 key] W (.tuple #[.agg NA.toArray,.int .i64 e0])))
  (SA:Hid (∀ W,Below w.heap.size w W→Rt 5 #[.agg M.toArray,U4 key] W (.tuple #[.agg MB.toArray,.int .i64 f0])))
  (TL:Hid (∀ V ba bk bo bb,Below w.heap.size w V→(V.rangeAt ba 0 M∧ba<V.heap.size)→(V.rangeAt bo 0 NA∧bo<V.heap.size)→(V.rangeAt bb 0 MB∧bb<V.heap.size)→∀ t9 t10 t11 t12 t13 t14 t15 t16 t17 t18 t19 t20 t21 t22 t23 t24 t25 t26 t27 t28 t29 t30 t31 t32 t33 t34 t35 t36 t37 t38 t39 t40 t41 t42 t43 t44 t45 t46 t47 t48 t49 t50 t51 t52 t53 t54 t55 t56 t57 t58 t59 t60 t61 t62 t63 t64 t65 t66 t67 t68 t69 t70 t71 t72 t73 t74 t75 t76 t77 t78 t79 t80 t81 t82 t83:Value,d6 Tryz.prog Tryz.f3 3 (bodyPost Tryz.prog Tryz.f3 fun e w'=>e = .returned (.bool true)∧Below w.heap.size w w') { tmps:=#[.agg M.toArray,U4 key,.pointer (some ⟨ba,0,none⟩),.pointer (some ⟨bk,0,none⟩),.bool false,.pointer (some ⟨bo,0,none⟩),.int .i64 e0,.pointer (some ⟨bb,0,none⟩),.int .i64 f0,t9,t10,t11,t12,t13,t14,t15,t16,t17,t18,t19,t20,t21,t22,t23,t24,t25,t26,t27,t28,t29,t30,t31,t32,t33,t34,t35,t36,t37,t38,t39,t40,t41,t42,t43,t44,t45,t46,t47,t48,t49,t50,t51,t52,t53,t54,t55,t56,t57,t58,t59,t60,t61,t62,t63,t64,t65,t66,t67,t68,t69,t70,t71,t72,t73,t74,t75,t76,t77,t78,t79,t80,t81,t82,t83],defers:=[] } V)) :
  Rt 3 #[.agg M.toArray,U4 key] w (.bool true):=by
 have LM:Hid ((Tryz.prog.info? 28).map (·.size)=some M.length):=(show _=_ by rw [hM];exact bP)
 have LB:Hid ((Tryz.prog.info? 28).map (·.size)=some MB.toArray.size∧MB.length=34):=⟨by rw [List.size_toArray,hB];exact bP,hB⟩
 have LN:Hid ((Tryz.prog.info? 26).map (·.size)=some NA.toArray.size∧NA.length=20):=⟨by rw [List.size_toArray,hN];exact ow,hN⟩
 clear hM hB hN
 go_enter Tryz.func3,Tryz.ntmps3
 refine wp_seq_k fun K0 h0=>?_
 have H0:Hid _:=h0
 clear h0
 go_wp2
 refine H0.out _ _ ?_
 clear H0
 refine ah (fun W=>Below w.heap.size w W∧(W.rangeAt w.heap.size 0 M∧w.heap.size<W.heap.size)∧ae W (w.heap.size+1) key) ⟨((Below.refl _ _).alloc (Nat.le_refl _) _).alloc (by simp) _,⟨aE dR ((Below.refl _ _).alloc (Nat.le_refl _) _) (by simp),by simp;omega⟩,ae.newA (by simp)⟩ ?_
 rintro w0 ⟨B,hM,hK⟩
 generalize w.heap.size+1=bk at *
 obtain ⟨ba,eba⟩:∃ b,b=w.heap.size:=⟨_,rfl⟩
 have BKE:Hid (ba=w.heap.size):=eba
 rw [←eba] at hM ⊢
 clear eba
 refine wp_seq_k fun K1 h1=>?_
 have H1:Hid _:=h1
 clear h1
 have gK:=hK.cells
 go_wp2_with first
  | (go_at_call 4;refine (OK.out _ B).mono ?_;rintro e w1 ⟨rfl,hb⟩;replace B:=B.trans (hb.mono B.size);replace hK:=hK.keep hb;replace hM:=(⟨aE hM.1 hb hM.2,Nat.lt_of_lt_of_le hM.2 hb.size⟩:w1.rangeAt ba 0 M∧ba<w1.heap.size);clear hb gK)
  | (refine wpList_store_mid rfl 26 _ _ rfl w1.heap.size 0 NA.toArray rfl rfl (bB rfl (by rw [List.size_toArray,LN.out.2];rfl)) LN.out.1 oN ?_;refine aN (fun V=>Below w1.heap.size w1 V∧V.rangeAt w1.heap.size 0 NA∧w1.heap.size<V.heap.size) ⟨(b9 ((Below.refl _ _).alloc (Nat.le_refl _) _) (Nat.le_refl _) (bB rfl (by rw [LN.out.2];rfl))).1,(b9 ((Below.refl _ _).alloc (Nat.le_refl _) _) (Nat.le_refl _) (bB rfl (by rw [LN.out.2];rfl))).2,by rw [fl];simp⟩ ?_;rintro w2 ⟨hb,hD,hlt⟩;replace B:=B.trans (hb.mono B.size);replace hK:=hK.keep hb;replace hM:=(⟨aE hM.1 hb hM.2,Nat.lt_of_lt_of_le hM.2 hb.size⟩:w2.rangeAt ba 0 M∧ba<w2.heap.size);clear hb)
 refine H1.out _ _ ?_
 clear H1
 generalize w1.heap.size=bo at *
 clear w0 w1 OK
 refine wp_seq_k fun K2 h2=>?_
 have H2:Hid _:=h2
 clear h2
 have gK:=hK.cells
 have zb:=kU
 have HO:Hid (w2.rangeAt bo 0 NA∧bo<w2.heap.size):=⟨hD,hlt⟩
 clear hD hlt
 go_wp2_with first
  | (refine aP rfl 28 _ rfl ba 0 rfl M _ hM.1 Tryz.underlying28 rfl LM.out ?_)
  | (go_at_call 5;refine (SA.out _ B).mono ?_;rintro e w3 ⟨rfl,hb⟩;replace B:=B.trans (hb.mono B.size);replace hM:=(⟨aE hM.1 hb hM.2,Nat.lt_of_lt_of_le hM.2 hb.size⟩:w3.rangeAt ba 0 M∧ba<w3.heap.size);replace HO:Hid (w3.rangeAt bo 0 NA∧bo<w3.heap.size):=⟨aE HO.out.1 hb HO.out.2,Nat.lt_of_lt_of_le HO.out.2 hb.size⟩;clear hb gK hK)
  | (refine wpList_store_mid rfl 28 _ _ rfl w3.heap.size 0 MB.toArray rfl rfl (bB rfl (by rw [List.size_toArray,LB.out.2];rfl)) LB.out.1 oM ?_;refine aN (fun V=>Below w3.heap.size w3 V∧V.rangeAt w3.heap.size 0 MB∧w3.heap.size<V.heap.size) ⟨(b9 ((Below.refl _ _).alloc (Nat.le_refl _) _) (Nat.le_refl _) (bB rfl (by rw [LB.out.2];rfl))).1,(b9 ((Below.refl _ _).alloc (Nat.le_refl _) _) (Nat.le_refl _) (bB rfl (by rw [LB.out.2];rfl))).2,by rw [fl];simp⟩ ?_;rintro w4 ⟨hb,hD,hlt⟩;replace B:=B.trans (hb.mono B.size);replace hM:=(⟨aE hM.1 hb hM.2,Nat.lt_of_lt_of_le hM.2 hb.size⟩:w4.rangeAt ba 0 M∧ba<w4.heap.size);replace HO:Hid (w4.rangeAt bo 0 NA∧bo<w4.heap.size):=⟨aE HO.out.1 hb HO.out.2,Nat.lt_of_lt_of_le HO.out.2 hb.size⟩;clear hb)
 refine H2.out _ _ ?_
 clear H2 SA zb
 rw [BKE.out]
 rw [BKE.out] at hM
 exact (TL.out w4 _ bk bo w3.heap.size B hM HO.out ⟨hD,hlt⟩ _ _ _ _ _ _ _ _ _ _ _ _ _ _ _ _ _ _ _ _ _ _ _ _ _ _ _ _ _ _ _ _ _ _ _ _ _ _ _ _ _ _ _ _ _ _ _ _ _ _ _ _ _ _ _ _ _ _ _ _ _ _ _ _ _ _ _ _ _ _ _ _ _ _ _).out rfl
open Go.RowKit Go.Sort
theorem uD {R:Nat→SwR} {x:SwR}:∀ {n:Nat},fsZ R n=some x→∃ i,x=R i∧(R i).e=0
 | 0,h=>by simp [fsZ] at h
 | n+1,h=>by
  rw [fsZ] at h
  cases e:fsZ R n with
  | some y=>rw [e] at h;exact uD (n:=n) (by rw [e];exact h)
  | none =>
   rw [e] at h
   by_cases c:(R n).e=0
   ·rw [if_pos c] at h
    exact ⟨n,(Option.some.inj h).symm,c⟩
   ·rw [if_neg c] at h;cases h
theorem zA (v:Int) (W:World):Rt 6 #[.int .i64 v] W (.int .i64 v):=by
 go_enter Tryz.func6,Tryz.ntmps6
 go_wp2
 simp [bodyPost,results,Tryz.results6,go_sem]
 exact Below.refl _ _
theorem wN {c n p r0 s0 key:Int} {A:List Int} (hk:Num key) (hc:Num c) (hA:A.length=20) (hB:Bys A) (hn:aj n) (w:World) (hm:Mds w) (hC:ar w) (ht:ShT w) (hK:KtC w) :
  Rt 3 #[.agg (auM c A n p r0 s0).toArray,U4 key] w (.bool true):=by
 have TB:∀ V,Below w.heap.size w V→Mds V∧ar V∧KtC V∧ShT V:=fun V h=>⟨hm.keep h,hC.keep h,hK.keep h,ht.keep h⟩
 have NU:Hid (∀ v W,Rt 6 #[.int .i64 v] W (.int .i64 v)):=zA
 obtain ⟨KB,hKB⟩:∃ K,K=pP (5 :: qd c A n):=⟨_,rfl⟩
 have pK:iu KB:=fun i=>(by rw [hKB];exact yn _:Bys KB).at i
 have lK:KB.length=32:=by rw [hKB];exact nD _
 have AD:∀ p r s,Hid (∀ W,KtC W→Rt 12 #[.agg (auM c A n p r s).toArray] W (.agg (KB.map (Value.int .u8)).toArray)):=fun p r s W hk=>AR hc hA hB hn (show _=_ by rw [hKB]) W hk
 have SG:Hid (∀ W,Mds W→ShT W→ar W→Rt 11 #[U4 key,.agg (KB.map (Value.int .u8)).toArray] W (.tuple #[.agg #[.int .u64 (l0 (dC key KB).r),.int .u64 (l1 (dC key KB).r),.int .u64 (l2 (dC key KB).r),.int .u64 (l3 (dC key KB).r),.int .u64 (l0 (dC key KB).s),.int .u64 (l1 (dC key KB).s),.int .u64 (l2 (dC key KB).s),.int .u64 (l3 (dC key KB).s),.bool (dC key KB).o],.int .i64 (dC key KB).e])):=fun W h1 h2 h3=>zv hk pK lK W h1 h2 h3
 have L34:∀ p r s,(auM c A n p r s).length=34:=fun p r s=>ia hA
 cases hf:co key with
 | false =>
  have OK:Hid (∀ W,Below w.heap.size w W→Rt 4 #[U4 key] W (.tuple #[.agg (Z20.map (Value.int .u8)).toArray,.int .i64 60])):=fun W B=>tF hk hf W (TB W B).1
  by_cases nn:n=18446744073709551615
  ·subst nn
   exact dL (MB:=auZ) (f0:=141) (L34 _ _ _) ib dM rfl (aU _) w OK (fun W _=>pj (dt hA 0) W) fun V ba bk bo bb B _ _ h=>by
    intros
    exact jJ (.inl ⟨by decide,by decide⟩) NU qm eV dM B h
  ·have es:dC key KB=⟨0,0,false,60⟩:=by unfold dC;rw [hf];rfl
   rw [es] at SG
   exact dL (MB:=auZ) (f0:=60) (L34 _ _ _) ib dM rfl (aU _) w OK (fun W B=>pk hA nn (by decide) W (AD _ _ _) SG (TB W B).1 (TB W B).2.2.2 (TB W B).2.1 (TB W B).2.2.1) fun V ba bk bo bb B _ _ h=>by
    intros
    exact jJ (.inl ⟨by decide,by decide⟩) NU qm eV dM B h
 | true =>
  obtain ⟨x,y,hv,ep⟩:=wI hk hf
  have OK:Hid (∀ W,Below w.heap.size w W→Rt 4 #[U4 key] W (.tuple #[.agg ((ql x y).map (Value.int .u8)).toArray,.int .i64 0])):=fun W B=>wL hk hf hv ep W (TB W B).1 (TB W B).2.1 (TB W B).2.2.1
  have lN:((ql x y).map (Value.int .u8)).length=20:=by rw [List.length_map,kX]
  by_cases nn:n=18446744073709551615
  ·subst nn
   exact dL (MB:=auZ) (f0:=141) (L34 _ _ _) ib dM lN (aU _) w OK (fun W _=>pj (dt hA 0) W) fun V ba bk bo bb B g _ _=>by
    intros
    exact wM rfl rfl NU B ⟨AuQ.of hA g.1,g.2⟩
  ·have es:dC key KB=lQ (sgZ key KB):=by unfold dC;rw [if_pos hf]
   cases hq:fsZ (sgZ key KB) 64 with
   | none =>
    rw [es,pq hq] at SG
    exact dL (MB:=auZ) (f0:=65) (L34 _ _ _) ib dM lN (aU _) w OK (fun W B=>pk hA nn (by decide) W (AD _ _ _) SG (TB W B).1 (TB W B).2.2.2 (TB W B).2.1 (TB W B).2.2.1) fun V ba bk bo bb B _ _ h=>by
     intros
     exact jJ (.inr ⟨rfl,rfl⟩) NU qm eV dM B h
   | some z =>
    rw [es,pp hq (Nat.le_refl _)] at SG
    obtain ⟨i,ei,he⟩:=uD hq
    have ne:qk key KB i=0:=by
     by_cases c:qk key KB i=0
     ·exact c
     ·rw [uC c] at he;exact absurd he c
    rw [zu ne] at ei he
    have RB:=zw hk (rQ key KB i) lK pK hf he hv ep
    rw [←ei] at RB
    have ze:z.e=0:=by rw [ei];exact he
    rw [ze] at SG
    have EN:Hid (∀ w,(Op.equalIn 10000 26 (.agg ((ql x y).map (Value.int .u8)).toArray) (.agg ((ql x y).map (Value.int .u8)).toArray)).run Tryz.prog w = .ok true w):=fun w=>by rw [tT (kX x y) (kX x y) w];simp
    have OP:Hid (∀ W,Mds W→KtC W→Rt 9 #[P9 x y false] W (.tuple #[.agg ((ql x y).map (Value.int .u8)).toArray,.int .i64 0])):=fun W h1 h2=>DZ hv W h1 h2
    obtain ⟨zr,zs,zo,ze'⟩:=z
    dsimp only at SG RB ze
    cases zo with
    | false =>
     exact dL (MB:=auM c A n 0 zr zs) (f0:=0) (L34 _ _ _) qj (L34 _ _ _) lN (aU _) w OK (fun W B=>rO hA nn (.inl ⟨rfl,rfl⟩) W (AD _ _ _) SG (TB W B).1 (TB W B).2.2.2 (TB W B).2.1 (TB W B).2.2.1) fun V ba bk bo bb B g go h=>by
      intros
      exact rT rfl rfl NU (fun W BW=>Cw hA nn lN (aU _) W (AD _ _ _) RB OP (TB W BW).1 (TB W BW).2.1 (TB W BW).2.2.1) lN (aU _) (L34 _ _ _) hA EN B ⟨AuQ.of hA g.1,AuQ.of hA h.1,h.1,go.1,g.2,h.2,go.2⟩
    | true =>
     exact dL (MB:=auM c A n 1 zr zs) (f0:=0) (L34 _ _ _) qj (L34 _ _ _) lN (aU _) w OK (fun W B=>rO hA nn (.inr ⟨rfl,rfl⟩) W (AD _ _ _) SG (TB W B).1 (TB W B).2.2.2 (TB W B).2.1 (TB W B).2.2.1) fun V ba bk bo bb B g go h=>by
      intros
      exact rT rfl rfl NU (fun W BW=>Cx hA nn lN (aU _) W (AD _ _ _) RB OP (TB W BW).1 (TB W BW).2.1 (TB W BW).2.2.1) lN (aU _) (L34 _ _ _) hA EN B ⟨AuQ.of hA g.1,AuQ.of hA h.1,h.1,go.1,g.2,h.2,go.2⟩
end Go.Proofs.YtjoandmehahfgaaGreatDoor

import Derived.Test.YtnnnaajgjniiaaaGreatDoorAb
import Derived.Test.YtnnnaajgjniiaaaGreatDoorCSumK
import Derived.Test.YtnnnaajgjniiaaaGreatDoorFRefY
set_option maxRecDepth 100000
set_option maxHeartbeats 32000000
namespace Go.Proofs.YtnnnaajgjniiaaaGreatDoor
open Go.RowKit Go.Sort
theorem wH {x y z x2 y2 z2:Int} (E0:∀ w,(Op.equalIn 10000 24 (U4 z) (.agg #[.int .u64 0,.int .u64 0,.int .u64 0,.int .u64 0])).run Tryz.prog w = .ok true w) (w:World) :
  Rt 151 #[.agg #[.int .u64 (l0 x),.int .u64 (l1 x),.int .u64 (l2 x),.int .u64 (l3 x),.int .u64 (l0 y),.int .u64 (l1 y),.int .u64 (l2 y),.int .u64 (l3 y),.int .u64 (l0 z),.int .u64 (l1 z),.int .u64 (l2 z),.int .u64 (l3 z)],.agg #[.int .u64 (l0 x2),.int .u64 (l1 x2),.int .u64 (l2 x2),.int .u64 (l3 x2),.int .u64 (l0 y2),.int .u64 (l1 y2),.int .u64 (l2 y2),.int .u64 (l3 y2),.int .u64 (l0 z2),.int .u64 (l1 z2),.int .u64 (l2 z2),.int .u64 (l3 z2)]] w (.agg #[.int .u64 (l0 x2),.int .u64 (l1 x2),.int .u64 (l2 x2),.int .u64 (l3 x2),.int .u64 (l0 y2),.int .u64 (l1 y2),.int .u64 (l2 y2),.int .u64 (l3 y2),.int .u64 (l0 z2),.int .u64 (l1 z2),.int .u64 (l2 z2),.int .u64 (l3 z2)]):=by
 go_enter Tryz.func151,Tryz.ntmps151
 go_wp2
 simp [bodyPost,results,Tryz.results151,go_sem]
 repeat (first|with_reducible exact Below.refl _ _|with_reducible refine Below.alloc ?_ (by first|omega|(simp;done)|(simp;omega)) _|with_reducible refine Below.setCell ?_ (by first|omega|(simp;done)|(simp;omega)) _)
theorem wI {x y z x2 y2 z2:Int} (E0:∀ w,(Op.equalIn 10000 24 (U4 z) (.agg #[.int .u64 0,.int .u64 0,.int .u64 0,.int .u64 0])).run Tryz.prog w = .ok false w) (E1:∀ w,(Op.equalIn 10000 24 (U4 z2) (.agg #[.int .u64 0,.int .u64 0,.int .u64 0,.int .u64 0])).run Tryz.prog w = .ok true w) (w:World) :
  Rt 151 #[.agg #[.int .u64 (l0 x),.int .u64 (l1 x),.int .u64 (l2 x),.int .u64 (l3 x),.int .u64 (l0 y),.int .u64 (l1 y),.int .u64 (l2 y),.int .u64 (l3 y),.int .u64 (l0 z),.int .u64 (l1 z),.int .u64 (l2 z),.int .u64 (l3 z)],.agg #[.int .u64 (l0 x2),.int .u64 (l1 x2),.int .u64 (l2 x2),.int .u64 (l3 x2),.int .u64 (l0 y2),.int .u64 (l1 y2),.int .u64 (l2 y2),.int .u64 (l3 y2),.int .u64 (l0 z2),.int .u64 (l1 z2),.int .u64 (l2 z2),.int .u64 (l3 z2)]] w (.agg #[.int .u64 (l0 x),.int .u64 (l1 x),.int .u64 (l2 x),.int .u64 (l3 x),.int .u64 (l0 y),.int .u64 (l1 y),.int .u64 (l2 y),.int .u64 (l3 y),.int .u64 (l0 z),.int .u64 (l1 z),.int .u64 (l2 z),.int .u64 (l3 z)]):=by
 go_enter Tryz.func151,Tryz.ntmps151
 go_wp2
 simp [bodyPost,results,Tryz.results151,go_sem]
 repeat (first|with_reducible exact Below.refl _ _|with_reducible refine Below.alloc ?_ (by first|omega|(simp;done)|(simp;omega)) _|with_reducible refine Below.setCell ?_ (by first|omega|(simp;done)|(simp;omega)) _)
theorem pP {x y z x2 y2 z2 a b c d ey f h g j r X Y Z:Int} (E0:∀ w,(Op.equalIn 10000 24 (U4 z) (.agg #[.int .u64 0,.int .u64 0,.int .u64 0,.int .u64 0])).run Tryz.prog w = .ok false w) (E1:∀ w,(Op.equalIn 10000 24 (U4 z2) (.agg #[.int .u64 0,.int .u64 0,.int .u64 0,.int .u64 0])).run Tryz.prog w = .ok false w)
    (A1:Hid (∀ w,Rt 147 #[U4 z,U4 z] w (U4 a)))
    (A2:Hid (∀ w,Rt 147 #[U4 z2,U4 z2] w (U4 b)))
    (A3:Hid (∀ w,Rt 147 #[U4 x,U4 b] w (U4 c)))
    (A4:Hid (∀ w,Rt 147 #[U4 b,U4 z2] w (U4 d)))
    (A5:Hid (∀ w,Rt 147 #[U4 y,U4 d] w (U4 ey)))
    (A6:Hid (∀ w,Rt 147 #[U4 x2,U4 a] w (U4 f)))
    (A7:Hid (∀ w,Rt 180 #[U4 f,U4 c] w (U4 h)))
    (A8:Hid (∀ w,Rt 147 #[U4 a,U4 z] w (U4 g)))
    (A9:Hid (∀ w,Rt 147 #[U4 y2,U4 g] w (U4 j)))
    (A10:Hid (∀ w,Rt 180 #[U4 j,U4 ey] w (U4 r)))
    (Eh:∀ w,(Op.equalIn 10000 24 (U4 h) (.agg #[.int .u64 0,.int .u64 0,.int .u64 0,.int .u64 0])).run Tryz.prog w = .ok true w) (Er:∀ w,(Op.equalIn 10000 24 (U4 r) (.agg #[.int .u64 0,.int .u64 0,.int .u64 0,.int .u64 0])).run Tryz.prog w = .ok true w) (CT:Hid (∀ w,Rt 149 #[.agg #[.int .u64 (l0 x),.int .u64 (l1 x),.int .u64 (l2 x),.int .u64 (l3 x),.int .u64 (l0 y),.int .u64 (l1 y),.int .u64 (l2 y),.int .u64 (l3 y),.int .u64 (l0 z),.int .u64 (l1 z),.int .u64 (l2 z),.int .u64 (l3 z)]] w (.agg #[.int .u64 (l0 X),.int .u64 (l1 X),.int .u64 (l2 X),.int .u64 (l3 X),.int .u64 (l0 Y),.int .u64 (l1 Y),.int .u64 (l2 Y),.int .u64 (l3 Y),.int .u64 (l0 Z),.int .u64 (l1 Z),.int .u64 (l2 Z),.int .u64 (l3 Z)]))) (w:World) :
    Rt 151 #[.agg #[.int .u64 (l0 x),.int .u64 (l1 x),.int .u64 (l2 x),.int .u64 (l3 x),.int .u64 (l0 y),.int .u64 (l1 y),.int .u64 (l2 y),.int .u64 (l3 y),.int .u64 (l0 z),.int .u64 (l1 z),.int .u64 (l2 z),.int .u64 (l3 z)],.agg #[.int .u64 (l0 x2),.int .u64 (l1 x2),.int .u64 (l2 x2),.int .u64 (l3 x2),.int .u64 (l0 y2),.int .u64 (l1 y2),.int .u64 (l2 y2),.int .u64 (l3 y2),.int .u64 (l0 z2),.int .u64 (l1 z2),.int .u64 (l2 z2),.int .u64 (l3 z2)]] w (.agg #[.int .u64 (l0 X),.int .u64 (l1 X),.int .u64 (l2 X),.int .u64 (l3 X),.int .u64 (l0 Y),.int .u64 (l1 Y),.int .u64 (l2 Y),.int .u64 (l3 Y),.int .u64 (l0 Z),.int .u64 (l1 Z),.int .u64 (l2 Z),.int .u64 (l3 Z)]):=by
  go_enter Tryz.func151,Tryz.ntmps151
  go_wp2_with fail
  refine aa (fun W=>Below w.heap.size w W∧Thr W w.heap.size x y z∧Thr W (w.heap.size+1) x2 y2 z2∧aw W (w.heap.size+1+1)∧ac W (w.heap.size+1+1+1)) ⟨by repeat (first|with_reducible exact Below.refl _ _|with_reducible refine Below.alloc ?_ (by first|omega|(simp;done)|(simp;omega)) _),(((Thr.new rfl).alloc _).alloc _).alloc _,((Thr.new (by simp)).alloc _).alloc _,(aw.new (by simp)).alloc _,ac.new (by simp)⟩ ?_
  rintro W ⟨B,hT,hO,hR,hZ⟩
  have o3:w.heap.size≤w.heap.size+1+1:=by omega
  generalize w.heap.size+1+1+1=bz at *
  generalize w.heap.size+1+1=br at *
  generalize w.heap.size+1=bo at *
  with_reducible refine (A1.out _).mono ?_
  rintro e w1 ⟨rfl,hb⟩
  replace B:=B.trans (hb.mono B.size)
  replace hT:=hT.keep hb;replace hO:=hO.keep hb;replace hR:=hR.keep hb;replace hZ:=hZ.keep hb
  clear hb W
  have ghO:=fun o=>(hO.alloc o).cells
  go_wp2_with fail
  refine aa (fun W=>Below w.heap.size w W∧Thr W w.heap.size x y z∧Thr W bo x2 y2 z2∧aw W br∧ac W bz∧ab W w1.heap.size a) ⟨B.alloc B.size _,hT.alloc _,hO.alloc _,hR.alloc _,hZ.alloc _,ab.new _ _ _⟩ ?_
  clear B hT hO hR hZ ghO
  rintro W ⟨B,hT,hO,hR,hZ,hA⟩
  generalize w1.heap.size=ba at *
  with_reducible refine (A2.out _).mono ?_
  rintro e w2 ⟨rfl,hb⟩
  replace B:=B.trans (hb.mono B.size)
  replace hT:=hT.keep hb;replace hO:=hO.keep hb;replace hR:=hR.keep hb;replace hZ:=hZ.keep hb;replace hA:=hA.keep hb
  clear hb W
  have ghT:=fun o=>(hT.alloc o).cells
  go_wp2_with fail
  refine aa (fun W=>Below w.heap.size w W∧Thr W w.heap.size x y z∧Thr W bo x2 y2 z2∧aw W br∧ac W bz∧ab W ba a∧ab W w2.heap.size b) ⟨B.alloc B.size _,hT.alloc _,hO.alloc _,hR.alloc _,hZ.alloc _,hA.alloc _,ab.new _ _ _⟩ ?_
  clear B hT hO hR hZ hA ghT
  rintro W ⟨B,hT,hO,hR,hZ,hA,hB⟩
  generalize w2.heap.size=bb at *
  with_reducible refine (A3.out _).mono ?_
  rintro e w3 ⟨rfl,hb⟩
  replace B:=B.trans (hb.mono B.size)
  replace hT:=hT.keep hb;replace hO:=hO.keep hb;replace hR:=hR.keep hb;replace hZ:=hZ.keep hb;replace hA:=hA.keep hb;replace hB:=hB.keep hb
  clear hb W
  go_wp2_with fail
  refine af (fun W=>Below w.heap.size w W∧Thr W w.heap.size x y z∧Thr W bo x2 y2 z2∧aw W br∧ac W bz∧ab W ba a∧ab W bb b∧ab W w3.heap.size c) ⟨B.alloc B.size _,hT.alloc _,hO.alloc _,hR.alloc _,hZ.alloc _,hA.alloc _,hB.alloc _,ab.new _ _ _⟩ ?_
  clear B hT hO hR hZ hA hB
  rintro W ⟨B,hT,hO,hR,hZ,hA,hB,hC⟩
  generalize w3.heap.size=bc at *
  refine aD (A:=?AA1) 7 (by kernel_rfl) (by kernel_rfl) rfl rfl (aB _ _ _) (fun V hV=>?HH1) (fun V w1 hV hw=>?TT1)
  case HH1 =>
    have ghT:=(hT.keep hV).grown
    have ghO:=(hO.keep hV).grown
    have ghB:=(hB.keep hV).grown
    unfold Gr
    simp only [List.take_succ_cons,List.take_zero]
    repeat
      first
        | go_big_quiet_skip
        | (go_big_quiet_want;go_big_quiet_op;go_big_quiet_on)
        | (go_big_quiet_want
           go_big_quiet_op
           apply Exists.intro
           refine ⟨fun p=>?_,?_⟩
           · (first|(go_at_call 147;with_reducible exact Calls.regrown_of (A4.out _))|(go_at_call 147;with_reducible exact Calls.regrown_of (A5.out _)))
           go_big_quiet_on)
    refine wpQuiet_nil ?_
    exact rfl
  case TT1 =>
    have hb:=ap hV hw
    have hN:=(ac.new rfl).keep hw
    have nhT:V.heap.size≠w.heap.size:=Nat.ne_of_gt (Nat.lt_of_lt_of_le (hT.lt) hV.size)
    have nhO:V.heap.size≠bo:=Nat.ne_of_gt (Nat.lt_of_lt_of_le (hO.lt) hV.size)
    have nhR:V.heap.size≠br:=Nat.ne_of_gt (Nat.lt_of_lt_of_le (hR.lt) hV.size)
    have nhZ:V.heap.size≠bz:=Nat.ne_of_gt (Nat.lt_of_lt_of_le (hZ.1.lt (by simp)) hV.size)
    have nhA:V.heap.size≠ba:=Nat.ne_of_gt (Nat.lt_of_lt_of_le (World.block_lt_of_cell? _ _ hA.1) hV.size)
    have nhB:V.heap.size≠bb:=Nat.ne_of_gt (Nat.lt_of_lt_of_le (World.block_lt_of_cell? _ _ hB.1) hV.size)
    have nhC:V.heap.size≠bc:=Nat.ne_of_gt (Nat.lt_of_lt_of_le (World.block_lt_of_cell? _ _ hC.1) hV.size)
    have gn:w.heap.size≤V.heap.size:=Nat.le_trans B.size hV.size
    replace B:=B.trans (hb.mono B.size)
    replace hT:=hT.keep hb;replace hO:=hO.keep hb;replace hR:=hR.keep hb;replace hZ:=hZ.keep hb;replace hA:=hA.keep hb;replace hB:=hB.keep hb;replace hC:=hC.keep hb
    clear hb hw hV W
    generalize V.heap.size=be at *
    clear V
    have gN:=hN.1.all4;have qN:=hN.2.all4
    have mhT:=nhT.symm
    have mhO:=nhO.symm
    have mhR:=nhR.symm
    have mhZ:=nhZ.symm
    have mhA:=nhA.symm
    have mhB:=nhB.symm
    have mhC:=nhC.symm
    simp only [List.drop_succ_cons,List.drop_zero,Act.put,List.setIfInBounds_toArray,List.set_cons_zero,List.set_cons_succ]
    go_wp2_with fail
    refine af (fun W=>Below w.heap.size w W∧Thr W w.heap.size x y z∧Thr W bo x2 y2 z2∧aw W br∧ac W bz∧ab W ba a∧ab W bb b∧ab W bc c∧ab W be ey) ⟨ah B gn _ _ _ _,hT.set4 nhT _ _ _ _,hO.set4 nhO _ _ _ _,hR.set4 nhR _ _ _ _,hZ.set4 nhZ _ _ _ _,hA.set4 nhA _ _ _ _,hB.set4 nhB _ _ _ _,hC.set4 nhC _ _ _ _,ab.sets4 (ac.has hN)⟩ ?_
    clear B hN gN qN hT hO hR hZ hA hB hC nhT mhT nhO mhO nhR mhR nhZ mhZ nhA mhA nhB mhB nhC mhC  gn
    rintro W ⟨B,hT,hO,hR,hZ,hA,hB,hC,hE⟩
    clear w1
    clear hB
    refine aD (A:=?AA2) 6 (by kernel_rfl) (by kernel_rfl) rfl rfl (aB _ _ _) (fun V hV=>?HH2) (fun V w1 hV hw=>?TT2)
    case HH2 =>
      have ghO:=(hO.keep hV).grown
      have ghA:=(hA.keep hV).grown
      have ghC:=(hC.keep hV).grown
      unfold Gr
      simp only [List.take_succ_cons,List.take_zero]
      repeat
        first
          | go_big_quiet_skip
          | (go_big_quiet_want;go_big_quiet_op;go_big_quiet_on)
          | (go_big_quiet_want
             go_big_quiet_op
             apply Exists.intro
             refine ⟨fun p=>?_,?_⟩
             · (first|(go_at_call 147;with_reducible exact Calls.regrown_of (A6.out _))|(go_at_call 180;with_reducible exact Calls.regrown_of (A7.out _)))
             go_big_quiet_on)
      refine wpQuiet_nil ?_
      exact rfl
    case TT2 =>
      have hb:=ap hV hw
      have hN:=(ac.new rfl).keep hw
      have nhT:V.heap.size≠w.heap.size:=Nat.ne_of_gt (Nat.lt_of_lt_of_le (hT.lt) hV.size)
      have nhO:V.heap.size≠bo:=Nat.ne_of_gt (Nat.lt_of_lt_of_le (hO.lt) hV.size)
      have nhR:V.heap.size≠br:=Nat.ne_of_gt (Nat.lt_of_lt_of_le (hR.lt) hV.size)
      have nhZ:V.heap.size≠bz:=Nat.ne_of_gt (Nat.lt_of_lt_of_le (hZ.1.lt (by simp)) hV.size)
      have nhA:V.heap.size≠ba:=Nat.ne_of_gt (Nat.lt_of_lt_of_le (World.block_lt_of_cell? _ _ hA.1) hV.size)
      have nhC:V.heap.size≠bc:=Nat.ne_of_gt (Nat.lt_of_lt_of_le (World.block_lt_of_cell? _ _ hC.1) hV.size)
      have nhE:V.heap.size≠be:=Nat.ne_of_gt (Nat.lt_of_lt_of_le (World.block_lt_of_cell? _ _ hE.1) hV.size)
      have gn:w.heap.size≤V.heap.size:=Nat.le_trans B.size hV.size
      replace B:=B.trans (hb.mono B.size)
      replace hT:=hT.keep hb;replace hO:=hO.keep hb;replace hR:=hR.keep hb;replace hZ:=hZ.keep hb;replace hA:=hA.keep hb;replace hC:=hC.keep hb;replace hE:=hE.keep hb
      clear hb hw hV W
      generalize V.heap.size=bh at *
      clear V
      have gN:=hN.1.all4;have qN:=hN.2.all4
      have mhT:=nhT.symm
      have mhO:=nhO.symm
      have mhR:=nhR.symm
      have mhZ:=nhZ.symm
      have mhA:=nhA.symm
      have mhC:=nhC.symm
      have mhE:=nhE.symm
      simp only [List.drop_succ_cons,List.drop_zero,Act.put,List.setIfInBounds_toArray,List.set_cons_zero,List.set_cons_succ]
      go_wp2_with fail
      refine af (fun W=>Below w.heap.size w W∧Thr W w.heap.size x y z∧Thr W bo x2 y2 z2∧aw W br∧ac W bz∧ab W ba a∧ab W bc c∧ab W be ey∧ab W bh h) ⟨ah B gn _ _ _ _,hT.set4 nhT _ _ _ _,hO.set4 nhO _ _ _ _,hR.set4 nhR _ _ _ _,hZ.set4 nhZ _ _ _ _,hA.set4 nhA _ _ _ _,hC.set4 nhC _ _ _ _,hE.set4 nhE _ _ _ _,ab.sets4 (ac.has hN)⟩ ?_
      clear B hN gN qN hT hO hR hZ hA hC hE nhT mhT nhO mhO nhR mhR nhZ mhZ nhA mhA nhC mhC nhE mhE  gn
      rintro W ⟨B,hT,hO,hR,hZ,hA,hC,hE,hH⟩
      clear w1
      refine aD (A:=?AA3) 9 (by kernel_rfl) (by kernel_rfl) rfl rfl (aB _ _ _) (fun V hV=>?HH3) (fun V w1 hV hw=>?TT3)
      case HH3 =>
        have ghT:=(hT.keep hV).grown
        have ghO:=(hO.keep hV).grown
        have ghA:=(hA.keep hV).grown
        have ghE:=(hE.keep hV).grown
        unfold Gr
        simp only [List.take_succ_cons,List.take_zero]
        repeat
          first
            | go_big_quiet_skip
            | (go_big_quiet_want;go_big_quiet_op;go_big_quiet_on)
            | (go_big_quiet_want
               go_big_quiet_op
               apply Exists.intro
               refine ⟨fun p=>?_,?_⟩
               · (first|(go_at_call 147;with_reducible exact Calls.regrown_of (A8.out _))|(go_at_call 147;with_reducible exact Calls.regrown_of (A9.out _))|(go_at_call 180;with_reducible exact Calls.regrown_of (A10.out _)))
               go_big_quiet_on)
        refine wpQuiet_nil ?_
        exact rfl
      case TT3 =>
        have hb:=ap hV hw
        have hN:=(ac.new rfl).keep hw
        have nhT:V.heap.size≠w.heap.size:=Nat.ne_of_gt (Nat.lt_of_lt_of_le (hT.lt) hV.size)
        have nhO:V.heap.size≠bo:=Nat.ne_of_gt (Nat.lt_of_lt_of_le (hO.lt) hV.size)
        have nhR:V.heap.size≠br:=Nat.ne_of_gt (Nat.lt_of_lt_of_le (hR.lt) hV.size)
        have nhZ:V.heap.size≠bz:=Nat.ne_of_gt (Nat.lt_of_lt_of_le (hZ.1.lt (by simp)) hV.size)
        have nhA:V.heap.size≠ba:=Nat.ne_of_gt (Nat.lt_of_lt_of_le (World.block_lt_of_cell? _ _ hA.1) hV.size)
        have nhC:V.heap.size≠bc:=Nat.ne_of_gt (Nat.lt_of_lt_of_le (World.block_lt_of_cell? _ _ hC.1) hV.size)
        have nhE:V.heap.size≠be:=Nat.ne_of_gt (Nat.lt_of_lt_of_le (World.block_lt_of_cell? _ _ hE.1) hV.size)
        have nhH:V.heap.size≠bh:=Nat.ne_of_gt (Nat.lt_of_lt_of_le (World.block_lt_of_cell? _ _ hH.1) hV.size)
        have gn:w.heap.size≤V.heap.size:=Nat.le_trans B.size hV.size
        replace B:=B.trans (hb.mono B.size)
        replace hT:=hT.keep hb;replace hO:=hO.keep hb;replace hR:=hR.keep hb;replace hZ:=hZ.keep hb;replace hA:=hA.keep hb;replace hC:=hC.keep hb;replace hE:=hE.keep hb;replace hH:=hH.keep hb
        clear hb hw hV W
        generalize V.heap.size=bg at *
        clear V
        have gN:=hN.1.all4;have qN:=hN.2.all4
        have ghH:=hH.cells
        have ghZ:=hZ.1.all4;have qhZ:=hZ.2.all4
        have ghT:=hT.cells
        have mhT:=nhT.symm
        have mhO:=nhO.symm
        have mhR:=nhR.symm
        have mhZ:=nhZ.symm
        have mhA:=nhA.symm
        have mhC:=nhC.symm
        have mhE:=nhE.symm
        have mhH:=nhH.symm
        simp only [List.drop_succ_cons,List.drop_zero,Act.put,List.setIfInBounds_toArray,List.set_cons_zero,List.set_cons_succ]
        go_wp2_with fail
        refine aa (fun W=>Below w.heap.size w W∧Thr W w.heap.size x y z∧Thr W bo x2 y2 z2∧aw W br∧ac W bz∧ab W ba a∧ab W bc c∧ab W be ey∧ab W bh h∧ab W bg r) ⟨ah B gn _ _ _ _,hT.set4 nhT _ _ _ _,hO.set4 nhO _ _ _ _,hR.set4 nhR _ _ _ _,hZ.set4 nhZ _ _ _ _,hA.set4 nhA _ _ _ _,hC.set4 nhC _ _ _ _,hE.set4 nhE _ _ _ _,hH.set4 nhH _ _ _ _,ab.sets4 (ac.has hN)⟩ ?_
        clear B hN gN qN hT hO hR hZ hA hC hE hH nhT mhT nhO mhO nhR mhR nhZ mhZ nhA mhA nhC mhC nhE mhE nhH mhH ghH ghZ qhZ ghT gn
        rintro W ⟨B,hT,hO,hR,hZ,hA,hC,hE,hH,hG⟩
        clear w1
        with_reducible refine (CT.out _).mono ?_
        rintro e w9 ⟨rfl,hb⟩
        replace B:=B.trans (hb.mono B.size)
        replace hT:=hT.keep hb;replace hO:=hO.keep hb;replace hR:=hR.keep hb;replace hZ:=hZ.keep hb;replace hA:=hA.keep hb;replace hC:=hC.keep hb;replace hE:=hE.keep hb;replace hH:=hH.keep hb;replace hG:=hG.keep hb
        clear hb W hT hO hZ hA hC hE hH hG
        have gR:=hR.cells;have fR:=hR.free
        go_wp2
        simp [bodyPost,results,Tryz.results151,go_sem,gR]
        repeat (first|with_reducible exact B|with_reducible refine Below.setCell ?_ o3 _)
theorem qY {x y z x2 y2 z2 a b c d ey f h g j r:Int} (E0:∀ w,(Op.equalIn 10000 24 (U4 z) (.agg #[.int .u64 0,.int .u64 0,.int .u64 0,.int .u64 0])).run Tryz.prog w = .ok false w) (E1:∀ w,(Op.equalIn 10000 24 (U4 z2) (.agg #[.int .u64 0,.int .u64 0,.int .u64 0,.int .u64 0])).run Tryz.prog w = .ok false w)
    (A1:Hid (∀ w,Rt 147 #[U4 z,U4 z] w (U4 a)))
    (A2:Hid (∀ w,Rt 147 #[U4 z2,U4 z2] w (U4 b)))
    (A3:Hid (∀ w,Rt 147 #[U4 x,U4 b] w (U4 c)))
    (A4:Hid (∀ w,Rt 147 #[U4 b,U4 z2] w (U4 d)))
    (A5:Hid (∀ w,Rt 147 #[U4 y,U4 d] w (U4 ey)))
    (A6:Hid (∀ w,Rt 147 #[U4 x2,U4 a] w (U4 f)))
    (A7:Hid (∀ w,Rt 180 #[U4 f,U4 c] w (U4 h)))
    (A8:Hid (∀ w,Rt 147 #[U4 a,U4 z] w (U4 g)))
    (A9:Hid (∀ w,Rt 147 #[U4 y2,U4 g] w (U4 j)))
    (A10:Hid (∀ w,Rt 180 #[U4 j,U4 ey] w (U4 r)))
    (Eh:∀ w,(Op.equalIn 10000 24 (U4 h) (.agg #[.int .u64 0,.int .u64 0,.int .u64 0,.int .u64 0])).run Tryz.prog w = .ok true w) (Er:∀ w,(Op.equalIn 10000 24 (U4 r) (.agg #[.int .u64 0,.int .u64 0,.int .u64 0,.int .u64 0])).run Tryz.prog w = .ok false w) (w:World) :
    Rt 151 #[.agg #[.int .u64 (l0 x),.int .u64 (l1 x),.int .u64 (l2 x),.int .u64 (l3 x),.int .u64 (l0 y),.int .u64 (l1 y),.int .u64 (l2 y),.int .u64 (l3 y),.int .u64 (l0 z),.int .u64 (l1 z),.int .u64 (l2 z),.int .u64 (l3 z)],.agg #[.int .u64 (l0 x2),.int .u64 (l1 x2),.int .u64 (l2 x2),.int .u64 (l3 x2),.int .u64 (l0 y2),.int .u64 (l1 y2),.int .u64 (l2 y2),.int .u64 (l3 y2),.int .u64 (l0 z2),.int .u64 (l1 z2),.int .u64 (l2 z2),.int .u64 (l3 z2)]] w (.agg #[.int .u64 (l0 0),.int .u64 (l1 0),.int .u64 (l2 0),.int .u64 (l3 0),.int .u64 (l0 0),.int .u64 (l1 0),.int .u64 (l2 0),.int .u64 (l3 0),.int .u64 (l0 0),.int .u64 (l1 0),.int .u64 (l2 0),.int .u64 (l3 0)]):=by
  obtain ⟨z0,z1,z2',z3⟩:=aq
  ((try unfold Rt);(try unfold U4);(try unfold P9);rw [z0,z1,z2',z3])
  clear z0 z1 z2' z3
  go_enter Tryz.func151,Tryz.ntmps151
  go_wp2_with fail
  refine aa (fun W=>Below w.heap.size w W∧Thr W w.heap.size x y z∧Thr W (w.heap.size+1) x2 y2 z2∧aw W (w.heap.size+1+1)∧ac W (w.heap.size+1+1+1)) ⟨by repeat (first|with_reducible exact Below.refl _ _|with_reducible refine Below.alloc ?_ (by first|omega|(simp;done)|(simp;omega)) _),(((Thr.new rfl).alloc _).alloc _).alloc _,((Thr.new (by simp)).alloc _).alloc _,(aw.new (by simp)).alloc _,ac.new (by simp)⟩ ?_
  rintro W ⟨B,hT,hO,hR,hZ⟩
  have o3:w.heap.size≤w.heap.size+1+1:=by omega
  generalize w.heap.size+1+1+1=bz at *
  generalize w.heap.size+1+1=br at *
  generalize w.heap.size+1=bo at *
  with_reducible refine (A1.out _).mono ?_
  rintro e w1 ⟨rfl,hb⟩
  replace B:=B.trans (hb.mono B.size)
  replace hT:=hT.keep hb;replace hO:=hO.keep hb;replace hR:=hR.keep hb;replace hZ:=hZ.keep hb
  clear hb W
  have ghO:=fun o=>(hO.alloc o).cells
  go_wp2_with fail
  refine aa (fun W=>Below w.heap.size w W∧Thr W w.heap.size x y z∧Thr W bo x2 y2 z2∧aw W br∧ac W bz∧ab W w1.heap.size a) ⟨B.alloc B.size _,hT.alloc _,hO.alloc _,hR.alloc _,hZ.alloc _,ab.new _ _ _⟩ ?_
  clear B hT hO hR hZ ghO
  rintro W ⟨B,hT,hO,hR,hZ,hA⟩
  generalize w1.heap.size=ba at *
  with_reducible refine (A2.out _).mono ?_
  rintro e w2 ⟨rfl,hb⟩
  replace B:=B.trans (hb.mono B.size)
  replace hT:=hT.keep hb;replace hO:=hO.keep hb;replace hR:=hR.keep hb;replace hZ:=hZ.keep hb;replace hA:=hA.keep hb
  clear hb W
  have ghT:=fun o=>(hT.alloc o).cells
  go_wp2_with fail
  refine aa (fun W=>Below w.heap.size w W∧Thr W w.heap.size x y z∧Thr W bo x2 y2 z2∧aw W br∧ac W bz∧ab W ba a∧ab W w2.heap.size b) ⟨B.alloc B.size _,hT.alloc _,hO.alloc _,hR.alloc _,hZ.alloc _,hA.alloc _,ab.new _ _ _⟩ ?_
  clear B hT hO hR hZ hA ghT
  rintro W ⟨B,hT,hO,hR,hZ,hA,hB⟩
  generalize w2.heap.size=bb at *
  with_reducible refine (A3.out _).mono ?_
  rintro e w3 ⟨rfl,hb⟩
  replace B:=B.trans (hb.mono B.size)
  replace hT:=hT.keep hb;replace hO:=hO.keep hb;replace hR:=hR.keep hb;replace hZ:=hZ.keep hb;replace hA:=hA.keep hb;replace hB:=hB.keep hb
  clear hb W
  go_wp2_with fail
  refine af (fun W=>Below w.heap.size w W∧Thr W w.heap.size x y z∧Thr W bo x2 y2 z2∧aw W br∧ac W bz∧ab W ba a∧ab W bb b∧ab W w3.heap.size c) ⟨B.alloc B.size _,hT.alloc _,hO.alloc _,hR.alloc _,hZ.alloc _,hA.alloc _,hB.alloc _,ab.new _ _ _⟩ ?_
  clear B hT hO hR hZ hA hB
  rintro W ⟨B,hT,hO,hR,hZ,hA,hB,hC⟩
  generalize w3.heap.size=bc at *
  refine aD (A:=?AA1) 7 (by kernel_rfl) (by kernel_rfl) rfl rfl (aB _ _ _) (fun V hV=>?HH1) (fun V w1 hV hw=>?TT1)
  case HH1 =>
    have ghT:=(hT.keep hV).grown
    have ghO:=(hO.keep hV).grown
    have ghB:=(hB.keep hV).grown
    unfold Gr
    simp only [List.take_succ_cons,List.take_zero]
    repeat
      first
        | go_big_quiet_skip
        | (go_big_quiet_want;go_big_quiet_op;go_big_quiet_on)
        | (go_big_quiet_want
           go_big_quiet_op
           apply Exists.intro
           refine ⟨fun p=>?_,?_⟩
           · (first|(go_at_call 147;with_reducible exact Calls.regrown_of (A4.out _))|(go_at_call 147;with_reducible exact Calls.regrown_of (A5.out _)))
           go_big_quiet_on)
    refine wpQuiet_nil ?_
    exact rfl
  case TT1 =>
    have hb:=ap hV hw
    have hN:=(ac.new rfl).keep hw
    have nhT:V.heap.size≠w.heap.size:=Nat.ne_of_gt (Nat.lt_of_lt_of_le (hT.lt) hV.size)
    have nhO:V.heap.size≠bo:=Nat.ne_of_gt (Nat.lt_of_lt_of_le (hO.lt) hV.size)
    have nhR:V.heap.size≠br:=Nat.ne_of_gt (Nat.lt_of_lt_of_le (hR.lt) hV.size)
    have nhZ:V.heap.size≠bz:=Nat.ne_of_gt (Nat.lt_of_lt_of_le (hZ.1.lt (by simp)) hV.size)
    have nhA:V.heap.size≠ba:=Nat.ne_of_gt (Nat.lt_of_lt_of_le (World.block_lt_of_cell? _ _ hA.1) hV.size)
    have nhB:V.heap.size≠bb:=Nat.ne_of_gt (Nat.lt_of_lt_of_le (World.block_lt_of_cell? _ _ hB.1) hV.size)
    have nhC:V.heap.size≠bc:=Nat.ne_of_gt (Nat.lt_of_lt_of_le (World.block_lt_of_cell? _ _ hC.1) hV.size)
    have gn:w.heap.size≤V.heap.size:=Nat.le_trans B.size hV.size
    replace B:=B.trans (hb.mono B.size)
    replace hT:=hT.keep hb;replace hO:=hO.keep hb;replace hR:=hR.keep hb;replace hZ:=hZ.keep hb;replace hA:=hA.keep hb;replace hB:=hB.keep hb;replace hC:=hC.keep hb
    clear hb hw hV W
    generalize V.heap.size=be at *
    clear V
    have gN:=hN.1.all4;have qN:=hN.2.all4
    have mhT:=nhT.symm
    have mhO:=nhO.symm
    have mhR:=nhR.symm
    have mhZ:=nhZ.symm
    have mhA:=nhA.symm
    have mhB:=nhB.symm
    have mhC:=nhC.symm
    simp only [List.drop_succ_cons,List.drop_zero,Act.put,List.setIfInBounds_toArray,List.set_cons_zero,List.set_cons_succ]
    go_wp2_with fail
    refine af (fun W=>Below w.heap.size w W∧Thr W w.heap.size x y z∧Thr W bo x2 y2 z2∧aw W br∧ac W bz∧ab W ba a∧ab W bb b∧ab W bc c∧ab W be ey) ⟨ah B gn _ _ _ _,hT.set4 nhT _ _ _ _,hO.set4 nhO _ _ _ _,hR.set4 nhR _ _ _ _,hZ.set4 nhZ _ _ _ _,hA.set4 nhA _ _ _ _,hB.set4 nhB _ _ _ _,hC.set4 nhC _ _ _ _,ab.sets4 (ac.has hN)⟩ ?_
    clear B hN gN qN hT hO hR hZ hA hB hC nhT mhT nhO mhO nhR mhR nhZ mhZ nhA mhA nhB mhB nhC mhC  gn
    rintro W ⟨B,hT,hO,hR,hZ,hA,hB,hC,hE⟩
    clear w1
    clear hB
    refine aD (A:=?AA2) 6 (by kernel_rfl) (by kernel_rfl) rfl rfl (aB _ _ _) (fun V hV=>?HH2) (fun V w1 hV hw=>?TT2)
    case HH2 =>
      have ghO:=(hO.keep hV).grown
      have ghA:=(hA.keep hV).grown
      have ghC:=(hC.keep hV).grown
      unfold Gr
      simp only [List.take_succ_cons,List.take_zero]
      repeat
        first
          | go_big_quiet_skip
          | (go_big_quiet_want;go_big_quiet_op;go_big_quiet_on)
          | (go_big_quiet_want
             go_big_quiet_op
             apply Exists.intro
             refine ⟨fun p=>?_,?_⟩
             · (first|(go_at_call 147;with_reducible exact Calls.regrown_of (A6.out _))|(go_at_call 180;with_reducible exact Calls.regrown_of (A7.out _)))
             go_big_quiet_on)
      refine wpQuiet_nil ?_
      exact rfl
    case TT2 =>
      have hb:=ap hV hw
      have hN:=(ac.new rfl).keep hw
      have nhT:V.heap.size≠w.heap.size:=Nat.ne_of_gt (Nat.lt_of_lt_of_le (hT.lt) hV.size)
      have nhO:V.heap.size≠bo:=Nat.ne_of_gt (Nat.lt_of_lt_of_le (hO.lt) hV.size)
      have nhR:V.heap.size≠br:=Nat.ne_of_gt (Nat.lt_of_lt_of_le (hR.lt) hV.size)
      have nhZ:V.heap.size≠bz:=Nat.ne_of_gt (Nat.lt_of_lt_of_le (hZ.1.lt (by simp)) hV.size)
      have nhA:V.heap.size≠ba:=Nat.ne_of_gt (Nat.lt_of_lt_of_le (World.block_lt_of_cell? _ _ hA.1) hV.size)
      have nhC:V.heap.size≠bc:=Nat.ne_of_gt (Nat.lt_of_lt_of_le (World.block_lt_of_cell? _ _ hC.1) hV.size)
      have nhE:V.heap.size≠be:=Nat.ne_of_gt (Nat.lt_of_lt_of_le (World.block_lt_of_cell? _ _ hE.1) hV.size)
      have gn:w.heap.size≤V.heap.size:=Nat.le_trans B.size hV.size
      replace B:=B.trans (hb.mono B.size)
      replace hT:=hT.keep hb;replace hO:=hO.keep hb;replace hR:=hR.keep hb;replace hZ:=hZ.keep hb;replace hA:=hA.keep hb;replace hC:=hC.keep hb;replace hE:=hE.keep hb
      clear hb hw hV W
      generalize V.heap.size=bh at *
      clear V
      have gN:=hN.1.all4;have qN:=hN.2.all4
      have mhT:=nhT.symm
      have mhO:=nhO.symm
      have mhR:=nhR.symm
      have mhZ:=nhZ.symm
      have mhA:=nhA.symm
      have mhC:=nhC.symm
      have mhE:=nhE.symm
      simp only [List.drop_succ_cons,List.drop_zero,Act.put,List.setIfInBounds_toArray,List.set_cons_zero,List.set_cons_succ]
      go_wp2_with fail
      refine af (fun W=>Below w.heap.size w W∧Thr W w.heap.size x y z∧Thr W bo x2 y2 z2∧aw W br∧ac W bz∧ab W ba a∧ab W bc c∧ab W be ey∧ab W bh h) ⟨ah B gn _ _ _ _,hT.set4 nhT _ _ _ _,hO.set4 nhO _ _ _ _,hR.set4 nhR _ _ _ _,hZ.set4 nhZ _ _ _ _,hA.set4 nhA _ _ _ _,hC.set4 nhC _ _ _ _,hE.set4 nhE _ _ _ _,ab.sets4 (ac.has hN)⟩ ?_
      clear B hN gN qN hT hO hR hZ hA hC hE nhT mhT nhO mhO nhR mhR nhZ mhZ nhA mhA nhC mhC nhE mhE  gn
      rintro W ⟨B,hT,hO,hR,hZ,hA,hC,hE,hH⟩
      clear w1
      refine aD (A:=?AA3) 9 (by kernel_rfl) (by kernel_rfl) rfl rfl (aB _ _ _) (fun V hV=>?HH3) (fun V w1 hV hw=>?TT3)
      case HH3 =>
        have ghT:=(hT.keep hV).grown
        have ghO:=(hO.keep hV).grown
        have ghA:=(hA.keep hV).grown
        have ghE:=(hE.keep hV).grown
        unfold Gr
        simp only [List.take_succ_cons,List.take_zero]
        repeat
          first
            | go_big_quiet_skip
            | (go_big_quiet_want;go_big_quiet_op;go_big_quiet_on)
            | (go_big_quiet_want
               go_big_quiet_op
               apply Exists.intro
               refine ⟨fun p=>?_,?_⟩
               · (first|(go_at_call 147;with_reducible exact Calls.regrown_of (A8.out _))|(go_at_call 147;with_reducible exact Calls.regrown_of (A9.out _))|(go_at_call 180;with_reducible exact Calls.regrown_of (A10.out _)))
               go_big_quiet_on)
        refine wpQuiet_nil ?_
        exact rfl
      case TT3 =>
        have hb:=ap hV hw
        have hN:=(ac.new rfl).keep hw
        have nhT:V.heap.size≠w.heap.size:=Nat.ne_of_gt (Nat.lt_of_lt_of_le (hT.lt) hV.size)
        have nhO:V.heap.size≠bo:=Nat.ne_of_gt (Nat.lt_of_lt_of_le (hO.lt) hV.size)
        have nhR:V.heap.size≠br:=Nat.ne_of_gt (Nat.lt_of_lt_of_le (hR.lt) hV.size)
        have nhZ:V.heap.size≠bz:=Nat.ne_of_gt (Nat.lt_of_lt_of_le (hZ.1.lt (by simp)) hV.size)
        have nhA:V.heap.size≠ba:=Nat.ne_of_gt (Nat.lt_of_lt_of_le (World.block_lt_of_cell? _ _ hA.1) hV.size)
        have nhC:V.heap.size≠bc:=Nat.ne_of_gt (Nat.lt_of_lt_of_le (World.block_lt_of_cell? _ _ hC.1) hV.size)
        have nhE:V.heap.size≠be:=Nat.ne_of_gt (Nat.lt_of_lt_of_le (World.block_lt_of_cell? _ _ hE.1) hV.size)
        have nhH:V.heap.size≠bh:=Nat.ne_of_gt (Nat.lt_of_lt_of_le (World.block_lt_of_cell? _ _ hH.1) hV.size)
        have gn:w.heap.size≤V.heap.size:=Nat.le_trans B.size hV.size
        replace B:=B.trans (hb.mono B.size)
        replace hT:=hT.keep hb;replace hO:=hO.keep hb;replace hR:=hR.keep hb;replace hZ:=hZ.keep hb;replace hA:=hA.keep hb;replace hC:=hC.keep hb;replace hE:=hE.keep hb;replace hH:=hH.keep hb
        clear hb hw hV W
        generalize V.heap.size=bg at *
        clear V
        have gN:=hN.1.all4;have qN:=hN.2.all4
        have ghH:=hH.cells
        have ghZ:=hZ.1.all4;have qhZ:=hZ.2.all4
        have ghR:=hR.cells;have qhR:=hR.free
        have mhT:=nhT.symm
        have mhO:=nhO.symm
        have mhR:=nhR.symm
        have mhZ:=nhZ.symm
        have mhA:=nhA.symm
        have mhC:=nhC.symm
        have mhE:=nhE.symm
        have mhH:=nhH.symm
        simp only [List.drop_succ_cons,List.drop_zero,Act.put,List.setIfInBounds_toArray,List.set_cons_zero,List.set_cons_succ]
        go_wp2
        simp [bodyPost,results,Tryz.results151,go_sem, *]
        repeat (first|with_reducible exact B|with_reducible refine Below.setCell ?_ o3 _|with_reducible refine Below.setCell ?_ gn _)
theorem pQ {x y z x2 y2 z2 a b c d ey f h g j r k m q n p s u v1 v2 v3 v o1 o2:Int} (E0:∀ w,(Op.equalIn 10000 24 (U4 z) (.agg #[.int .u64 0,.int .u64 0,.int .u64 0,.int .u64 0])).run Tryz.prog w = .ok false w) (E1:∀ w,(Op.equalIn 10000 24 (U4 z2) (.agg #[.int .u64 0,.int .u64 0,.int .u64 0,.int .u64 0])).run Tryz.prog w = .ok false w)
    (A1:Hid (∀ w,Rt 147 #[U4 z,U4 z] w (U4 a)))
    (A2:Hid (∀ w,Rt 147 #[U4 z2,U4 z2] w (U4 b)))
    (A3:Hid (∀ w,Rt 147 #[U4 x,U4 b] w (U4 c)))
    (A4:Hid (∀ w,Rt 147 #[U4 b,U4 z2] w (U4 d)))
    (A5:Hid (∀ w,Rt 147 #[U4 y,U4 d] w (U4 ey)))
    (A6:Hid (∀ w,Rt 147 #[U4 x2,U4 a] w (U4 f)))
    (A7:Hid (∀ w,Rt 180 #[U4 f,U4 c] w (U4 h)))
    (A8:Hid (∀ w,Rt 147 #[U4 a,U4 z] w (U4 g)))
    (A9:Hid (∀ w,Rt 147 #[U4 y2,U4 g] w (U4 j)))
    (A10:Hid (∀ w,Rt 180 #[U4 j,U4 ey] w (U4 r)))
    (A11:Hid (∀ w,Rt 147 #[U4 h,U4 h] w (U4 k)))
    (A12:Hid (∀ w,Rt 147 #[U4 k,U4 h] w (U4 m)))
    (A13:Hid (∀ w,Rt 147 #[U4 c,U4 k] w (U4 q)))
    (A14:Hid (∀ w,Rt 147 #[U4 r,U4 r] w (U4 n)))
    (A15:Hid (∀ w,Rt 180 #[U4 n,U4 m] w (U4 p)))
    (A16:Hid (∀ w,Rt 179 #[.int .u64 2,U4 q] w (U4 s)))
    (A17:Hid (∀ w,Rt 180 #[U4 p,U4 s] w (U4 u)))
    (A18:Hid (∀ w,Rt 180 #[U4 q,U4 u] w (U4 v1)))
    (A19:Hid (∀ w,Rt 147 #[U4 r,U4 v1] w (U4 v2)))
    (A20:Hid (∀ w,Rt 147 #[U4 ey,U4 m] w (U4 v3)))
    (A21:Hid (∀ w,Rt 180 #[U4 v2,U4 v3] w (U4 v)))
    (A22:Hid (∀ w,Rt 147 #[U4 z,U4 z2] w (U4 o1)))
    (A23:Hid (∀ w,Rt 147 #[U4 h,U4 o1] w (U4 o2)))
    (Eh:∀ w,(Op.equalIn 10000 24 (U4 h) (.agg #[.int .u64 0,.int .u64 0,.int .u64 0,.int .u64 0])).run Tryz.prog w = .ok false w) (w:World) :
    Rt 151 #[.agg #[.int .u64 (l0 x),.int .u64 (l1 x),.int .u64 (l2 x),.int .u64 (l3 x),.int .u64 (l0 y),.int .u64 (l1 y),.int .u64 (l2 y),.int .u64 (l3 y),.int .u64 (l0 z),.int .u64 (l1 z),.int .u64 (l2 z),.int .u64 (l3 z)],.agg #[.int .u64 (l0 x2),.int .u64 (l1 x2),.int .u64 (l2 x2),.int .u64 (l3 x2),.int .u64 (l0 y2),.int .u64 (l1 y2),.int .u64 (l2 y2),.int .u64 (l3 y2),.int .u64 (l0 z2),.int .u64 (l1 z2),.int .u64 (l2 z2),.int .u64 (l3 z2)]] w (.agg #[.int .u64 (l0 u),.int .u64 (l1 u),.int .u64 (l2 u),.int .u64 (l3 u),.int .u64 (l0 v),.int .u64 (l1 v),.int .u64 (l2 v),.int .u64 (l3 v),.int .u64 (l0 o2),.int .u64 (l1 o2),.int .u64 (l2 o2),.int .u64 (l3 o2)]):=by
  go_enter Tryz.func151,Tryz.ntmps151
  go_wp2_with fail
  refine aa (fun W=>Below w.heap.size w W∧Thr W w.heap.size x y z∧Thr W (w.heap.size+1) x2 y2 z2∧aw W (w.heap.size+1+1)∧ac W (w.heap.size+1+1+1)) ⟨by repeat (first|with_reducible exact Below.refl _ _|with_reducible refine Below.alloc ?_ (by first|omega|(simp;done)|(simp;omega)) _),(((Thr.new rfl).alloc _).alloc _).alloc _,((Thr.new (by simp)).alloc _).alloc _,(aw.new (by simp)).alloc _,ac.new (by simp)⟩ ?_
  rintro W ⟨B,hT,hO,hR,hZ⟩
  have o3:w.heap.size≤w.heap.size+1+1:=by omega
  generalize w.heap.size+1+1+1=bz at *
  generalize w.heap.size+1+1=br at *
  generalize w.heap.size+1=bo at *
  with_reducible refine (A1.out _).mono ?_
  rintro e w1 ⟨rfl,hb⟩
  replace B:=B.trans (hb.mono B.size)
  replace hT:=hT.keep hb;replace hO:=hO.keep hb;replace hR:=hR.keep hb;replace hZ:=hZ.keep hb
  clear hb W
  have ghO:=fun o=>(hO.alloc o).cells
  go_wp2_with fail
  refine aa (fun W=>Below w.heap.size w W∧Thr W w.heap.size x y z∧Thr W bo x2 y2 z2∧aw W br∧ac W bz∧ab W w1.heap.size a) ⟨B.alloc B.size _,hT.alloc _,hO.alloc _,hR.alloc _,hZ.alloc _,ab.new _ _ _⟩ ?_
  clear B hT hO hR hZ ghO
  rintro W ⟨B,hT,hO,hR,hZ,hA⟩
  generalize w1.heap.size=ba at *
  with_reducible refine (A2.out _).mono ?_
  rintro e w2 ⟨rfl,hb⟩
  replace B:=B.trans (hb.mono B.size)
  replace hT:=hT.keep hb;replace hO:=hO.keep hb;replace hR:=hR.keep hb;replace hZ:=hZ.keep hb;replace hA:=hA.keep hb
  clear hb W
  have ghT:=fun o=>(hT.alloc o).cells
  go_wp2_with fail
  refine aa (fun W=>Below w.heap.size w W∧Thr W w.heap.size x y z∧Thr W bo x2 y2 z2∧aw W br∧ac W bz∧ab W ba a∧ab W w2.heap.size b) ⟨B.alloc B.size _,hT.alloc _,hO.alloc _,hR.alloc _,hZ.alloc _,hA.alloc _,ab.new _ _ _⟩ ?_
  clear B hT hO hR hZ hA ghT
  rintro W ⟨B,hT,hO,hR,hZ,hA,hB⟩
  generalize w2.heap.size=bb at *
  with_reducible refine (A3.out _).mono ?_
  rintro e w3 ⟨rfl,hb⟩
  replace B:=B.trans (hb.mono B.size)
  replace hT:=hT.keep hb;replace hO:=hO.keep hb;replace hR:=hR.keep hb;replace hZ:=hZ.keep hb;replace hA:=hA.keep hb;replace hB:=hB.keep hb
  clear hb W
  go_wp2_with fail
  refine af (fun W=>Below w.heap.size w W∧Thr W w.heap.size x y z∧Thr W bo x2 y2 z2∧aw W br∧ac W bz∧ab W ba a∧ab W bb b∧ab W w3.heap.size c) ⟨B.alloc B.size _,hT.alloc _,hO.alloc _,hR.alloc _,hZ.alloc _,hA.alloc _,hB.alloc _,ab.new _ _ _⟩ ?_
  clear B hT hO hR hZ hA hB
  rintro W ⟨B,hT,hO,hR,hZ,hA,hB,hC⟩
  generalize w3.heap.size=bc at *
  refine aD (A:=?AA1) 7 (by kernel_rfl) (by kernel_rfl) rfl rfl (aB _ _ _) (fun V hV=>?HH1) (fun V w1 hV hw=>?TT1)
  case HH1 =>
    have ghT:=(hT.keep hV).grown
    have ghO:=(hO.keep hV).grown
    have ghB:=(hB.keep hV).grown
    unfold Gr
    simp only [List.take_succ_cons,List.take_zero]
    repeat
      first
        | go_big_quiet_skip
        | (go_big_quiet_want;go_big_quiet_op;go_big_quiet_on)
        | (go_big_quiet_want
           go_big_quiet_op
           apply Exists.intro
           refine ⟨fun p=>?_,?_⟩
           · (first|(go_at_call 147;with_reducible exact Calls.regrown_of (A4.out _))|(go_at_call 147;with_reducible exact Calls.regrown_of (A5.out _)))
           go_big_quiet_on)
    refine wpQuiet_nil ?_
    exact rfl
  case TT1 =>
    have hb:=ap hV hw
    have hN:=(ac.new rfl).keep hw
    have nhT:V.heap.size≠w.heap.size:=Nat.ne_of_gt (Nat.lt_of_lt_of_le (hT.lt) hV.size)
    have nhO:V.heap.size≠bo:=Nat.ne_of_gt (Nat.lt_of_lt_of_le (hO.lt) hV.size)
    have nhR:V.heap.size≠br:=Nat.ne_of_gt (Nat.lt_of_lt_of_le (hR.lt) hV.size)
    have nhZ:V.heap.size≠bz:=Nat.ne_of_gt (Nat.lt_of_lt_of_le (hZ.1.lt (by simp)) hV.size)
    have nhA:V.heap.size≠ba:=Nat.ne_of_gt (Nat.lt_of_lt_of_le (World.block_lt_of_cell? _ _ hA.1) hV.size)
    have nhB:V.heap.size≠bb:=Nat.ne_of_gt (Nat.lt_of_lt_of_le (World.block_lt_of_cell? _ _ hB.1) hV.size)
    have nhC:V.heap.size≠bc:=Nat.ne_of_gt (Nat.lt_of_lt_of_le (World.block_lt_of_cell? _ _ hC.1) hV.size)
    have gn:w.heap.size≤V.heap.size:=Nat.le_trans B.size hV.size
    replace B:=B.trans (hb.mono B.size)
    replace hT:=hT.keep hb;replace hO:=hO.keep hb;replace hR:=hR.keep hb;replace hZ:=hZ.keep hb;replace hA:=hA.keep hb;replace hB:=hB.keep hb;replace hC:=hC.keep hb
    clear hb hw hV W
    generalize V.heap.size=be at *
    clear V
    have gN:=hN.1.all4;have qN:=hN.2.all4
    have mhT:=nhT.symm
    have mhO:=nhO.symm
    have mhR:=nhR.symm
    have mhZ:=nhZ.symm
    have mhA:=nhA.symm
    have mhB:=nhB.symm
    have mhC:=nhC.symm
    simp only [List.drop_succ_cons,List.drop_zero,Act.put,List.setIfInBounds_toArray,List.set_cons_zero,List.set_cons_succ]
    go_wp2_with fail
    refine af (fun W=>Below w.heap.size w W∧Thr W w.heap.size x y z∧Thr W bo x2 y2 z2∧aw W br∧ac W bz∧ab W ba a∧ab W bb b∧ab W bc c∧ab W be ey) ⟨ah B gn _ _ _ _,hT.set4 nhT _ _ _ _,hO.set4 nhO _ _ _ _,hR.set4 nhR _ _ _ _,hZ.set4 nhZ _ _ _ _,hA.set4 nhA _ _ _ _,hB.set4 nhB _ _ _ _,hC.set4 nhC _ _ _ _,ab.sets4 (ac.has hN)⟩ ?_
    clear B hN gN qN hT hO hR hZ hA hB hC nhT mhT nhO mhO nhR mhR nhZ mhZ nhA mhA nhB mhB nhC mhC  gn
    rintro W ⟨B,hT,hO,hR,hZ,hA,hB,hC,hE⟩
    clear w1
    clear hB
    refine aD (A:=?AA2) 6 (by kernel_rfl) (by kernel_rfl) rfl rfl (aB _ _ _) (fun V hV=>?HH2) (fun V w1 hV hw=>?TT2)
    case HH2 =>
      have ghO:=(hO.keep hV).grown
      have ghA:=(hA.keep hV).grown
      have ghC:=(hC.keep hV).grown
      unfold Gr
      simp only [List.take_succ_cons,List.take_zero]
      repeat
        first
          | go_big_quiet_skip
          | (go_big_quiet_want;go_big_quiet_op;go_big_quiet_on)
          | (go_big_quiet_want
             go_big_quiet_op
             apply Exists.intro
             refine ⟨fun p=>?_,?_⟩
             · (first|(go_at_call 147;with_reducible exact Calls.regrown_of (A6.out _))|(go_at_call 180;with_reducible exact Calls.regrown_of (A7.out _)))
             go_big_quiet_on)
      refine wpQuiet_nil ?_
      exact rfl
    case TT2 =>
      have hb:=ap hV hw
      have hN:=(ac.new rfl).keep hw
      have nhT:V.heap.size≠w.heap.size:=Nat.ne_of_gt (Nat.lt_of_lt_of_le (hT.lt) hV.size)
      have nhO:V.heap.size≠bo:=Nat.ne_of_gt (Nat.lt_of_lt_of_le (hO.lt) hV.size)
      have nhR:V.heap.size≠br:=Nat.ne_of_gt (Nat.lt_of_lt_of_le (hR.lt) hV.size)
      have nhZ:V.heap.size≠bz:=Nat.ne_of_gt (Nat.lt_of_lt_of_le (hZ.1.lt (by simp)) hV.size)
      have nhA:V.heap.size≠ba:=Nat.ne_of_gt (Nat.lt_of_lt_of_le (World.block_lt_of_cell? _ _ hA.1) hV.size)
      have nhC:V.heap.size≠bc:=Nat.ne_of_gt (Nat.lt_of_lt_of_le (World.block_lt_of_cell? _ _ hC.1) hV.size)
      have nhE:V.heap.size≠be:=Nat.ne_of_gt (Nat.lt_of_lt_of_le (World.block_lt_of_cell? _ _ hE.1) hV.size)
      have gn:w.heap.size≤V.heap.size:=Nat.le_trans B.size hV.size
      replace B:=B.trans (hb.mono B.size)
      replace hT:=hT.keep hb;replace hO:=hO.keep hb;replace hR:=hR.keep hb;replace hZ:=hZ.keep hb;replace hA:=hA.keep hb;replace hC:=hC.keep hb;replace hE:=hE.keep hb
      clear hb hw hV W
      generalize V.heap.size=bh at *
      clear V
      have gN:=hN.1.all4;have qN:=hN.2.all4
      have mhT:=nhT.symm
      have mhO:=nhO.symm
      have mhR:=nhR.symm
      have mhZ:=nhZ.symm
      have mhA:=nhA.symm
      have mhC:=nhC.symm
      have mhE:=nhE.symm
      simp only [List.drop_succ_cons,List.drop_zero,Act.put,List.setIfInBounds_toArray,List.set_cons_zero,List.set_cons_succ]
      go_wp2_with fail
      refine af (fun W=>Below w.heap.size w W∧Thr W w.heap.size x y z∧Thr W bo x2 y2 z2∧aw W br∧ac W bz∧ab W ba a∧ab W bc c∧ab W be ey∧ab W bh h) ⟨ah B gn _ _ _ _,hT.set4 nhT _ _ _ _,hO.set4 nhO _ _ _ _,hR.set4 nhR _ _ _ _,hZ.set4 nhZ _ _ _ _,hA.set4 nhA _ _ _ _,hC.set4 nhC _ _ _ _,hE.set4 nhE _ _ _ _,ab.sets4 (ac.has hN)⟩ ?_
      clear B hN gN qN hT hO hR hZ hA hC hE nhT mhT nhO mhO nhR mhR nhZ mhZ nhA mhA nhC mhC nhE mhE  gn
      rintro W ⟨B,hT,hO,hR,hZ,hA,hC,hE,hH⟩
      clear w1
      refine aD (A:=?AA3) 9 (by kernel_rfl) (by kernel_rfl) rfl rfl (aB _ _ _) (fun V hV=>?HH3) (fun V w1 hV hw=>?TT3)
      case HH3 =>
        have ghT:=(hT.keep hV).grown
        have ghO:=(hO.keep hV).grown
        have ghA:=(hA.keep hV).grown
        have ghE:=(hE.keep hV).grown
        unfold Gr
        simp only [List.take_succ_cons,List.take_zero]
        repeat
          first
            | go_big_quiet_skip
            | (go_big_quiet_want;go_big_quiet_op;go_big_quiet_on)
            | (go_big_quiet_want
               go_big_quiet_op
               apply Exists.intro
               refine ⟨fun p=>?_,?_⟩
               · (first|(go_at_call 147;with_reducible exact Calls.regrown_of (A8.out _))|(go_at_call 147;with_reducible exact Calls.regrown_of (A9.out _))|(go_at_call 180;with_reducible exact Calls.regrown_of (A10.out _)))
               go_big_quiet_on)
        refine wpQuiet_nil ?_
        exact rfl
      case TT3 =>
        have hb:=ap hV hw
        have hN:=(ac.new rfl).keep hw
        have nhT:V.heap.size≠w.heap.size:=Nat.ne_of_gt (Nat.lt_of_lt_of_le (hT.lt) hV.size)
        have nhO:V.heap.size≠bo:=Nat.ne_of_gt (Nat.lt_of_lt_of_le (hO.lt) hV.size)
        have nhR:V.heap.size≠br:=Nat.ne_of_gt (Nat.lt_of_lt_of_le (hR.lt) hV.size)
        have nhZ:V.heap.size≠bz:=Nat.ne_of_gt (Nat.lt_of_lt_of_le (hZ.1.lt (by simp)) hV.size)
        have nhA:V.heap.size≠ba:=Nat.ne_of_gt (Nat.lt_of_lt_of_le (World.block_lt_of_cell? _ _ hA.1) hV.size)
        have nhC:V.heap.size≠bc:=Nat.ne_of_gt (Nat.lt_of_lt_of_le (World.block_lt_of_cell? _ _ hC.1) hV.size)
        have nhE:V.heap.size≠be:=Nat.ne_of_gt (Nat.lt_of_lt_of_le (World.block_lt_of_cell? _ _ hE.1) hV.size)
        have nhH:V.heap.size≠bh:=Nat.ne_of_gt (Nat.lt_of_lt_of_le (World.block_lt_of_cell? _ _ hH.1) hV.size)
        have gn:w.heap.size≤V.heap.size:=Nat.le_trans B.size hV.size
        replace B:=B.trans (hb.mono B.size)
        replace hT:=hT.keep hb;replace hO:=hO.keep hb;replace hR:=hR.keep hb;replace hZ:=hZ.keep hb;replace hA:=hA.keep hb;replace hC:=hC.keep hb;replace hE:=hE.keep hb;replace hH:=hH.keep hb
        clear hb hw hV W
        generalize V.heap.size=bg at *
        clear V
        have gN:=hN.1.all4;have qN:=hN.2.all4
        have ghH:=hH.cells
        have ghZ:=hZ.1.all4;have qhZ:=hZ.2.all4
        have mhT:=nhT.symm
        have mhO:=nhO.symm
        have mhR:=nhR.symm
        have mhZ:=nhZ.symm
        have mhA:=nhA.symm
        have mhC:=nhC.symm
        have mhE:=nhE.symm
        have mhH:=nhH.symm
        simp only [List.drop_succ_cons,List.drop_zero,Act.put,List.setIfInBounds_toArray,List.set_cons_zero,List.set_cons_succ]
        go_wp2_with fail
        refine aa (fun W=>Below w.heap.size w W∧Thr W w.heap.size x y z∧Thr W bo x2 y2 z2∧aw W br∧ac W bz∧ab W ba a∧ab W bc c∧ab W be ey∧ab W bh h∧ab W bg r) ⟨ah B gn _ _ _ _,hT.set4 nhT _ _ _ _,hO.set4 nhO _ _ _ _,hR.set4 nhR _ _ _ _,hZ.set4 nhZ _ _ _ _,hA.set4 nhA _ _ _ _,hC.set4 nhC _ _ _ _,hE.set4 nhE _ _ _ _,hH.set4 nhH _ _ _ _,ab.sets4 (ac.has hN)⟩ ?_
        clear B hN gN qN hT hO hR hZ hA hC hE hH nhT mhT nhO mhO nhR mhR nhZ mhZ nhA mhA nhC mhC nhE mhE nhH mhH ghH ghZ qhZ gn
        rintro W ⟨B,hT,hO,hR,hZ,hA,hC,hE,hH,hG⟩
        clear w1
        clear hA hZ
        with_reducible refine (A11.out _).mono ?_
        rintro e w4 ⟨rfl,hb⟩
        replace B:=B.trans (hb.mono B.size)
        replace hT:=hT.keep hb;replace hO:=hO.keep hb;replace hR:=hR.keep hb;replace hC:=hC.keep hb;replace hE:=hE.keep hb;replace hH:=hH.keep hb;replace hG:=hG.keep hb
        clear hb W
        have ghH:=hH.allocs
        go_wp2_with fail
        refine aa (fun W=>Below w.heap.size w W∧Thr W w.heap.size x y z∧Thr W bo x2 y2 z2∧aw W br∧ab W bc c∧ab W be ey∧ab W bh h∧ab W bg r∧ab W w4.heap.size k) ⟨B.alloc B.size _,hT.alloc _,hO.alloc _,hR.alloc _,hC.alloc _,hE.alloc _,hH.alloc _,hG.alloc _,ab.new _ _ _⟩ ?_
        clear B hT hO hR hC hE hH hG ghH
        rintro W ⟨B,hT,hO,hR,hC,hE,hH,hG,hK⟩
        generalize w4.heap.size=bk at *
        with_reducible refine (A12.out _).mono ?_
        rintro e w5 ⟨rfl,hb⟩
        replace B:=B.trans (hb.mono B.size)
        replace hT:=hT.keep hb;replace hO:=hO.keep hb;replace hR:=hR.keep hb;replace hC:=hC.keep hb;replace hE:=hE.keep hb;replace hH:=hH.keep hb;replace hG:=hG.keep hb;replace hK:=hK.keep hb
        clear hb W
        have ghC:=hC.allocs
        have ghK:=hK.allocs
        go_wp2_with fail
        refine aa (fun W=>Below w.heap.size w W∧Thr W w.heap.size x y z∧Thr W bo x2 y2 z2∧aw W br∧ab W bc c∧ab W be ey∧ab W bh h∧ab W bg r∧ab W bk k∧ab W w5.heap.size m) ⟨B.alloc B.size _,hT.alloc _,hO.alloc _,hR.alloc _,hC.alloc _,hE.alloc _,hH.alloc _,hG.alloc _,hK.alloc _,ab.new _ _ _⟩ ?_
        clear B hT hO hR hC hE hH hG hK ghC ghK
        rintro W ⟨B,hT,hO,hR,hC,hE,hH,hG,hK,hM1⟩
        generalize w5.heap.size=bm at *
        with_reducible refine (A13.out _).mono ?_
        rintro e w6 ⟨rfl,hb⟩
        replace B:=B.trans (hb.mono B.size)
        replace hT:=hT.keep hb;replace hO:=hO.keep hb;replace hR:=hR.keep hb;replace hC:=hC.keep hb;replace hE:=hE.keep hb;replace hH:=hH.keep hb;replace hG:=hG.keep hb;replace hK:=hK.keep hb;replace hM1:=hM1.keep hb
        clear hb W
        go_wp2_with fail
        refine af (fun W=>Below w.heap.size w W∧Thr W w.heap.size x y z∧Thr W bo x2 y2 z2∧aw W br∧ab W bc c∧ab W be ey∧ab W bh h∧ab W bg r∧ab W bk k∧ab W bm m∧ab W w6.heap.size q) ⟨B.alloc B.size _,hT.alloc _,hO.alloc _,hR.alloc _,hC.alloc _,hE.alloc _,hH.alloc _,hG.alloc _,hK.alloc _,hM1.alloc _,ab.new _ _ _⟩ ?_
        clear B hT hO hR hC hE hH hG hK hM1
        rintro W ⟨B,hT,hO,hR,hC,hE,hH,hG,hK,hM1,hQ⟩
        generalize w6.heap.size=bq at *
        clear hK hC
        refine aD (A:=?AA4) 8 (by kernel_rfl) (by kernel_rfl) rfl rfl (aB _ _ _) (fun V hV=>?HH4) (fun V w1 hV hw=>?TT4)
        case HH4 =>
          have ghG:=(hG.keep hV).grown
          have ghM1:=(hM1.keep hV).grown
          have ghQ:=(hQ.keep hV).grown
          unfold Gr
          simp only [List.take_succ_cons,List.take_zero]
          repeat
            first
              | go_big_quiet_skip
              | (go_big_quiet_want;go_big_quiet_op;go_big_quiet_on)
              | (go_big_quiet_want
                 go_big_quiet_op
                 apply Exists.intro
                 refine ⟨fun p=>?_,?_⟩
                 · (first|(go_at_call 147;with_reducible exact Calls.regrown_of (A14.out _))|(go_at_call 180;with_reducible exact Calls.regrown_of (A15.out _))|(go_at_call 179;with_reducible exact Calls.regrown_of (A16.out _))|(go_at_call 180;with_reducible exact Calls.regrown_of (A17.out _)))
                 go_big_quiet_on)
          refine wpQuiet_nil ?_
          exact rfl
        case TT4 =>
          have hb:=ap hV hw
          have hN:=(ac.new rfl).keep hw
          have nhT:V.heap.size≠w.heap.size:=Nat.ne_of_gt (Nat.lt_of_lt_of_le (hT.lt) hV.size)
          have nhO:V.heap.size≠bo:=Nat.ne_of_gt (Nat.lt_of_lt_of_le (hO.lt) hV.size)
          have nhR:V.heap.size≠br:=Nat.ne_of_gt (Nat.lt_of_lt_of_le (hR.lt) hV.size)
          have nhE:V.heap.size≠be:=Nat.ne_of_gt (Nat.lt_of_lt_of_le (World.block_lt_of_cell? _ _ hE.1) hV.size)
          have nhH:V.heap.size≠bh:=Nat.ne_of_gt (Nat.lt_of_lt_of_le (World.block_lt_of_cell? _ _ hH.1) hV.size)
          have nhG:V.heap.size≠bg:=Nat.ne_of_gt (Nat.lt_of_lt_of_le (World.block_lt_of_cell? _ _ hG.1) hV.size)
          have nhM1:V.heap.size≠bm:=Nat.ne_of_gt (Nat.lt_of_lt_of_le (World.block_lt_of_cell? _ _ hM1.1) hV.size)
          have nhQ:V.heap.size≠bq:=Nat.ne_of_gt (Nat.lt_of_lt_of_le (World.block_lt_of_cell? _ _ hQ.1) hV.size)
          have gn:w.heap.size≤V.heap.size:=Nat.le_trans B.size hV.size
          replace B:=B.trans (hb.mono B.size)
          replace hT:=hT.keep hb;replace hO:=hO.keep hb;replace hR:=hR.keep hb;replace hE:=hE.keep hb;replace hH:=hH.keep hb;replace hG:=hG.keep hb;replace hM1:=hM1.keep hb;replace hQ:=hQ.keep hb
          clear hb hw hV W
          generalize V.heap.size=bu at *
          clear V
          have gN:=hN.1.all4;have qN:=hN.2.all4
          have mhT:=nhT.symm
          have mhO:=nhO.symm
          have mhR:=nhR.symm
          have mhE:=nhE.symm
          have mhH:=nhH.symm
          have mhG:=nhG.symm
          have mhM1:=nhM1.symm
          have mhQ:=nhQ.symm
          simp only [List.drop_succ_cons,List.drop_zero,Act.put,List.setIfInBounds_toArray,List.set_cons_zero,List.set_cons_succ]
          go_wp2_with fail
          refine af (fun W=>Below w.heap.size w W∧Thr W w.heap.size x y z∧Thr W bo x2 y2 z2∧aw W br∧ab W be ey∧ab W bh h∧ab W bg r∧ab W bm m∧ab W bq q∧ab W bu u) ⟨ah B gn _ _ _ _,hT.set4 nhT _ _ _ _,hO.set4 nhO _ _ _ _,hR.set4 nhR _ _ _ _,hE.set4 nhE _ _ _ _,hH.set4 nhH _ _ _ _,hG.set4 nhG _ _ _ _,hM1.set4 nhM1 _ _ _ _,hQ.set4 nhQ _ _ _ _,ab.sets4 (ac.has hN)⟩ ?_
          clear B hN gN qN hT hO hR hE hH hG hM1 hQ nhT mhT nhO mhO nhR mhR nhE mhE nhH mhH nhG mhG nhM1 mhM1 nhQ mhQ  gn
          rintro W ⟨B,hT,hO,hR,hE,hH,hG,hM1,hQ,hU⟩
          clear w1
          refine aD (A:=?AA5) 9 (by kernel_rfl) (by kernel_rfl) rfl rfl (aB _ _ _) (fun V hV=>?HH5) (fun V w1 hV hw=>?TT5)
          case HH5 =>
            have ghE:=(hE.keep hV).grown
            have ghG:=(hG.keep hV).grown
            have ghM1:=(hM1.keep hV).grown
            have ghQ:=(hQ.keep hV).grown
            have ghU:=(hU.keep hV).grown
            unfold Gr
            simp only [List.take_succ_cons,List.take_zero]
            repeat
              first
                | go_big_quiet_skip
                | (go_big_quiet_want;go_big_quiet_op;go_big_quiet_on)
                | (go_big_quiet_want
                   go_big_quiet_op
                   apply Exists.intro
                   refine ⟨fun p=>?_,?_⟩
                   · (first|(go_at_call 180;with_reducible exact Calls.regrown_of (A18.out _))|(go_at_call 147;with_reducible exact Calls.regrown_of (A19.out _))|(go_at_call 147;with_reducible exact Calls.regrown_of (A20.out _))|(go_at_call 180;with_reducible exact Calls.regrown_of (A21.out _)))
                   go_big_quiet_on)
            refine wpQuiet_nil ?_
            exact rfl
          case TT5 =>
            have hb:=ap hV hw
            have hN:=(ac.new rfl).keep hw
            have nhT:V.heap.size≠w.heap.size:=Nat.ne_of_gt (Nat.lt_of_lt_of_le (hT.lt) hV.size)
            have nhO:V.heap.size≠bo:=Nat.ne_of_gt (Nat.lt_of_lt_of_le (hO.lt) hV.size)
            have nhR:V.heap.size≠br:=Nat.ne_of_gt (Nat.lt_of_lt_of_le (hR.lt) hV.size)
            have nhE:V.heap.size≠be:=Nat.ne_of_gt (Nat.lt_of_lt_of_le (World.block_lt_of_cell? _ _ hE.1) hV.size)
            have nhH:V.heap.size≠bh:=Nat.ne_of_gt (Nat.lt_of_lt_of_le (World.block_lt_of_cell? _ _ hH.1) hV.size)
            have nhG:V.heap.size≠bg:=Nat.ne_of_gt (Nat.lt_of_lt_of_le (World.block_lt_of_cell? _ _ hG.1) hV.size)
            have nhM1:V.heap.size≠bm:=Nat.ne_of_gt (Nat.lt_of_lt_of_le (World.block_lt_of_cell? _ _ hM1.1) hV.size)
            have nhQ:V.heap.size≠bq:=Nat.ne_of_gt (Nat.lt_of_lt_of_le (World.block_lt_of_cell? _ _ hQ.1) hV.size)
            have nhU:V.heap.size≠bu:=Nat.ne_of_gt (Nat.lt_of_lt_of_le (World.block_lt_of_cell? _ _ hU.1) hV.size)
            have gn:w.heap.size≤V.heap.size:=Nat.le_trans B.size hV.size
            replace B:=B.trans (hb.mono B.size)
            replace hT:=hT.keep hb;replace hO:=hO.keep hb;replace hR:=hR.keep hb;replace hE:=hE.keep hb;replace hH:=hH.keep hb;replace hG:=hG.keep hb;replace hM1:=hM1.keep hb;replace hQ:=hQ.keep hb;replace hU:=hU.keep hb
            clear hb hw hV W
            generalize V.heap.size=bv at *
            clear V
            have gN:=hN.1.all4;have qN:=hN.2.all4
            have mhT:=nhT.symm
            have mhO:=nhO.symm
            have mhR:=nhR.symm
            have mhE:=nhE.symm
            have mhH:=nhH.symm
            have mhG:=nhG.symm
            have mhM1:=nhM1.symm
            have mhQ:=nhQ.symm
            have mhU:=nhU.symm
            simp only [List.drop_succ_cons,List.drop_zero,Act.put,List.setIfInBounds_toArray,List.set_cons_zero,List.set_cons_succ]
            go_wp2_with fail
            refine af (fun W=>Below w.heap.size w W∧Thr W w.heap.size x y z∧Thr W bo x2 y2 z2∧aw W br∧ab W be ey∧ab W bh h∧ab W bg r∧ab W bm m∧ab W bq q∧ab W bu u∧ab W bv v) ⟨ah B gn _ _ _ _,hT.set4 nhT _ _ _ _,hO.set4 nhO _ _ _ _,hR.set4 nhR _ _ _ _,hE.set4 nhE _ _ _ _,hH.set4 nhH _ _ _ _,hG.set4 nhG _ _ _ _,hM1.set4 nhM1 _ _ _ _,hQ.set4 nhQ _ _ _ _,hU.set4 nhU _ _ _ _,ab.sets4 (ac.has hN)⟩ ?_
            clear B hN gN qN hT hO hR hE hH hG hM1 hQ hU nhT mhT nhO mhO nhR mhR nhE mhE nhH mhH nhG mhG nhM1 mhM1 nhQ mhQ nhU mhU  gn
            rintro W ⟨B,hT,hO,hR,hE,hH,hG,hM1,hQ,hU,hV1⟩
            clear w1
            clear hG hQ hE hM1
            refine aD (A:=?AA6) 7 (by kernel_rfl) (by kernel_rfl) rfl rfl (aB _ _ _) (fun V hV=>?HH6) (fun V w1 hV hw=>?TT6)
            case HH6 =>
              have ghT:=(hT.keep hV).grown
              have ghO:=(hO.keep hV).grown
              have ghH:=(hH.keep hV).grown
              unfold Gr
              simp only [List.take_succ_cons,List.take_zero]
              repeat
                first
                  | go_big_quiet_skip
                  | (go_big_quiet_want;go_big_quiet_op;go_big_quiet_on)
                  | (go_big_quiet_want
                     go_big_quiet_op
                     apply Exists.intro
                     refine ⟨fun p=>?_,?_⟩
                     · (first|(go_at_call 147;with_reducible exact Calls.regrown_of (A22.out _))|(go_at_call 147;with_reducible exact Calls.regrown_of (A23.out _)))
                     go_big_quiet_on)
              refine wpQuiet_nil ?_
              exact rfl
            case TT6 =>
              have hb:=ap hV hw
              have hN:=(ac.new rfl).keep hw
              have nhT:V.heap.size≠w.heap.size:=Nat.ne_of_gt (Nat.lt_of_lt_of_le (hT.lt) hV.size)
              have nhO:V.heap.size≠bo:=Nat.ne_of_gt (Nat.lt_of_lt_of_le (hO.lt) hV.size)
              have nhR:V.heap.size≠br:=Nat.ne_of_gt (Nat.lt_of_lt_of_le (hR.lt) hV.size)
              have nhH:V.heap.size≠bh:=Nat.ne_of_gt (Nat.lt_of_lt_of_le (World.block_lt_of_cell? _ _ hH.1) hV.size)
              have nhU:V.heap.size≠bu:=Nat.ne_of_gt (Nat.lt_of_lt_of_le (World.block_lt_of_cell? _ _ hU.1) hV.size)
              have nhV1:V.heap.size≠bv:=Nat.ne_of_gt (Nat.lt_of_lt_of_le (World.block_lt_of_cell? _ _ hV1.1) hV.size)
              have gn:w.heap.size≤V.heap.size:=Nat.le_trans B.size hV.size
              replace B:=B.trans (hb.mono B.size)
              replace hT:=hT.keep hb;replace hO:=hO.keep hb;replace hR:=hR.keep hb;replace hH:=hH.keep hb;replace hU:=hU.keep hb;replace hV1:=hV1.keep hb
              clear hb hw hV W
              generalize V.heap.size=bz1 at *
              clear V
              have gN:=hN.1.all4;have qN:=hN.2.all4
              have ghU:=hU.cells
              have ghV1:=hV1.cells
              have ghR:=hR.cells;have qhR:=hR.free
              have mhT:=nhT.symm
              have mhO:=nhO.symm
              have mhR:=nhR.symm
              have mhH:=nhH.symm
              have mhU:=nhU.symm
              have mhV1:=nhV1.symm
              simp only [List.drop_succ_cons,List.drop_zero,Act.put,List.setIfInBounds_toArray,List.set_cons_zero,List.set_cons_succ]
              go_wp2
              simp [bodyPost,results,Tryz.results151,go_sem, *]
              repeat (first|with_reducible exact B|with_reducible refine Below.setCell ?_ o3 _|with_reducible refine Below.setCell ?_ gn _)
theorem tT {x y z:Int} (E0:∀ w,(Op.equalIn 10000 24 (U4 z) (.agg #[.int .u64 0,.int .u64 0,.int .u64 0,.int .u64 0])).run Tryz.prog w = .ok true w) (CI:Hid (∀ w,Rt 146 #[] w (.agg #[.int .u64 (l0 0),.int .u64 (l1 0),.int .u64 (l2 0),.int .u64 (l3 0),.int .u64 (l0 0),.int .u64 (l1 0),.int .u64 (l2 0),.int .u64 (l3 0),.bool true]))) (w:World) :
  Rt 113 #[.agg #[.int .u64 (l0 x),.int .u64 (l1 x),.int .u64 (l2 x),.int .u64 (l3 x),.int .u64 (l0 y),.int .u64 (l1 y),.int .u64 (l2 y),.int .u64 (l3 y),.int .u64 (l0 z),.int .u64 (l1 z),.int .u64 (l2 z),.int .u64 (l3 z)]] w (.agg #[.int .u64 (l0 0),.int .u64 (l1 0),.int .u64 (l2 0),.int .u64 (l3 0),.int .u64 (l0 0),.int .u64 (l1 0),.int .u64 (l2 0),.int .u64 (l3 0),.bool true]):=by
 go_enter Tryz.func113,Tryz.ntmps113
 go_wp2_with fail
 refine aa (fun W=>Below w.heap.size w W∧Bk9 W (w.heap.size+1)) ⟨by repeat (first|with_reducible exact Below.refl _ _|with_reducible refine Below.alloc ?_ (by first|omega|(simp;done)|(simp;omega)) _),Bk9.new (by simp)⟩ ?_
 rintro W ⟨B,hR⟩
 have o3:w.heap.size≤w.heap.size+1:=by omega
 generalize w.heap.size+1=br at *
 with_reducible refine (CI.out _).mono ?_
 rintro e w1 ⟨rfl,hb⟩
 replace B:=B.trans (hb.mono B.size)
 replace hR:=hR.keep hb
 clear hb W
 have gR:=hR.cells;have fR:=hR.free
 go_wp2
 simp [bodyPost,results,Tryz.results113,go_sem,gR]
 repeat (first|with_reducible exact B|with_reducible refine Below.setCell ?_ o3 _)
theorem oP {x y z v a c d ye:Int} (E0:∀ w,(Op.equalIn 10000 24 (U4 z) (.agg #[.int .u64 0,.int .u64 0,.int .u64 0,.int .u64 0])).run Tryz.prog w = .ok false w) (CV:Hid (∀ w,Rt 118 #[.int .i64 0,U4 z] w (.tuple #[U4 v,.int .i64 0]))) (A1:Hid (∀ w,Rt 147 #[U4 v,U4 v] w (U4 a))) (A2:Hid (∀ w,Rt 147 #[U4 x,U4 a] w (U4 c))) (A3:Hid (∀ w,Rt 147 #[U4 a,U4 v] w (U4 d))) (A4:Hid (∀ w,Rt 147 #[U4 y,U4 d] w (U4 ye))) (w:World) :
    Calls Tryz.prog 113 #[.agg #[.int .u64 (l0 x),.int .u64 (l1 x),.int .u64 (l2 x),.int .u64 (l3 x),.int .u64 (l0 y),.int .u64 (l1 y),.int .u64 (l2 y),.int .u64 (l3 y),.int .u64 (l0 z),.int .u64 (l1 z),.int .u64 (l2 z),.int .u64 (l3 z)]] w fun e' w'=>e' = .returned (P9 c ye false)∧Below w.heap.size w w':=by
  go_enter Tryz.func113,Tryz.ntmps113
  go_wp2_with fail
  refine aa (fun W=>Below w.heap.size w W∧Thr W w.heap.size x y z∧Bk9 W (w.heap.size+1)) ⟨by repeat (first|with_reducible exact Below.refl _ _|with_reducible refine Below.alloc ?_ (by first|omega|(simp;done)|(simp;omega)) _),(Thr.new rfl).alloc _,Bk9.new (by simp)⟩ ?_
  rintro W ⟨B,hT,hR⟩
  have o3:w.heap.size≤w.heap.size+1:=by omega
  generalize w.heap.size+1=br at *
  with_reducible refine (CV.out _).mono ?_
  rintro e1 w1 ⟨rfl,hb⟩
  replace B:=B.trans (hb.mono B.size)
  replace hT:=hT.keep hb;replace hR:=hR.keep hb
  clear hb W
  go_wp2_with fail
  refine aa (fun W=>Below w.heap.size w W∧Thr W w.heap.size x y z∧Bk9 W br∧ab W w1.heap.size v) ⟨B.alloc B.size _,hT.alloc _,hR.alloc _,ab.new _ _ _⟩ ?_
  clear B hT hR
  rintro W ⟨B,hT,hR,hI⟩
  generalize w1.heap.size=bi at *
  with_reducible refine (A1.out _).mono ?_
  rintro e1 w2 ⟨rfl,hb⟩
  replace B:=B.trans (hb.mono B.size)
  replace hT:=hT.keep hb;replace hR:=hR.keep hb;replace hI:=hI.keep hb
  clear hb W
  have ghT:=fun o=>(hT.alloc o).cells
  go_wp2_with fail
  refine aa (fun W=>Below w.heap.size w W∧Thr W w.heap.size x y z∧Bk9 W br∧ab W bi v∧ab W w2.heap.size a) ⟨B.alloc B.size _,hT.alloc _,hR.alloc _,hI.alloc _,ab.new _ _ _⟩ ?_
  clear B hT hR hI ghT
  rintro W ⟨B,hT,hR,hI,hA⟩
  generalize w2.heap.size=ba at *
  with_reducible refine (A2.out _).mono ?_
  rintro e1 w3 ⟨rfl,hb⟩
  replace B:=B.trans (hb.mono B.size)
  replace hT:=hT.keep hb;replace hR:=hR.keep hb;replace hI:=hI.keep hb;replace hA:=hA.keep hb
  clear hb W
  go_wp2_with fail
  refine af (fun W=>Below w.heap.size w W∧Thr W w.heap.size x y z∧Bk9 W br∧ab W bi v∧ab W ba a∧ab W w3.heap.size c) ⟨B.alloc B.size _,hT.alloc _,hR.alloc _,hI.alloc _,hA.alloc _,ab.new _ _ _⟩ ?_
  clear B hT hR hI hA
  rintro W ⟨B,hT,hR,hI,hA,hX⟩
  generalize w3.heap.size=bx at *
  refine aD (A:=?AA1) 6 (by kernel_rfl) (by kernel_rfl) rfl rfl (aB _ _ _) (fun V hV=>?HH1) (fun V w1 hV hw=>?TT1)
  case HH1 =>
    have ghT:=(hT.keep hV).grown
    have ghI:=(hI.keep hV).grown
    have ghA:=(hA.keep hV).grown
    unfold Gr
    simp only [List.take_succ_cons,List.take_zero]
    repeat
      first
        | go_big_quiet_skip
        | (go_big_quiet_want;go_big_quiet_op;go_big_quiet_on)
        | (go_big_quiet_want
           go_big_quiet_op
           apply Exists.intro
           refine ⟨fun p=>?_,?_⟩
           · (first|(go_at_call 147;with_reducible exact Calls.regrown_of (A3.out _))|(go_at_call 147;with_reducible exact Calls.regrown_of (A4.out _)))
           go_big_quiet_on)
    refine wpQuiet_nil ?_
    exact rfl
  case TT1 =>
    have hb:=ap hV hw
    have hN:=(ac.new rfl).keep hw
    have nhT:V.heap.size≠w.heap.size:=Nat.ne_of_gt (Nat.lt_of_lt_of_le (hT.lt) hV.size)
    have nhR:V.heap.size≠br:=Nat.ne_of_gt (Nat.lt_of_lt_of_le (hR.lt) hV.size)
    have nhI:V.heap.size≠bi:=Nat.ne_of_gt (Nat.lt_of_lt_of_le (World.block_lt_of_cell? _ _ hI.1) hV.size)
    have nhA:V.heap.size≠ba:=Nat.ne_of_gt (Nat.lt_of_lt_of_le (World.block_lt_of_cell? _ _ hA.1) hV.size)
    have nhX:V.heap.size≠bx:=Nat.ne_of_gt (Nat.lt_of_lt_of_le (World.block_lt_of_cell? _ _ hX.1) hV.size)
    have gn:w.heap.size≤V.heap.size:=Nat.le_trans B.size hV.size
    replace B:=B.trans (hb.mono B.size)
    replace hT:=hT.keep hb;replace hR:=hR.keep hb;replace hI:=hI.keep hb;replace hA:=hA.keep hb;replace hX:=hX.keep hb
    clear hb hw hV W
    generalize V.heap.size=by1 at *
    clear V
    have gN:=hN.1.all4;have qN:=hN.2.all4
    have ghX:=hX.cells
    have ghR:=hR.cells;have qhR:=hR.free
    have mhT:=nhT.symm
    have mhR:=nhR.symm
    have mhI:=nhI.symm
    have mhA:=nhA.symm
    have mhX:=nhX.symm
    simp only [List.drop_succ_cons,List.drop_zero,Act.put,List.setIfInBounds_toArray,List.set_cons_zero,List.set_cons_succ]
    go_wp2
    simp [bodyPost,results,Tryz.results113,go_sem, *]
    repeat (first|with_reducible exact B|with_reducible refine Below.setCell ?_ o3 _|with_reducible refine Below.setCell ?_ gn _)
open Go.RowKit Go.Sort
theorem eqz {n:Int} (hn:Num n) {v:Bool} (e:decide (n=0)=v):∀ w,(Op.equalIn 10000 24 (U4 n) (.agg #[.int .u64 0,.int .u64 0,.int .u64 0,.int .u64 0])).run Tryz.prog w = .ok v w:=fun w=>by
 have:=iR hn (m:=0) ⟨by decide,by decide⟩ w
 obtain ⟨z0,z1,z2,z3⟩:=aq
 ((try unfold Rt at this);(try unfold U4 at this);(try unfold P9 at this);rw [z0,z1,z2,z3,e] at this)
 exact this
theorem nw {x y z:Int} (hx:EC.Low x) (hy:EC.Low y) (hz:EC.Low z):∃ x' y' z',EC.Low x'∧EC.Low y'∧EC.Low z'∧J3 x' y' z'=⟨EC.dx (EC.fp x) (EC.fp y),EC.dy (EC.fp x) (EC.fp y),EC.dz (EC.fp y) (EC.fp z)⟩ ∧
  ∀ w,Rt 149 #[.agg #[.int .u64 (l0 x),.int .u64 (l1 x),.int .u64 (l2 x),.int .u64 (l3 x),.int .u64 (l0 y),.int .u64 (l1 y),.int .u64 (l2 y),.int .u64 (l3 y),.int .u64 (l0 z),.int .u64 (l1 z),.int .u64 (l2 z),.int .u64 (l3 z)]] w (.agg #[.int .u64 (l0 x'),.int .u64 (l1 x'),.int .u64 (l2 x'),.int .u64 (l3 x'),.int .u64 (l0 y'),.int .u64 (l1 y'),.int .u64 (l2 y'),.int .u64 (l3 y'),.int .u64 (l0 z'),.int .u64 (l1 z'),.int .u64 (l2 z'),.int .u64 (l3 z')]):=by
 refine ⟨_,_,_,EC.low_mod _,EC.low_mod _,EC.low_mod _,?_,fun w=>oO (fun w=>ar hy.num hy.num w) (fun w=>ar hx.num (ae am _) w) (fun w=>cX ⟨by decide,by decide⟩ (ae am _) w) (fun w=>ar hx.num hx.num w) (fun w=>cX ⟨by decide,by decide⟩ (ae am _) w) (fun w=>ar (ae am _) (ae am _) w) (fun w=>cX ⟨by decide,by decide⟩ (ae am _) w) (fun w=>bS (ae am _) (ae am _) w) (fun w=>bS (ae am _) (ae am _) w) (fun w=>ar (ae am _) (ae am _) w) (fun w=>ar (ae am _) (ae am _) w) (fun w=>cX ⟨by decide,by decide⟩ (ae am _) w) (fun w=>bS (ae am _) (ae am _) w) (fun w=>ar hy.num hz.num w) (fun w=>cX ⟨by decide,by decide⟩ (ae am _) w) w⟩
 unfold J3
 simp only [EC.fp_mod,EC.fp_mul,EC.fp_sub]
 have f2:EC.fp 2=2:=by decide +kernel
 have f3:EC.fp 3=3:=by decide +kernel
 have f4:EC.fp 4=4:=by decide +kernel
 have f8:EC.fp 8=8:=by decide +kernel
 rw [f2,f3,f4,f8]
 rfl
theorem qZ {x y z:Int} (hx:EC.Low x) (hy:EC.Low y) (hz:EC.Low z) (on:EC.On (J3 x y z).pt):∃ x' y' z',EC.Low x'∧EC.Low y'∧EC.Low z'∧(J3 x' y' z').pt=(J3 x y z).pt.add (J3 x y z).pt ∧
  ∀ w,Rt 149 #[.agg #[.int .u64 (l0 x),.int .u64 (l1 x),.int .u64 (l2 x),.int .u64 (l3 x),.int .u64 (l0 y),.int .u64 (l1 y),.int .u64 (l2 y),.int .u64 (l3 y),.int .u64 (l0 z),.int .u64 (l1 z),.int .u64 (l2 z),.int .u64 (l3 z)]] w (.agg #[.int .u64 (l0 x'),.int .u64 (l1 x'),.int .u64 (l2 x'),.int .u64 (l3 x'),.int .u64 (l0 y'),.int .u64 (l1 y'),.int .u64 (l2 y'),.int .u64 (l3 y'),.int .u64 (l0 z'),.int .u64 (l1 z'),.int .u64 (l2 z'),.int .u64 (l3 z')]):=by
 obtain ⟨x',y',z',l1,l2,l3,ej,cj⟩:=nw hx hy hz
 refine ⟨x',y',z',l1,l2,l3,?_,cj⟩
 by_cases h0:z=0
 ·have e1:(J3 x y z).pt = .o:=EC.pt_o (by show EC.fp z=0;rw [h0,EC.fp_zero])
  rw [e1,ej]
  refine EC.pt_o ?_
  show EC.dz (EC.fp y) (EC.fp z)=0
  rw [h0,EC.fp_zero]
  unfold EC.dz
  grind -lia -linarith
 ·rw [←EC.jd_pt on,ej]
  unfold EC.jd
  rw [if_neg (show ¬(J3 x y z).z=0 from fM hz h0)]
  rfl
theorem wJ {x y z x2 y2 z2:Int} (hx:EC.Low x) (hy:EC.Low y) (hz:EC.Low z) (hx2:EC.Low x2) (hy2:EC.Low y2) (hz2:EC.Low z2):∃ x' y' z',EC.Low x'∧EC.Low y'∧EC.Low z'∧J3 x' y' z'=EC.ja (J3 x y z) (J3 x2 y2 z2) ∧
  ∀ w,Rt 151 #[.agg #[.int .u64 (l0 x),.int .u64 (l1 x),.int .u64 (l2 x),.int .u64 (l3 x),.int .u64 (l0 y),.int .u64 (l1 y),.int .u64 (l2 y),.int .u64 (l3 y),.int .u64 (l0 z),.int .u64 (l1 z),.int .u64 (l2 z),.int .u64 (l3 z)],.agg #[.int .u64 (l0 x2),.int .u64 (l1 x2),.int .u64 (l2 x2),.int .u64 (l3 x2),.int .u64 (l0 y2),.int .u64 (l1 y2),.int .u64 (l2 y2),.int .u64 (l3 y2),.int .u64 (l0 z2),.int .u64 (l1 z2),.int .u64 (l2 z2),.int .u64 (l3 z2)]] w (.agg #[.int .u64 (l0 x'),.int .u64 (l1 x'),.int .u64 (l2 x'),.int .u64 (l3 x'),.int .u64 (l0 y'),.int .u64 (l1 y'),.int .u64 (l2 y'),.int .u64 (l3 y'),.int .u64 (l0 z'),.int .u64 (l1 z'),.int .u64 (l2 z'),.int .u64 (l3 z')]):=by
 by_cases h0:z=0
 ·refine ⟨x2,y2,z2,hx2,hy2,hz2,?_,fun w=>wH (eqz hz.num (decide_eq_true h0)) w⟩
  unfold EC.ja
  rw [if_pos (show (J3 x y z).z=0 by show EC.fp z=0;rw [h0,EC.fp_zero])]
 have n0:¬(J3 x y z).z=0:=fM hz h0
 have E0:=eqz hz.num (decide_eq_false h0)
 by_cases h2:z2=0
 ·refine ⟨x,y,z,hx,hy,hz,?_,fun w=>wI E0 (eqz hz2.num (decide_eq_true h2)) w⟩
  unfold EC.ja
  rw [if_neg n0,if_pos (show (J3 x2 y2 z2).z=0 by show EC.fp z2=0;rw [h2,EC.fp_zero])]
 have n2:¬(J3 x2 y2 z2).z=0:=fM hz2 h2
 have E1:=eqz hz2.num (decide_eq_false h2)
 obtain ⟨h,eh⟩:∃ h,h=ag pN (ag pN (x2*ag pN (z*z))-ag pN (x*ag pN (z2*z2))):=⟨_,rfl⟩
 obtain ⟨r,er⟩:∃ r,r=ag pN (ag pN (y2*ag pN (ag pN (z*z)*z))-ag pN (y*ag pN (ag pN (z2*z2)*z2))):=⟨_,rfl⟩
 have lh:EC.Low h:=by rw [eh];exact EC.low_mod _
 have lr:EC.Low r:=by rw [er];exact EC.low_mod _
 have fh:EC.fp h=EC.run (J3 x y z).x (J3 x y z).z (J3 x2 y2 z2).x (J3 x2 y2 z2).z:=by
  rw [eh];simp only [EC.fp_mod,EC.fp_mul,EC.fp_sub];rfl
 have fr:EC.fp r=EC.rise (J3 x y z).y (J3 x y z).z (J3 x2 y2 z2).y (J3 x2 y2 z2).z:=by
  rw [er];simp only [EC.fp_mod,EC.fp_mul,EC.fp_sub];rfl
 by_cases hh:h=0
 ·have e0:EC.run (J3 x y z).x (J3 x y z).z (J3 x2 y2 z2).x (J3 x2 y2 z2).z=0:=by rw [←fh,hh,EC.fp_zero]
  have Eh:=eqz lh.num (decide_eq_true hh)
  by_cases hr:r=0
  ·obtain ⟨x',y',z',l1,l2,l3,ej,cj⟩:=nw hx hy hz
   have Er:=eqz lr.num (decide_eq_true hr)
   subst eh;subst er
   refine ⟨x',y',z',l1,l2,l3,?_,fun w=>pP E0 E1 (fun w=>ar hz.num hz.num w) (fun w=>ar hz2.num hz2.num w) (fun w=>ar hx.num (ae am _) w) (fun w=>ar (ae am _) hz2.num w) (fun w=>ar hy.num (ae am _) w) (fun w=>ar hx2.num (ae am _) w) (fun w=>bS (ae am _) (ae am _) w) (fun w=>ar (ae am _) hz.num w) (fun w=>ar hy2.num (ae am _) w) (fun w=>bS (ae am _) (ae am _) w) Eh Er cj w⟩
   rw [ej];unfold EC.ja
   rw [if_neg n0,if_neg n2,if_pos e0,if_pos (by rw [←fr,hr,EC.fp_zero])]
   unfold EC.jd
   rw [if_neg n0]
   rfl
  ·have Er:=eqz lr.num (decide_eq_false hr)
   have e1:¬EC.rise (J3 x y z).y (J3 x y z).z (J3 x2 y2 z2).y (J3 x2 y2 z2).z=0:=by rw [←fr];exact fM lr hr
   subst eh;subst er
   refine ⟨0,0,0,⟨by decide,by decide⟩,⟨by decide,by decide⟩,⟨by decide,by decide⟩,?_,fun w=>qY E0 E1 (fun w=>ar hz.num hz.num w) (fun w=>ar hz2.num hz2.num w) (fun w=>ar hx.num (ae am _) w) (fun w=>ar (ae am _) hz2.num w) (fun w=>ar hy.num (ae am _) w) (fun w=>ar hx2.num (ae am _) w) (fun w=>bS (ae am _) (ae am _) w) (fun w=>ar (ae am _) hz.num w) (fun w=>ar hy2.num (ae am _) w) (fun w=>bS (ae am _) (ae am _) w) Eh Er w⟩
   unfold EC.ja
   rw [if_neg n0,if_neg n2,if_pos e0,if_neg e1]
   unfold J3 EC.J.o
   rw [EC.fp_zero]
 ·have e0:¬EC.run (J3 x y z).x (J3 x y z).z (J3 x2 y2 z2).x (J3 x2 y2 z2).z=0:=by rw [←fh];exact fM lh hh
  have Eh:=eqz lh.num (decide_eq_false hh)
  subst eh;subst er
  refine ⟨_,_,_,EC.low_mod _,EC.low_mod _,EC.low_mod _,?_,fun w=>pQ E0 E1 (fun w=>ar hz.num hz.num w) (fun w=>ar hz2.num hz2.num w) (fun w=>ar hx.num (ae am _) w) (fun w=>ar (ae am _) hz2.num w) (fun w=>ar hy.num (ae am _) w) (fun w=>ar hx2.num (ae am _) w) (fun w=>bS (ae am _) (ae am _) w) (fun w=>ar (ae am _) hz.num w) (fun w=>ar hy2.num (ae am _) w) (fun w=>bS (ae am _) (ae am _) w) (fun w=>ar (ae am _) (ae am _) w) (fun w=>ar (ae am _) (ae am _) w) (fun w=>ar (ae am _) (ae am _) w) (fun w=>ar (ae am _) (ae am _) w) (fun w=>bS (ae am _) (ae am _) w) (fun w=>cX ⟨by decide,by decide⟩ (ae am _) w) (fun w=>bS (ae am _) (ae am _) w) (fun w=>bS (ae am _) (ae am _) w) (fun w=>ar (ae am _) (ae am _) w) (fun w=>ar (ae am _) (ae am _) w) (fun w=>bS (ae am _) (ae am _) w) (fun w=>ar hz.num hz2.num w) (fun w=>ar (ae am _) (ae am _) w) Eh w⟩
  unfold EC.ja
  rw [if_neg n0,if_neg n2,if_neg e0,←fh,←fr]
  unfold J3
  simp only [EC.fp_mod,EC.fp_mul,EC.fp_sub]
  have f2:EC.fp 2=2:=by decide +kernel
  rw [f2]
  generalize EC.fp x=X;generalize EC.fp y=Y;generalize EC.fp z=Z;generalize EC.fp x2=X2;generalize EC.fp y2=Y2;generalize EC.fp z2=Z2
  generalize X2*(Z*Z)-X*(Z2*Z2)=H
  generalize Y2*(Z*Z*Z)-Y*(Z2*Z2*Z2)=R
  congr 1
  unfold EC.az;grind -lia -linarith
theorem me (w:World):Rt 146 #[] w (.agg #[.int .u64 (l0 0),.int .u64 (l1 0),.int .u64 (l2 0),.int .u64 (l3 0),.int .u64 (l0 0),.int .u64 (l1 0),.int .u64 (l2 0),.int .u64 (l3 0),.bool true]):=by
 obtain ⟨z0,z1,z2,z3⟩:=aq
 ((try unfold Rt);(try unfold U4);(try unfold P9);rw [z0,z1,z2,z3])
 go_enter Tryz.func146,Tryz.ntmps146
 go_wp2
 simp [bodyPost,results,Tryz.results146,go_sem]
 repeat (first|with_reducible exact Below.refl _ _|with_reducible refine Below.alloc ?_ (by first|omega|(simp;done)|(simp;omega)) _|with_reducible refine Below.setCell ?_ (by first|omega|(simp;done)|(simp;omega)) _)
theorem tU {x y z:Int} (hx:EC.Low x) (hy:EC.Low y) (hz:EC.Low z):∃ x' y' i,EC.Low x'∧EC.Low y'∧(i=true→x'=0∧y'=0)∧bI x' y' i=(J3 x y z).pt ∧
  ∀ w,Rt 113 #[.agg #[.int .u64 (l0 x),.int .u64 (l1 x),.int .u64 (l2 x),.int .u64 (l3 x),.int .u64 (l0 y),.int .u64 (l1 y),.int .u64 (l2 y),.int .u64 (l3 y),.int .u64 (l0 z),.int .u64 (l1 z),.int .u64 (l2 z),.int .u64 (l3 z)]] w (P9 x' y' i):=by
 by_cases h0:z=0
 ·refine ⟨0,0,true,⟨by decide,by decide⟩,⟨by decide,by decide⟩,fun _=>⟨rfl,rfl⟩,?_,fun w=>tT (eqz hz.num (decide_eq_true h0)) (fun w=>me w) w⟩
  subst h0
  exact (EC.pt_o EC.fp_zero).symm
 ·have hm0:ag (rM 0) z≠0:=by show ag pN z≠0;rw [fC hz.1 hz.2];exact h0
  refine ⟨_,_,false,EC.low_mod _,EC.low_mod _,(fun e=>by cases e),?_,fun w=>oP (v:=fi pN z) (eqz hz.num (decide_eq_false h0)) (fun w=>iN (.inl rfl) hz.num hm0 w)
   (fun w=>ar (bY am _ _) (bY am _ _) w) (fun w=>ar hx.num (ae am _) w) (fun w=>ar (ae am _) (bY am _ _) w) (fun w=>ar hy.num (ae am _) w) w⟩
  show EC.Pt.a _ _=EC.pt (EC.fp x) (EC.fp y) (EC.fp z)
  unfold EC.pt
  rw [if_neg (fM hz h0)]
  have ei:EC.fp (aY pN z (pN-2))=EC.iv (EC.fp z):=EC.fp_inv hz
  simp only [EC.fp_mod,EC.fp_mul,ei]
theorem tV {x y:Int} {i:Bool} (h:Vd x y i):∃ x' y' z',EC.Low x'∧EC.Low y'∧EC.Low z'∧(J3 x' y' z').pt=bI x y i ∧
  ∀ w,Rt 148 #[P9 x y i] w (.agg #[.int .u64 (l0 x'),.int .u64 (l1 x'),.int .u64 (l2 x'),.int .u64 (l3 x'),.int .u64 (l0 y'),.int .u64 (l1 y'),.int .u64 (l2 y'),.int .u64 (l3 y'),.int .u64 (l0 z'),.int .u64 (l1 z'),.int .u64 (l2 z'),.int .u64 (l3 z')]):=by
 cases i with
 | true=>exact ⟨0,0,0,⟨by decide,by decide⟩,⟨by decide,by decide⟩,⟨by decide,by decide⟩,EC.pt_o EC.fp_zero,fun w=>qU w⟩
 | false =>
  refine ⟨x,y,1,h.1,h.2.1,⟨by decide,by decide⟩,?_,fun w=>qV (fun w=>dV ⟨by decide,by decide⟩ w) w⟩
  show EC.pt (EC.fp x) (EC.fp y) (EC.fp 1) = .a (EC.fp x) (EC.fp y)
  rw [EC.fp_one]
  refine EC.pt_of (by decide +kernel) ?_ ?_<;>grind -lia -linarith
end Go.Proofs.YtnnnaajgjniiaaaGreatDoor

import Derived.Test.YtnnnaajgjniiaaaGreatDoorAb
import Derived.Test.YtnnnaajgjniiaaaGreatDoorEChk
import Derived.Test.YtnnnaajgjniiaaaGreatDoorGet
import Derived.Test.YtnnnaajgjniiaaaGreatDoorFRefY
set_option maxRecDepth 100000
set_option maxHeartbeats 2000000
namespace Go.Proofs.YtnnnaajgjniiaaaGreatDoor
open Go.RowKit Go.Sort
def aO (A:List Int):Value:=.agg ((A.map fun z=>Value.int .u8 z).toArray)
theorem iW {A:List Int} {bb ob cb:Nat} (hA:dR A) (hl:A.length≤32) (w:World) (ha:(∀ i,i<A.length→w.cell? ⟨bb,ob+i,none⟩=some (.int .u8 (A.getD i 0)))) :
  Rt 58 #[.slice (some ⟨bb,ob,none⟩) A.length cb] w (U4 (aS A A.length)):=by
 have C:Hid (∀ w,(∀ i,i<A.length→w.cell? ⟨bb,ob+i,none⟩=some (.int .u8 (A.getD i 0)))→Rt 103 #[.slice (some ⟨bb,ob,none⟩) A.length cb] w (.tuple #[U4 (aS A A.length),.int .i64 0])):=fun w ha=>wm hA hl w ha
 have HA:Hid (∀ i,i<A.length→w.cell? ⟨bb,ob+i,none⟩=some (.int .u8 (A.getD i 0))):=ha
 clear ha hA hl
 generalize aS A A.length=n at *
 go_enter Tryz.func58,Tryz.ntmps58
 go_wp2_with fail
 refine aa (fun W=>Below w.heap.size w W∧(∀ i,i<A.length→W.cell? ⟨bb,ob+i,none⟩=some (.int .u8 (A.getD i 0)))∧ac W w.heap.size) ⟨by repeat (first|with_reducible exact Below.refl _ _|with_reducible refine Below.alloc ?_ (by first|omega|(simp;done)|(simp;omega)) _),fun i hi=>cell_keep ((Below.refl _ _).alloc (Nat.le_refl _) _) (HA.out i hi),ac.new rfl⟩ ?_
 rintro W ⟨B,hY,hR⟩
 with_reducible refine (C.out _ hY).mono ?_
 rintro e w1 ⟨rfl,hb⟩
 replace B:=B.trans (hb.mono B.size)
 replace hR:=hR.keep hb
 have lr:=hR.1.lt (by simp)
 have nr:w1.heap.size≠w.heap.size:=by omega
 have nr':=nr.symm
 have o3:w.heap.size≤w.heap.size:=Nat.le_refl _
 clear hb hY W
 have gR:=fun o=>(hR.alloc o).1.all4
 have fR:=fun o=>(hR.alloc o).2.all4
 have gR0:=hR.1.all4
 have fR0:=hR.2.all4
 have BB:Hid (Below w.heap.size w w1):=B
 clear B hR
 go_wp2
 simp [bodyPost,results,Tryz.results58,go_sem, *]
 repeat (first|with_reducible exact BB.out|with_reducible refine Below.setCell ?_ o3 _|with_reducible refine Below.alloc ?_ (by first|omega|(simp;omega)) _)
theorem lU {A:List Int} {W:World} {t:TypeId}:∀ i,i<A.length→(W.alloc (.cells ((A.map fun z=>Value.int .u8 z).toArray) t)).cell? ⟨W.heap.size,0+i,none⟩=some (.int .u8 (A.getD i 0)):=fun i hi=>by
 rw [Nat.zero_add]
 simp [go_sem,hi,List.getD]
theorem j6 {A:List Int} (hA:dR A) (hl:A.length=32) (w:World) (hm:Mds w) :
  Rt 30 #[aO A] w (U4 (ag nN (aS A 32))):=by
 have C:Hid (∀ w bb,(∀ i,i<A.length→w.cell? ⟨bb,0+i,none⟩=some (.int .u8 (A.getD i 0)))→Rt 58 #[.slice (some ⟨bb,0,none⟩) 32 32] w (U4 (aS A 32))):=fun w bb h=>by
  have:=iW (ob:=0) (cb:=32) hA (by omega) w h
  rw [hl] at this
  exact this
 have hn:Num (aS A 32):=by
  have:=cS hA 32
  exact ⟨this.1,by have:=this.2;simpa using this⟩
 have C2:=vZ hn
 generalize ag nN (aS A 32)=r at *
 generalize aS A 32=n at *
 unfold aO
 clear hA hn
 go_enter Tryz.func30,Tryz.ntmps30
 go_wp2_with fail
 refine aa (fun W=>Below w.heap.size w W∧Mds W∧(∀ i,i<A.length→W.cell? ⟨w.heap.size,0+i,none⟩=some (.int .u8 (A.getD i 0)))∧ac W (w.heap.size+1)) ⟨by repeat (first|with_reducible exact Below.refl _ _|with_reducible refine Below.alloc ?_ (by first|omega|(simp;done)|(simp;omega)) _),(hm.alloc _).alloc _,fun i hi=>cell_keep ((Below.refl _ _).alloc (Nat.le_refl _) _) (lU i hi),ac.new (by simp)⟩ ?_
 rintro W ⟨B,hD,hY,hR⟩
 have o3:w.heap.size≤w.heap.size+1:=by omega
 generalize w.heap.size+1=br at *
 with_reducible refine (C.out _ _ hY).mono ?_
 rintro e w1 ⟨rfl,hb⟩
 replace B:=B.trans (hb.mono B.size)
 replace hD:=hD.keep hb;replace hR:=hR.keep hb
 clear hb hY W C
 go_wp2_with fail
 refine aa (fun W=>Below w.heap.size w W∧Mds W∧ac W br) ⟨B,hD,hR⟩ ?_
 clear B hD hR
 rintro W ⟨B,hD,hR⟩
 with_reducible refine (C2.out _ hD).mono ?_
 rintro e w2 ⟨rfl,hb⟩
 replace B:=B.trans (hb.mono B.size)
 replace hR:=hR.keep hb
 clear hb hD W C2
 have gR:=hR.1.all4
 have fR:=hR.2.all4
 go_wp2
 simp [bodyPost,results,Tryz.results30,go_sem, *]
 repeat (first|with_reducible exact B|with_reducible refine Below.setCell ?_ o3 _)
open Go.RowKit Go.Sort
theorem pD {x y r:Int} (C:Hid (∀ w,Rt 117 #[.int .i64 1,U4 x,U4 y] w (.tuple #[U4 r,.int .i64 0]))) (w:World) :
  Rt 70 #[U4 x,U4 y] w (U4 r):=by
 go_enter Tryz.func70,Tryz.ntmps70
 go_wp2_with fail
 refine aa (fun W=>Below w.heap.size w W∧ac W (w.heap.size+1+1)) ⟨by repeat (first|with_reducible exact Below.refl _ _|with_reducible refine Below.alloc ?_ (by first|omega|(simp;done)|(simp;omega)) _),ac.new (by simp)⟩ ?_
 rintro W ⟨B,hR⟩
 have o3:w.heap.size≤w.heap.size+1+1:=by omega
 generalize w.heap.size+1+1=br at *
 with_reducible refine (C.out _).mono ?_
 rintro e w1 ⟨rfl,hb⟩
 replace B:=B.trans (hb.mono B.size)
 replace hR:=hR.keep hb
 have lr:=hR.1.lt (by simp)
 have nr:w1.heap.size≠br:=by omega
 have nr':=nr.symm
 clear hb W
 have gR:=fun o=>(hR.alloc o).1.all4
 have fR:=fun o=>(hR.alloc o).2.all4
 have gR0:=hR.1.all4
 have fR0:=hR.2.all4
 have sz:=B.size
 have BB:Hid (Below w.heap.size w w1):=B
 clear B hR
 go_wp2
 simp [bodyPost,results,Tryz.results70,go_sem, *]
 repeat (first|with_reducible exact BB.out|with_reducible refine Below.setCell ?_ o3 _|with_reducible refine Below.alloc ?_ (by first|omega|(simp;omega)) _)
theorem oH {x y r:Int} (C:Hid (∀ w,Rt 116 #[.int .i64 1,U4 x,U4 y] w (.tuple #[U4 r,.int .i64 0]))) (w:World) :
  Rt 69 #[U4 x,U4 y] w (U4 r):=by
 go_enter Tryz.func69,Tryz.ntmps69
 go_wp2_with fail
 refine aa (fun W=>Below w.heap.size w W∧ac W (w.heap.size+1+1)) ⟨by repeat (first|with_reducible exact Below.refl _ _|with_reducible refine Below.alloc ?_ (by first|omega|(simp;done)|(simp;omega)) _),ac.new (by simp)⟩ ?_
 rintro W ⟨B,hR⟩
 have o3:w.heap.size≤w.heap.size+1+1:=by omega
 generalize w.heap.size+1+1=br at *
 with_reducible refine (C.out _).mono ?_
 rintro e w1 ⟨rfl,hb⟩
 replace B:=B.trans (hb.mono B.size)
 replace hR:=hR.keep hb
 have lr:=hR.1.lt (by simp)
 have nr:w1.heap.size≠br:=by omega
 have nr':=nr.symm
 clear hb W
 have gR:=fun o=>(hR.alloc o).1.all4
 have fR:=fun o=>(hR.alloc o).2.all4
 have gR0:=hR.1.all4
 have fR0:=hR.2.all4
 have sz:=B.size
 have BB:Hid (Below w.heap.size w w1):=B
 clear B hR
 go_wp2
 simp [bodyPost,results,Tryz.results69,go_sem, *]
 repeat (first|with_reducible exact BB.out|with_reducible refine Below.setCell ?_ o3 _|with_reducible refine Below.alloc ?_ (by first|omega|(simp;omega)) _)
theorem qQ {x r:Int} (C:Hid (∀ w,Rt 118 #[.int .i64 1,U4 x] w (.tuple #[U4 r,.int .i64 0]))) (w:World) :
  Rt 71 #[U4 x] w (U4 r):=by
 go_enter Tryz.func71,Tryz.ntmps71
 go_wp2_with fail
 refine aa (fun W=>Below w.heap.size w W∧ac W (w.heap.size+1)) ⟨by repeat (first|with_reducible exact Below.refl _ _|with_reducible refine Below.alloc ?_ (by first|omega|(simp;done)|(simp;omega)) _),ac.new (by simp)⟩ ?_
 rintro W ⟨B,hR⟩
 have o3:w.heap.size≤w.heap.size+1:=by omega
 generalize w.heap.size+1=br at *
 with_reducible refine (C.out _).mono ?_
 rintro e w1 ⟨rfl,hb⟩
 replace B:=B.trans (hb.mono B.size)
 replace hR:=hR.keep hb
 have lr:=hR.1.lt (by simp)
 have nr:w1.heap.size≠br:=by omega
 have nr':=nr.symm
 clear hb W
 have gR:=fun o=>(hR.alloc o).1.all4
 have fR:=fun o=>(hR.alloc o).2.all4
 have gR0:=hR.1.all4
 have fR0:=hR.2.all4
 have sz:=B.size
 have BB:Hid (Below w.heap.size w w1):=B
 clear B hR
 go_wp2
 simp [bodyPost,results,Tryz.results71,go_sem, *]
 repeat (first|with_reducible exact BB.out|with_reducible refine Below.setCell ?_ o3 _|with_reducible refine Below.alloc ?_ (by first|omega|(simp;omega)) _)
theorem qR {x y:Int} (hx:Num x) (hy:Num y):Hid (∀ w,Rt 70 #[U4 x,U4 y] w (U4 (ag nN (x+y)))):=fun w=>pD (fun w=>tm (.inr rfl) hx hy w) w
theorem j7 {x y:Int} (hx:Num x) (hy:Num y):Hid (∀ w,Rt 69 #[U4 x,U4 y] w (U4 (ag nN (x*y)))):=fun w=>oH (fun w=>mU (.inr rfl) hx hy w) w
theorem tK {x:Int} (hx:Num x) (hz:ag nN x≠0):Hid (∀ w,Rt 71 #[U4 x] w (U4 (fi nN x))):=fun w=>qQ (fun w=>iN (.inr rfl) hx hz w) w
theorem yd {x:Int} (hx:Num x):Hid (∀ w,Rt 111 #[.int .i64 1,.agg #[.int .u64 0,.int .u64 0,.int .u64 0,.int .u64 0],U4 x] w (.tuple #[U4 (ag nN x),.int .i64 0])):=fun w=>by
 have:=oy (k:=1) (x:=0) (.inr rfl) ⟨by decide,by decide⟩ hx w
 obtain ⟨z0,z1,z2,z3⟩:=aq
 ((try unfold Rt at this);(try unfold U4 at this);(try unfold P9 at this);rw [z0,z1,z2,z3,show aI 0 x=x by unfold aI;omega] at this)
 exact this
theorem ju {A:List Int} (hA:dR A) (hl:A.length=32) (w:World) :
  Rt 65 #[aO A] w (U4 (ag nN (aS A 32))):=by
 have C:Hid (∀ w bb,(∀ i,i<A.length→w.cell? ⟨bb,0+i,none⟩=some (.int .u8 (A.getD i 0)))→Rt 67 #[.slice (some ⟨bb,0,none⟩) 32 32] w (.tuple #[U4 (aS A 32),.int .i64 0])):=fun w bb h=>by
  have:=ng (ob:=0) (cb:=32) hA (by omega) w h
  rw [hl] at this
  exact this
 have hn:Num (aS A 32):=by
  have:=cS hA 32
  exact ⟨this.1,by have:=this.2;simpa using this⟩
 have C2:=yd hn
 generalize ag nN (aS A 32)=r at *
 generalize aS A 32=n at *
 unfold aO
 clear hA hn
 go_enter Tryz.func65,Tryz.ntmps65
 go_wp2_with fail
 refine aa (fun W=>Below w.heap.size w W∧(∀ i,i<A.length→W.cell? ⟨w.heap.size,0+i,none⟩=some (.int .u8 (A.getD i 0)))∧ac W (w.heap.size+1)) ⟨by repeat (first|with_reducible exact Below.refl _ _|with_reducible refine Below.alloc ?_ (by first|omega|(simp;done)|(simp;omega)) _),fun i hi=>cell_keep ((Below.refl _ _).alloc (Nat.le_refl _) _) (lU i hi),ac.new (by simp)⟩ ?_
 rintro W ⟨B,hY,hR⟩
 have o3:w.heap.size≤w.heap.size+1:=by omega
 generalize w.heap.size+1=br at *
 with_reducible refine (C.out _ _ hY).mono ?_
 rintro e w1 ⟨rfl,hb⟩
 replace B:=B.trans (hb.mono B.size)
 replace hR:=hR.keep hb
 clear hb hY W C
 go_wp2_with fail
 refine aa (fun W=>Below w.heap.size w W∧ac W br) ⟨B.alloc B.size _,hR.alloc _⟩ ?_
 clear B hR
 rintro W ⟨B,hR⟩
 with_reducible refine (C2.out _).mono ?_
 rintro e w2 ⟨rfl,hb⟩
 replace B:=B.trans (hb.mono B.size)
 replace hR:=hR.keep hb
 have lr:=hR.1.lt (by simp)
 have nr:w2.heap.size≠br:=by omega
 have nr':=nr.symm
 clear hb W C2
 have gR:=fun o=>(hR.alloc o).1.all4
 have fR:=fun o=>(hR.alloc o).2.all4
 have gR0:=hR.1.all4
 have fR0:=hR.2.all4
 have sz:=B.size
 have BB:Hid (Below w.heap.size w w2):=B
 clear B hR
 go_wp2
 simp [bodyPost,results,Tryz.results65,go_sem, *]
 repeat (first|with_reducible exact BB.out|with_reducible refine Below.setCell ?_ o3 _|with_reducible refine Below.alloc ?_ (by first|omega|(simp;omega)) _)
end Go.Proofs.YtnnnaajgjniiaaaGreatDoor

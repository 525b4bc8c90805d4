import Derived.Test.YtjoandmehahfgaaGreatDoorAdd
import Derived.Test.YtjoandmehahfgaaGreatDoorTail
import Derived.Test.YtjoandmehahfgaaGreatDoorMulNum
import Derived.Test.YtjoandmehahfgaaGreatDoorAb
import Derived.Lib.QuietBelow
import Derived.Deep.RegionHeld
import Derived.LoopN
import Derived.Test.YtjoandmehahfgaaGreatDoorFNum
import Derived.Deep.RegionWith
set_option maxHeartbeats 4000000
namespace Go.Proofs.YtjoandmehahfgaaGreatDoor
open Go.RowKit
theorem tQ {n m:Int} (hn:Num n) (hm:Num m) (w:World) :
  Calls Tryz.prog 126 #[.agg #[.int .u64 (l0 n),.int .u64 (l1 n),.int .u64 (l2 n),.int .u64 (l3 n)],.agg #[.int .u64 (l0 m),.int .u64 (l1 m),.int .u64 (l2 m),.int .u64 (l3 m)]] w fun e w' =>
   e = .returned (.tuple #[.agg #[.int .u64 (l0 (hiN n m)),.int .u64 (l1 (hiN n m)),.int .u64 (l2 (hiN n m)),.int .u64 (l3 (hiN n m))],.agg #[.int .u64 (l0 (loN n m)),.int .u64 (l1 (loN n m)),.int .u64 (l2 (loN n m)),.int .u64 (l3 (loN n m))]])∧Below w.heap.size w w':=by
 have z:aj 0:=⟨by decide,by decide⟩
 have en:=ie hn
 have em:=ie hm
 have hx0:=bW n;have hx1:=bX n;have hx2:=bY n;have hx3:=cf n
 have hy0:=bW m;have hy1:=bX m;have hy2:=bY m;have hy3:=cf m
 generalize l0 n=x0 at *; generalize l1 n=x1 at *; generalize l2 n=x2 at *; generalize l3 n=x3 at *
 generalize l0 m=y0 at *; generalize l1 m=y1 at *; generalize l2 m=y2 at *; generalize l3 m=y3 at *
 have H00:Hid (∀ w,Calls Tryz.prog 134 #[.int .u64 x0,.int .u64 y0,.int .u64 0,.int .u64 0] w fun e w'=>e = .returned (.tuple #[.int .u64 (maH x0 y0 0 0),.int .u64 (maL x0 y0 0 0)])∧w'=w):=aT hx0 hy0 z z
 have e00:=ef x0 y0 0 0
 have wp00:=bM x0 y0 0 0
 have wc00:=bN hx0 hy0 z z
 generalize maL x0 y0 0 0=p00 at *
 generalize maH x0 y0 0 0=c00 at *
 have H01:Hid (∀ w,Calls Tryz.prog 134 #[.int .u64 x0,.int .u64 y1,.int .u64 0,.int .u64 c00] w fun e w'=>e = .returned (.tuple #[.int .u64 (maH x0 y1 0 c00),.int .u64 (maL x0 y1 0 c00)])∧w'=w):=aT hx0 hy1 z wc00
 have e01:=ef x0 y1 0 c00
 have wp01:=bM x0 y1 0 c00
 have wc01:=bN hx0 hy1 z wc00
 generalize maL x0 y1 0 c00=p01 at *
 generalize maH x0 y1 0 c00=c01 at *
 have H02:Hid (∀ w,Calls Tryz.prog 134 #[.int .u64 x0,.int .u64 y2,.int .u64 0,.int .u64 c01] w fun e w'=>e = .returned (.tuple #[.int .u64 (maH x0 y2 0 c01),.int .u64 (maL x0 y2 0 c01)])∧w'=w):=aT hx0 hy2 z wc01
 have e02:=ef x0 y2 0 c01
 have wp02:=bM x0 y2 0 c01
 have wc02:=bN hx0 hy2 z wc01
 generalize maL x0 y2 0 c01=p02 at *
 generalize maH x0 y2 0 c01=c02 at *
 have H03:Hid (∀ w,Calls Tryz.prog 134 #[.int .u64 x0,.int .u64 y3,.int .u64 0,.int .u64 c02] w fun e w'=>e = .returned (.tuple #[.int .u64 (maH x0 y3 0 c02),.int .u64 (maL x0 y3 0 c02)])∧w'=w):=aT hx0 hy3 z wc02
 have e03:=ef x0 y3 0 c02
 have wp03:=bM x0 y3 0 c02
 have wc03:=bN hx0 hy3 z wc02
 generalize maL x0 y3 0 c02=p03 at *
 generalize maH x0 y3 0 c02=c03 at *
 have H10:Hid (∀ w,Calls Tryz.prog 134 #[.int .u64 x1,.int .u64 y0,.int .u64 p01,.int .u64 0] w fun e w'=>e = .returned (.tuple #[.int .u64 (maH x1 y0 p01 0),.int .u64 (maL x1 y0 p01 0)])∧w'=w):=aT hx1 hy0 wp01 z
 have e10:=ef x1 y0 p01 0
 have wp10:=bM x1 y0 p01 0
 have wc10:=bN hx1 hy0 wp01 z
 generalize maL x1 y0 p01 0=p10 at *
 generalize maH x1 y0 p01 0=c10 at *
 have H11:Hid (∀ w,Calls Tryz.prog 134 #[.int .u64 x1,.int .u64 y1,.int .u64 p02,.int .u64 c10] w fun e w'=>e = .returned (.tuple #[.int .u64 (maH x1 y1 p02 c10),.int .u64 (maL x1 y1 p02 c10)])∧w'=w):=aT hx1 hy1 wp02 wc10
 have e11:=ef x1 y1 p02 c10
 have wp11:=bM x1 y1 p02 c10
 have wc11:=bN hx1 hy1 wp02 wc10
 generalize maL x1 y1 p02 c10=p11 at *
 generalize maH x1 y1 p02 c10=c11 at *
 have H12:Hid (∀ w,Calls Tryz.prog 134 #[.int .u64 x1,.int .u64 y2,.int .u64 p03,.int .u64 c11] w fun e w'=>e = .returned (.tuple #[.int .u64 (maH x1 y2 p03 c11),.int .u64 (maL x1 y2 p03 c11)])∧w'=w):=aT hx1 hy2 wp03 wc11
 have e12:=ef x1 y2 p03 c11
 have wp12:=bM x1 y2 p03 c11
 have wc12:=bN hx1 hy2 wp03 wc11
 generalize maL x1 y2 p03 c11=p12 at *
 generalize maH x1 y2 p03 c11=c12 at *
 have H13:Hid (∀ w,Calls Tryz.prog 134 #[.int .u64 x1,.int .u64 y3,.int .u64 c03,.int .u64 c12] w fun e w'=>e = .returned (.tuple #[.int .u64 (maH x1 y3 c03 c12),.int .u64 (maL x1 y3 c03 c12)])∧w'=w):=aT hx1 hy3 wc03 wc12
 have e13:=ef x1 y3 c03 c12
 have wp13:=bM x1 y3 c03 c12
 have wc13:=bN hx1 hy3 wc03 wc12
 generalize maL x1 y3 c03 c12=p13 at *
 generalize maH x1 y3 c03 c12=c13 at *
 have H20:Hid (∀ w,Calls Tryz.prog 134 #[.int .u64 x2,.int .u64 y0,.int .u64 p11,.int .u64 0] w fun e w'=>e = .returned (.tuple #[.int .u64 (maH x2 y0 p11 0),.int .u64 (maL x2 y0 p11 0)])∧w'=w):=aT hx2 hy0 wp11 z
 have e20:=ef x2 y0 p11 0
 have wp20:=bM x2 y0 p11 0
 have wc20:=bN hx2 hy0 wp11 z
 generalize maL x2 y0 p11 0=p20 at *
 generalize maH x2 y0 p11 0=c20 at *
 have H21:Hid (∀ w,Calls Tryz.prog 134 #[.int .u64 x2,.int .u64 y1,.int .u64 p12,.int .u64 c20] w fun e w'=>e = .returned (.tuple #[.int .u64 (maH x2 y1 p12 c20),.int .u64 (maL x2 y1 p12 c20)])∧w'=w):=aT hx2 hy1 wp12 wc20
 have e21:=ef x2 y1 p12 c20
 have wp21:=bM x2 y1 p12 c20
 have wc21:=bN hx2 hy1 wp12 wc20
 generalize maL x2 y1 p12 c20=p21 at *
 generalize maH x2 y1 p12 c20=c21 at *
 have H22:Hid (∀ w,Calls Tryz.prog 134 #[.int .u64 x2,.int .u64 y2,.int .u64 p13,.int .u64 c21] w fun e w'=>e = .returned (.tuple #[.int .u64 (maH x2 y2 p13 c21),.int .u64 (maL x2 y2 p13 c21)])∧w'=w):=aT hx2 hy2 wp13 wc21
 have e22:=ef x2 y2 p13 c21
 have wp22:=bM x2 y2 p13 c21
 have wc22:=bN hx2 hy2 wp13 wc21
 generalize maL x2 y2 p13 c21=p22 at *
 generalize maH x2 y2 p13 c21=c22 at *
 have H23:Hid (∀ w,Calls Tryz.prog 134 #[.int .u64 x2,.int .u64 y3,.int .u64 c13,.int .u64 c22] w fun e w'=>e = .returned (.tuple #[.int .u64 (maH x2 y3 c13 c22),.int .u64 (maL x2 y3 c13 c22)])∧w'=w):=aT hx2 hy3 wc13 wc22
 have e23:=ef x2 y3 c13 c22
 have wp23:=bM x2 y3 c13 c22
 have wc23:=bN hx2 hy3 wc13 wc22
 generalize maL x2 y3 c13 c22=p23 at *
 generalize maH x2 y3 c13 c22=c23 at *
 have H30:Hid (∀ w,Calls Tryz.prog 134 #[.int .u64 x3,.int .u64 y0,.int .u64 p21,.int .u64 0] w fun e w'=>e = .returned (.tuple #[.int .u64 (maH x3 y0 p21 0),.int .u64 (maL x3 y0 p21 0)])∧w'=w):=aT hx3 hy0 wp21 z
 have e30:=ef x3 y0 p21 0
 have wp30:=bM x3 y0 p21 0
 have wc30:=bN hx3 hy0 wp21 z
 generalize maL x3 y0 p21 0=p30 at *
 generalize maH x3 y0 p21 0=c30 at *
 have H31:Hid (∀ w,Calls Tryz.prog 134 #[.int .u64 x3,.int .u64 y1,.int .u64 p22,.int .u64 c30] w fun e w'=>e = .returned (.tuple #[.int .u64 (maH x3 y1 p22 c30),.int .u64 (maL x3 y1 p22 c30)])∧w'=w):=aT hx3 hy1 wp22 wc30
 have e31:=ef x3 y1 p22 c30
 have wp31:=bM x3 y1 p22 c30
 have wc31:=bN hx3 hy1 wp22 wc30
 generalize maL x3 y1 p22 c30=p31 at *
 generalize maH x3 y1 p22 c30=c31 at *
 have H32:Hid (∀ w,Calls Tryz.prog 134 #[.int .u64 x3,.int .u64 y2,.int .u64 p23,.int .u64 c31] w fun e w'=>e = .returned (.tuple #[.int .u64 (maH x3 y2 p23 c31),.int .u64 (maL x3 y2 p23 c31)])∧w'=w):=aT hx3 hy2 wp23 wc31
 have e32:=ef x3 y2 p23 c31
 have wp32:=bM x3 y2 p23 c31
 have wc32:=bN hx3 hy2 wp23 wc31
 generalize maL x3 y2 p23 c31=p32 at *
 generalize maH x3 y2 p23 c31=c32 at *
 have H33:Hid (∀ w,Calls Tryz.prog 134 #[.int .u64 x3,.int .u64 y3,.int .u64 c23,.int .u64 c32] w fun e w'=>e = .returned (.tuple #[.int .u64 (maH x3 y3 c23 c32),.int .u64 (maL x3 y3 c23 c32)])∧w'=w):=aT hx3 hy3 wc23 wc32
 have e33:=ef x3 y3 c23 c32
 have wp33:=bM x3 y3 c23 c32
 have wc33:=bN hx3 hy3 wc23 wc32
 generalize maL x3 y3 c23 c32=p33 at *
 generalize maH x3 y3 c23 c32=c33 at *
 have E:=wT (mz e00 e01 e02 e03) (mz e10 e11 e12 e13) (mz e20 e21 e22 e23) (mz e30 e31 e32 e33)
 rw [en,em] at E
 obtain ⟨eh,el⟩:=BX (jM wp00 wp10 wp20 wp30) E
 obtain ⟨h0,h1,h2,h3⟩:=bZ wp31 wp32 wp33 wc33 eh
 obtain ⟨k0,k1,k2,k3⟩:=bZ wp00 wp10 wp20 wp30 el
 rw [h0,h1,h2,h3,k0,k1,k2,k3]
 clear E eh el h0 h1 h2 h3 k0 k1 k2 k3 en em hn hm z hx0 hx1 hx2 hx3 hy0 hy1 hy2 hy3
 clear e00 wp00 wc00 e01 wp01 wc01 e02 wp02 wc02 e03 wp03 wc03 e10 wp10 wc10 e11 wp11 wc11 e12 wp12 wc12 e13 wp13 wc13 e20 wp20 wc20 e21 wp21 wc21 e22 wp22 wc22 e23 wp23 wc23 e30 wp30 wc30 e31 wp31 wc31 e32 wp32 wc32 e33 wp33 wc33
 go_enter Tryz.func126,Tryz.ntmps126
 go_wp2
 refine wp_loop_rounds 5 ?_
 rw [rounds_succ];go_wp2
 refine wp_loop_rounds 5 ?_
 rw [rounds_succ];go_wp2
 refine aB 21 (by kernel_rfl) (by kernel_rfl) ?_
 simp only [List.take_succ_cons,List.take_zero,List.drop_succ_cons,List.drop_zero]
 repeat (first|go_big_quiet_skip|(go_big_quiet_want;go_big_quiet_op;first|go_big_quiet_on|(refine ⟨_,H00.out _,?_⟩;go_big_quiet_on)))
 refine wpQuiet_nil ?_
 go_wp2
 rw [rounds_succ];go_wp2
 refine aB 21 (by kernel_rfl) (by kernel_rfl) ?_
 simp only [List.take_succ_cons,List.take_zero,List.drop_succ_cons,List.drop_zero]
 repeat (first|go_big_quiet_skip|(go_big_quiet_want;go_big_quiet_op;first|go_big_quiet_on|(refine ⟨_,H01.out _,?_⟩;go_big_quiet_on)))
 refine wpQuiet_nil ?_
 go_wp2
 rw [rounds_succ];go_wp2
 refine aB 21 (by kernel_rfl) (by kernel_rfl) ?_
 simp only [List.take_succ_cons,List.take_zero,List.drop_succ_cons,List.drop_zero]
 repeat (first|go_big_quiet_skip|(go_big_quiet_want;go_big_quiet_op;first|go_big_quiet_on|(refine ⟨_,H02.out _,?_⟩;go_big_quiet_on)))
 refine wpQuiet_nil ?_
 go_wp2
 rw [rounds_succ];go_wp2
 refine aB 21 (by kernel_rfl) (by kernel_rfl) ?_
 simp only [List.take_succ_cons,List.take_zero,List.drop_succ_cons,List.drop_zero]
 repeat (first|go_big_quiet_skip|(go_big_quiet_want;go_big_quiet_op;first|go_big_quiet_on|(refine ⟨_,H03.out _,?_⟩;go_big_quiet_on)))
 refine wpQuiet_nil ?_
 go_wp2
 rw [rounds_succ];go_wp2
 rw [rounds_succ];go_wp2
 refine wp_loop_rounds 5 ?_
 rw [rounds_succ];go_wp2
 refine aB 21 (by kernel_rfl) (by kernel_rfl) ?_
 simp only [List.take_succ_cons,List.take_zero,List.drop_succ_cons,List.drop_zero]
 repeat (first|go_big_quiet_skip|(go_big_quiet_want;go_big_quiet_op;first|go_big_quiet_on|(refine ⟨_,H10.out _,?_⟩;go_big_quiet_on)))
 refine wpQuiet_nil ?_
 go_wp2
 rw [rounds_succ];go_wp2
 refine aB 21 (by kernel_rfl) (by kernel_rfl) ?_
 simp only [List.take_succ_cons,List.take_zero,List.drop_succ_cons,List.drop_zero]
 repeat (first|go_big_quiet_skip|(go_big_quiet_want;go_big_quiet_op;first|go_big_quiet_on|(refine ⟨_,H11.out _,?_⟩;go_big_quiet_on)))
 refine wpQuiet_nil ?_
 go_wp2
 rw [rounds_succ];go_wp2
 refine aB 21 (by kernel_rfl) (by kernel_rfl) ?_
 simp only [List.take_succ_cons,List.take_zero,List.drop_succ_cons,List.drop_zero]
 repeat (first|go_big_quiet_skip|(go_big_quiet_want;go_big_quiet_op;first|go_big_quiet_on|(refine ⟨_,H12.out _,?_⟩;go_big_quiet_on)))
 refine wpQuiet_nil ?_
 go_wp2
 rw [rounds_succ];go_wp2
 refine aB 21 (by kernel_rfl) (by kernel_rfl) ?_
 simp only [List.take_succ_cons,List.take_zero,List.drop_succ_cons,List.drop_zero]
 repeat (first|go_big_quiet_skip|(go_big_quiet_want;go_big_quiet_op;first|go_big_quiet_on|(refine ⟨_,H13.out _,?_⟩;go_big_quiet_on)))
 refine wpQuiet_nil ?_
 go_wp2
 rw [rounds_succ];go_wp2
 rw [rounds_succ];go_wp2
 refine wp_loop_rounds 5 ?_
 rw [rounds_succ];go_wp2
 refine aB 21 (by kernel_rfl) (by kernel_rfl) ?_
 simp only [List.take_succ_cons,List.take_zero,List.drop_succ_cons,List.drop_zero]
 repeat (first|go_big_quiet_skip|(go_big_quiet_want;go_big_quiet_op;first|go_big_quiet_on|(refine ⟨_,H20.out _,?_⟩;go_big_quiet_on)))
 refine wpQuiet_nil ?_
 go_wp2
 rw [rounds_succ];go_wp2
 refine aB 21 (by kernel_rfl) (by kernel_rfl) ?_
 simp only [List.take_succ_cons,List.take_zero,List.drop_succ_cons,List.drop_zero]
 repeat (first|go_big_quiet_skip|(go_big_quiet_want;go_big_quiet_op;first|go_big_quiet_on|(refine ⟨_,H21.out _,?_⟩;go_big_quiet_on)))
 refine wpQuiet_nil ?_
 go_wp2
 rw [rounds_succ];go_wp2
 refine aB 21 (by kernel_rfl) (by kernel_rfl) ?_
 simp only [List.take_succ_cons,List.take_zero,List.drop_succ_cons,List.drop_zero]
 repeat (first|go_big_quiet_skip|(go_big_quiet_want;go_big_quiet_op;first|go_big_quiet_on|(refine ⟨_,H22.out _,?_⟩;go_big_quiet_on)))
 refine wpQuiet_nil ?_
 go_wp2
 rw [rounds_succ];go_wp2
 refine aB 21 (by kernel_rfl) (by kernel_rfl) ?_
 simp only [List.take_succ_cons,List.take_zero,List.drop_succ_cons,List.drop_zero]
 repeat (first|go_big_quiet_skip|(go_big_quiet_want;go_big_quiet_op;first|go_big_quiet_on|(refine ⟨_,H23.out _,?_⟩;go_big_quiet_on)))
 refine wpQuiet_nil ?_
 go_wp2
 rw [rounds_succ];go_wp2
 rw [rounds_succ];go_wp2
 refine wp_loop_rounds 5 ?_
 rw [rounds_succ];go_wp2
 refine aB 21 (by kernel_rfl) (by kernel_rfl) ?_
 simp only [List.take_succ_cons,List.take_zero,List.drop_succ_cons,List.drop_zero]
 repeat (first|go_big_quiet_skip|(go_big_quiet_want;go_big_quiet_op;first|go_big_quiet_on|(refine ⟨_,H30.out _,?_⟩;go_big_quiet_on)))
 refine wpQuiet_nil ?_
 go_wp2
 rw [rounds_succ];go_wp2
 refine aB 21 (by kernel_rfl) (by kernel_rfl) ?_
 simp only [List.take_succ_cons,List.take_zero,List.drop_succ_cons,List.drop_zero]
 repeat (first|go_big_quiet_skip|(go_big_quiet_want;go_big_quiet_op;first|go_big_quiet_on|(refine ⟨_,H31.out _,?_⟩;go_big_quiet_on)))
 refine wpQuiet_nil ?_
 go_wp2
 rw [rounds_succ];go_wp2
 refine aB 21 (by kernel_rfl) (by kernel_rfl) ?_
 simp only [List.take_succ_cons,List.take_zero,List.drop_succ_cons,List.drop_zero]
 repeat (first|go_big_quiet_skip|(go_big_quiet_want;go_big_quiet_op;first|go_big_quiet_on|(refine ⟨_,H32.out _,?_⟩;go_big_quiet_on)))
 refine wpQuiet_nil ?_
 go_wp2
 rw [rounds_succ];go_wp2
 refine aB 21 (by kernel_rfl) (by kernel_rfl) ?_
 simp only [List.take_succ_cons,List.take_zero,List.drop_succ_cons,List.drop_zero]
 repeat (first|go_big_quiet_skip|(go_big_quiet_want;go_big_quiet_op;first|go_big_quiet_on|(refine ⟨_,H33.out _,?_⟩;go_big_quiet_on)))
 refine wpQuiet_nil ?_
 go_wp2
 rw [rounds_succ];go_wp2
 rw [rounds_succ]
 go_wp2_with (go_at_call 135;refine (uJ _ _ _ _ _ _ _ _ _).mono ?_;rintro e w' ⟨rfl,hw⟩;have hc:=al hw)
 have hz:=hw.size
 simp at hz
 simp [bodyPost,results,Tryz.results126,go_sem,hc]
 clear hc
 repeat (first|with_reducible exact Below.refl _ _|with_reducible refine Below.drew ?_|with_reducible refine Below.setCell ?_ (by first|omega|(simp;done)|(simp;omega)) _|with_reducible refine Below.alloc ?_ (by first|omega|(simp;done)|(simp;omega)) _|with_reducible refine Below.trans ?_ (Below.mono hw (by first|omega|(simp;done)|(simp;omega))))
open Go.RowKit
theorem D5 {x0 x1 x2 x3 n s:Int} (hx0:aj x0) (hx1:aj x1) (hx2:aj x2) (hx3:aj x3) (_n0:0≤n) (_n1:n≤255) (s0:0≤s) (s1:s≤63) (hq:n/64=0) (hr:n%64=s) (w:World) :
  Rt 103 #[.agg #[.int .u64 x0,.int .u64 x1,.int .u64 x2,.int .u64 x3],.int .i64 n] w (.agg #[.int .u64 (IntKind.u64.wrap (x0*2 ^ s.toNat)),.int .u64 (bits .or .u64 (IntKind.u64.wrap (x1*2 ^ s.toNat)) (x0/2 ^ (64-s).toNat)),.int .u64 (bits .or .u64 (IntKind.u64.wrap (x2*2 ^ s.toNat)) (x1/2 ^ (64-s).toNat)),.int .u64 (bits .or .u64 (IntKind.u64.wrap (x3*2 ^ s.toNat)) (x2/2 ^ (64-s).toNat))]):=by
 obtain ⟨_,_⟩:=hx0;obtain ⟨_,_⟩:=hx1;obtain ⟨_,_⟩:=hx2;obtain ⟨_,_⟩:=hx3
 go_enter Tryz.func103,Tryz.ntmps103
 go_wp2
 refine wp_loop_rounds 5 ?_
 rw [rounds_succ];go_wp2
 rw [rounds_succ];go_wp2;go_region;go_wp2
 rw [rounds_succ];go_wp2;go_region;go_wp2
 rw [rounds_succ];go_wp2;go_region;go_wp2
 rw [rounds_succ];go_wp2
 simp [bodyPost,results,Tryz.results103,go_sem]
 repeat (first|with_reducible exact Below.refl _ _|with_reducible refine Below.drew ?_|with_reducible refine Below.alloc ?_ (by first|omega|(simp;done)|(simp;omega)) _)
theorem D6 {x0 x1 x2 x3 n s:Int} (hx0:aj x0) (hx1:aj x1) (hx2:aj x2) (hx3:aj x3) (_n0:0≤n) (_n1:n≤255) (s0:0≤s) (s1:s≤63) (hq:n/64=1) (hr:n%64=s) (w:World) :
  Rt 103 #[.agg #[.int .u64 x0,.int .u64 x1,.int .u64 x2,.int .u64 x3],.int .i64 n] w (.agg #[.int .u64 0,.int .u64 (IntKind.u64.wrap (x0*2 ^ s.toNat)),.int .u64 (bits .or .u64 (IntKind.u64.wrap (x1*2 ^ s.toNat)) (x0/2 ^ (64-s).toNat)),.int .u64 (bits .or .u64 (IntKind.u64.wrap (x2*2 ^ s.toNat)) (x1/2 ^ (64-s).toNat))]):=by
 obtain ⟨_,_⟩:=hx0;obtain ⟨_,_⟩:=hx1;obtain ⟨_,_⟩:=hx2;obtain ⟨_,_⟩:=hx3
 go_enter Tryz.func103,Tryz.ntmps103
 go_wp2
 refine wp_loop_rounds 5 ?_
 rw [rounds_succ];go_wp2
 rw [rounds_succ];go_wp2;go_region;go_wp2
 rw [rounds_succ];go_wp2;go_region;go_wp2
 rw [rounds_succ];go_wp2
 simp [bodyPost,results,Tryz.results103,go_sem]
 repeat (first|with_reducible exact Below.refl _ _|with_reducible refine Below.drew ?_|with_reducible refine Below.alloc ?_ (by first|omega|(simp;done)|(simp;omega)) _)
theorem D7 {x0 x1 x2 x3 n s:Int} (hx0:aj x0) (hx1:aj x1) (hx2:aj x2) (hx3:aj x3) (_n0:0≤n) (_n1:n≤255) (s0:0≤s) (s1:s≤63) (hq:n/64=2) (hr:n%64=s) (w:World) :
  Rt 103 #[.agg #[.int .u64 x0,.int .u64 x1,.int .u64 x2,.int .u64 x3],.int .i64 n] w (.agg #[.int .u64 0,.int .u64 0,.int .u64 (IntKind.u64.wrap (x0*2 ^ s.toNat)),.int .u64 (bits .or .u64 (IntKind.u64.wrap (x1*2 ^ s.toNat)) (x0/2 ^ (64-s).toNat))]):=by
 obtain ⟨_,_⟩:=hx0;obtain ⟨_,_⟩:=hx1;obtain ⟨_,_⟩:=hx2;obtain ⟨_,_⟩:=hx3
 go_enter Tryz.func103,Tryz.ntmps103
 go_wp2
 refine wp_loop_rounds 5 ?_
 rw [rounds_succ];go_wp2
 rw [rounds_succ];go_wp2;go_region;go_wp2
 rw [rounds_succ];go_wp2
 simp [bodyPost,results,Tryz.results103,go_sem]
 repeat (first|with_reducible exact Below.refl _ _|with_reducible refine Below.drew ?_|with_reducible refine Below.alloc ?_ (by first|omega|(simp;done)|(simp;omega)) _)
theorem D8 {x0 x1 x2 x3 n s:Int} (hx0:aj x0) (hx1:aj x1) (hx2:aj x2) (hx3:aj x3) (_n0:0≤n) (_n1:n≤255) (s0:0≤s) (s1:s≤63) (hq:n/64=3) (hr:n%64=s) (w:World) :
  Rt 103 #[.agg #[.int .u64 x0,.int .u64 x1,.int .u64 x2,.int .u64 x3],.int .i64 n] w (.agg #[.int .u64 0,.int .u64 0,.int .u64 0,.int .u64 (IntKind.u64.wrap (x0*2 ^ s.toNat))]):=by
 obtain ⟨_,_⟩:=hx0;obtain ⟨_,_⟩:=hx1;obtain ⟨_,_⟩:=hx2;obtain ⟨_,_⟩:=hx3
 go_enter Tryz.func103,Tryz.ntmps103
 go_wp2
 refine wp_loop_rounds 5 ?_
 rw [rounds_succ];go_wp2
 rw [rounds_succ];go_wp2
 simp [bodyPost,results,Tryz.results103,go_sem]
 repeat (first|with_reducible exact Below.refl _ _|with_reducible refine Below.drew ?_|with_reducible refine Below.alloc ?_ (by first|omega|(simp;done)|(simp;omega)) _)
theorem Ca {x0 x1 x2 x3 n s:Int} (hx0:aj x0) (hx1:aj x1) (hx2:aj x2) (hx3:aj x3) (_n0:0≤n) (_n1:n≤255) (s0:0≤s) (s1:s≤63) (hq:n/64=0) (hr:n%64=s) (w:World) :
  Rt 104 #[.agg #[.int .u64 x0,.int .u64 x1,.int .u64 x2,.int .u64 x3],.int .i64 n] w (.agg #[.int .u64 (bits .or .u64 (x0/2 ^ s.toNat) (IntKind.u64.wrap (x1*2 ^ (64-s).toNat))),.int .u64 (bits .or .u64 (x1/2 ^ s.toNat) (IntKind.u64.wrap (x2*2 ^ (64-s).toNat))),.int .u64 (bits .or .u64 (x2/2 ^ s.toNat) (IntKind.u64.wrap (x3*2 ^ (64-s).toNat))),.int .u64 (x3/2 ^ s.toNat)]):=by
 obtain ⟨_,_⟩:=hx0;obtain ⟨_,_⟩:=hx1;obtain ⟨_,_⟩:=hx2;obtain ⟨_,_⟩:=hx3
 go_enter Tryz.func104,Tryz.ntmps104
 go_wp2
 refine wp_loop_rounds 5 ?_
 rw [rounds_succ];go_wp2
 rw [rounds_succ];go_wp2;go_region;go_wp2
 rw [rounds_succ];go_wp2;go_region;go_wp2
 rw [rounds_succ];go_wp2;go_region;go_wp2
 rw [rounds_succ];go_wp2
 simp [bodyPost,results,Tryz.results104,go_sem]
 repeat (first|with_reducible exact Below.refl _ _|with_reducible refine Below.drew ?_|with_reducible refine Below.alloc ?_ (by first|omega|(simp;done)|(simp;omega)) _)
theorem Cb {x0 x1 x2 x3 n s:Int} (hx0:aj x0) (hx1:aj x1) (hx2:aj x2) (hx3:aj x3) (_n0:0≤n) (_n1:n≤255) (s0:0≤s) (s1:s≤63) (hq:n/64=1) (hr:n%64=s) (w:World) :
  Rt 104 #[.agg #[.int .u64 x0,.int .u64 x1,.int .u64 x2,.int .u64 x3],.int .i64 n] w (.agg #[.int .u64 (bits .or .u64 (x1/2 ^ s.toNat) (IntKind.u64.wrap (x2*2 ^ (64-s).toNat))),.int .u64 (bits .or .u64 (x2/2 ^ s.toNat) (IntKind.u64.wrap (x3*2 ^ (64-s).toNat))),.int .u64 (x3/2 ^ s.toNat),.int .u64 0]):=by
 obtain ⟨_,_⟩:=hx0;obtain ⟨_,_⟩:=hx1;obtain ⟨_,_⟩:=hx2;obtain ⟨_,_⟩:=hx3
 go_enter Tryz.func104,Tryz.ntmps104
 go_wp2
 refine wp_loop_rounds 5 ?_
 rw [rounds_succ];go_wp2
 rw [rounds_succ];go_wp2;go_region;go_wp2
 rw [rounds_succ];go_wp2;go_region;go_wp2
 rw [rounds_succ];go_wp2
 simp [bodyPost,results,Tryz.results104,go_sem]
 repeat (first|with_reducible exact Below.refl _ _|with_reducible refine Below.drew ?_|with_reducible refine Below.alloc ?_ (by first|omega|(simp;done)|(simp;omega)) _)
theorem Cc {x0 x1 x2 x3 n s:Int} (hx0:aj x0) (hx1:aj x1) (hx2:aj x2) (hx3:aj x3) (_n0:0≤n) (_n1:n≤255) (s0:0≤s) (s1:s≤63) (hq:n/64=2) (hr:n%64=s) (w:World) :
  Rt 104 #[.agg #[.int .u64 x0,.int .u64 x1,.int .u64 x2,.int .u64 x3],.int .i64 n] w (.agg #[.int .u64 (bits .or .u64 (x2/2 ^ s.toNat) (IntKind.u64.wrap (x3*2 ^ (64-s).toNat))),.int .u64 (x3/2 ^ s.toNat),.int .u64 0,.int .u64 0]):=by
 obtain ⟨_,_⟩:=hx0;obtain ⟨_,_⟩:=hx1;obtain ⟨_,_⟩:=hx2;obtain ⟨_,_⟩:=hx3
 go_enter Tryz.func104,Tryz.ntmps104
 go_wp2
 refine wp_loop_rounds 5 ?_
 rw [rounds_succ];go_wp2
 rw [rounds_succ];go_wp2;go_region;go_wp2
 rw [rounds_succ];go_wp2
 simp [bodyPost,results,Tryz.results104,go_sem]
 repeat (first|with_reducible exact Below.refl _ _|with_reducible refine Below.drew ?_|with_reducible refine Below.alloc ?_ (by first|omega|(simp;done)|(simp;omega)) _)
theorem Cd {x0 x1 x2 x3 n s:Int} (hx0:aj x0) (hx1:aj x1) (hx2:aj x2) (hx3:aj x3) (_n0:0≤n) (_n1:n≤255) (s0:0≤s) (s1:s≤63) (hq:n/64=3) (hr:n%64=s) (w:World) :
  Rt 104 #[.agg #[.int .u64 x0,.int .u64 x1,.int .u64 x2,.int .u64 x3],.int .i64 n] w (.agg #[.int .u64 (x3/2 ^ s.toNat),.int .u64 0,.int .u64 0,.int .u64 0]):=by
 obtain ⟨_,_⟩:=hx0;obtain ⟨_,_⟩:=hx1;obtain ⟨_,_⟩:=hx2;obtain ⟨_,_⟩:=hx3
 go_enter Tryz.func104,Tryz.ntmps104
 go_wp2
 refine wp_loop_rounds 5 ?_
 rw [rounds_succ];go_wp2
 rw [rounds_succ];go_wp2
 simp [bodyPost,results,Tryz.results104,go_sem]
 repeat (first|with_reducible exact Below.refl _ _|with_reducible refine Below.drew ?_|with_reducible refine Below.alloc ?_ (by first|omega|(simp;done)|(simp;omega)) _)
open Go.RowKit
theorem bU {n s:Int} (q:Nat) (hs:0≤s) (h:n=64*q+s):(2:Int) ^ n.toNat=2 ^ (64*q)*2 ^ s.toNat:=by
 rw [←Int.pow_add];congr 1;omega
theorem iX {x s:Int} (hx:aj x) (s0:0≤s) (s1:s≤63):bits .or .u64 (x/2 ^ s.toNat) (IntKind.u64.wrap (0*2 ^ (64-s).toNat))=x/2 ^ s.toNat:=by
 rw [mA hx ⟨by decide,by decide⟩ s0 s1,Int.zero_mul,IntKind.wrap_u64]
 omega
theorem Ce {n k:Int} (hn:Num n) (k0:0≤k) (k1:k≤255) (w:World) :
  Calls Tryz.prog 103 #[.agg #[.int .u64 (l0 n),.int .u64 (l1 n),.int .u64 (l2 n),.int .u64 (l3 n)],.int .i64 k] w fun e w'=>e = .returned (.agg #[.int .u64 (l0 (upN n k)),.int .u64 (l1 (upN n k)),.int .u64 (l2 (upN n k)),.int .u64 (l3 (upN n k))])∧Below w.heap.size w w':=by
 have hx0:=bW n;have hx1:=bX n;have hx2:=bY n;have hx3:=cf n
 have en:=ie hn
 have s0:0≤k%64:=by omega
 have s1:k%64≤63:=by omega
 obtain ⟨t0,t1,t2,t3,t4,w0,w1,w2,w3,w4,E,f0,f1,f2,f3,f4⟩:=zJ hx0 hx1 hx2 hx3 s0 s1
 rcases (show k/64=0∨k/64=1∨k/64=2∨k/64=3 by omega) with hq|hq|hq|hq
 ·have hk:=bU 0 s0 (show k=64*(0:Nat)+k%64 by omega)
  have U:upN n k=num t0 t1 t2 t3:=by
   unfold upN
   rw [hk,show (2:Int) ^ (64*0)=1 by decide,Int.mul_comm 1,←Int.mul_assoc,←en,E]
   unfold num aj at *
   omega
  obtain ⟨r0,r1,r2,r3⟩:=bZ w0 w1 w2 w3 U
  rw [r0,r1,r2,r3]
  rw [←f0,←f1,←f2,←f3]
  exact D5 hx0 hx1 hx2 hx3 k0 k1 s0 s1 hq rfl w
 ·have hk:=bU 1 s0 (show k=64*(1:Nat)+k%64 by omega)
  have U:upN n k=num 0 t0 t1 t2:=by
   unfold upN
   rw [hk,show (2:Int) ^ (64*1)=18446744073709551616 by decide,Int.mul_comm 18446744073709551616,←Int.mul_assoc,←en,E]
   unfold num aj at *
   omega
  obtain ⟨r0,r1,r2,r3⟩:=bZ ⟨by decide,by decide⟩ w0 w1 w2 U
  rw [r0,r1,r2,r3]
  rw [←f0,←f1,←f2]
  exact D6 hx0 hx1 hx2 hx3 k0 k1 s0 s1 hq rfl w
 ·have hk:=bU 2 s0 (show k=64*(2:Nat)+k%64 by omega)
  have U:upN n k=num 0 0 t0 t1:=by
   unfold upN
   rw [hk,show (2:Int) ^ (64*2)=340282366920938463463374607431768211456 by decide,Int.mul_comm 340282366920938463463374607431768211456,←Int.mul_assoc,←en,E]
   unfold num aj at *
   omega
  obtain ⟨r0,r1,r2,r3⟩:=bZ ⟨by decide,by decide⟩ ⟨by decide,by decide⟩ w0 w1 U
  rw [r0,r1,r2,r3]
  rw [←f0,←f1]
  exact D7 hx0 hx1 hx2 hx3 k0 k1 s0 s1 hq rfl w
 ·have hk:=bU 3 s0 (show k=64*(3:Nat)+k%64 by omega)
  have U:upN n k=num 0 0 0 t0:=by
   unfold upN
   rw [hk,show (2:Int) ^ (64*3)=6277101735386680763835789423207666416102355444464034512896 by decide,Int.mul_comm 6277101735386680763835789423207666416102355444464034512896,←Int.mul_assoc,←en,E]
   unfold num aj at *
   omega
  obtain ⟨r0,r1,r2,r3⟩:=bZ ⟨by decide,by decide⟩ ⟨by decide,by decide⟩ ⟨by decide,by decide⟩ w0 U
  rw [r0,r1,r2,r3]
  rw [←f0]
  exact D8 hx0 hx1 hx2 hx3 k0 k1 s0 s1 hq rfl w
theorem xa {n k:Int} (hn:Num n) (k0:0≤k) (k1:k≤255) (w:World) :
  Calls Tryz.prog 104 #[.agg #[.int .u64 (l0 n),.int .u64 (l1 n),.int .u64 (l2 n),.int .u64 (l3 n)],.int .i64 k] w fun e w'=>e = .returned (.agg #[.int .u64 (l0 (fo n k)),.int .u64 (l1 (fo n k)),.int .u64 (l2 (fo n k)),.int .u64 (l3 (fo n k))])∧Below w.heap.size w w':=by
 have hx0:=bW n;have hx1:=bX n;have hx2:=bY n;have hx3:=cf n
 have en:=ie hn
 have s0:0≤k%64:=by omega
 have s1:k%64≤63:=by omega
 have z:aj 0:=⟨by decide,by decide⟩
 rcases (show k/64=0∨k/64=1∨k/64=2∨k/64=3 by omega) with hq|hq|hq|hq
 ·have hk:=bU 0 s0 (show k=64*(0:Nat)+k%64 by omega)
  obtain ⟨t0,t1,t2,t3,w0,w1,w2,w3,E,f0,f1,f2,f3⟩:=iW hx0 hx1 hx2 hx3 s0 s1
  have U:fo n k=num t0 t1 t2 t3:=by
   unfold fo
   rw [hk,show (2:Int) ^ (64*0)=1 by decide,←Int.ediv_ediv_of_nonneg (by decide),←E]
   congr 1
   conv=>lhs;rw [←en]
   generalize l0 n=a0 at *; generalize l1 n=a1 at *; generalize l2 n=a2 at *; generalize l3 n=a3 at *
   clear E f0 f1 f2 f3 en
   unfold num aj at *
   omega
  obtain ⟨r0,r1,r2,r3⟩:=bZ w0 w1 w2 w3 U
  rw [r0,r1,r2,r3]
  rw [←f0,←f1,←f2,←f3]
  exact Ca hx0 hx1 hx2 hx3 k0 k1 s0 s1 hq rfl w
 ·have hk:=bU 1 s0 (show k=64*(1:Nat)+k%64 by omega)
  obtain ⟨t0,t1,t2,t3,w0,w1,w2,w3,E,f0,f1,f2,f3⟩:=iW hx1 hx2 hx3 z s0 s1
  have U:fo n k=num t0 t1 t2 t3:=by
   unfold fo
   rw [hk,show (2:Int) ^ (64*1)=18446744073709551616 by decide,←Int.ediv_ediv_of_nonneg (by decide),←E]
   congr 1
   conv=>lhs;rw [←en]
   generalize l0 n=a0 at *; generalize l1 n=a1 at *; generalize l2 n=a2 at *; generalize l3 n=a3 at *
   clear E f0 f1 f2 f3 en
   unfold num aj at *
   omega
  obtain ⟨r0,r1,r2,r3⟩:=bZ w0 w1 w2 w3 U
  rw [r0,r1,r2,r3]
  rw [iX hx3 s0 s1] at f2
  rw [Int.zero_ediv] at f3
  rw [←f0,←f1,←f2,←f3]
  exact Cb hx0 hx1 hx2 hx3 k0 k1 s0 s1 hq rfl w
 ·have hk:=bU 2 s0 (show k=64*(2:Nat)+k%64 by omega)
  obtain ⟨t0,t1,t2,t3,w0,w1,w2,w3,E,f0,f1,f2,f3⟩:=iW hx2 hx3 z z s0 s1
  have U:fo n k=num t0 t1 t2 t3:=by
   unfold fo
   rw [hk,show (2:Int) ^ (64*2)=340282366920938463463374607431768211456 by decide,←Int.ediv_ediv_of_nonneg (by decide),←E]
   congr 1
   conv=>lhs;rw [←en]
   generalize l0 n=a0 at *; generalize l1 n=a1 at *; generalize l2 n=a2 at *; generalize l3 n=a3 at *
   clear E f0 f1 f2 f3 en
   unfold num aj at *
   omega
  obtain ⟨r0,r1,r2,r3⟩:=bZ w0 w1 w2 w3 U
  rw [r0,r1,r2,r3]
  rw [iX hx3 s0 s1] at f1
  rw [iX z s0 s1,Int.zero_ediv] at f2
  rw [Int.zero_ediv] at f3
  rw [←f0,←f1,←f2,←f3]
  exact Cc hx0 hx1 hx2 hx3 k0 k1 s0 s1 hq rfl w
 ·have hk:=bU 3 s0 (show k=64*(3:Nat)+k%64 by omega)
  obtain ⟨t0,t1,t2,t3,w0,w1,w2,w3,E,f0,f1,f2,f3⟩:=iW hx3 z z z s0 s1
  have U:fo n k=num t0 t1 t2 t3:=by
   unfold fo
   rw [hk,show (2:Int) ^ (64*3)=6277101735386680763835789423207666416102355444464034512896 by decide,←Int.ediv_ediv_of_nonneg (by decide),←E]
   congr 1
   conv=>lhs;rw [←en]
   generalize l0 n=a0 at *; generalize l1 n=a1 at *; generalize l2 n=a2 at *; generalize l3 n=a3 at *
   clear E f0 f1 f2 f3 en
   unfold num aj at *
   omega
  obtain ⟨r0,r1,r2,r3⟩:=bZ w0 w1 w2 w3 U
  rw [r0,r1,r2,r3]
  rw [iX hx3 s0 s1] at f0
  rw [iX z s0 s1,Int.zero_ediv] at f1
  rw [iX z s0 s1,Int.zero_ediv] at f2
  rw [Int.zero_ediv] at f3
  rw [←f0,←f1,←f2,←f3]
  exact Cd hx0 hx1 hx2 hx3 k0 k1 s0 s1 hq rfl w
open Go.RowKit
def uO (n k:Int):Int:=if k≤-256∨256≤k then 0 else if k<0 then upN n (-k) else fo n k
theorem ap:l0 0=0∧l1 0=0∧l2 0=0∧l3 0=0:=by decide
theorem bR (w:World):(Instr.build 24 #[]).run Tryz.prog w = .ok (.agg #[.int .u64 0,.int .u64 0,.int .u64 0,.int .u64 0]) w:=run_build w 24 _ _ (by kernel_rfl)
theorem zM {n k:Int} (h:k≤-256∨256≤k) (w:World) :
  Rt 72 #[U4 n,.int .i64 k] w (.agg #[.int .u64 (l0 0),.int .u64 (l1 0),.int .u64 (l2 0),.int .u64 (l3 0)]):=by
 obtain ⟨z0,z1,z2,z3⟩:=ap
 ((try unfold Rt);(try unfold U4);(try unfold P9);rw [z0,z1,z2,z3])
 clear z0 z1 z2 z3
 have hb:=bR
 rcases h with h|h
 ·go_enter Tryz.func72,Tryz.ntmps72
  go_wp2
  simp [bodyPost,results,Tryz.results72,go_sem]
  repeat (first|with_reducible exact Below.refl _ _|with_reducible refine Below.drew ?_|with_reducible refine Below.alloc ?_ (by first|omega|(simp;done)|(simp;omega)) _)
 ·have h':¬k≤-256:=by omega
  go_enter Tryz.func72,Tryz.ntmps72
  go_wp2
  simp [bodyPost,results,Tryz.results72,go_sem]
  repeat (first|with_reducible exact Below.refl _ _|with_reducible refine Below.drew ?_|with_reducible refine Below.alloc ?_ (by first|omega|(simp;done)|(simp;omega)) _)
theorem xb {n k:Int} (hn:Num n) (h0:0≤k) (h1:k≤255) (w:World) :
  Rt 72 #[U4 n,.int .i64 k] w (U4 (fo n k)):=by
 go_enter Tryz.func72,Tryz.ntmps72
 go_wp2_with fail
 refine (xa hn h0 h1 _).mono ?_
 rintro e w' ⟨rfl,hw⟩
 have hc:=al hw
 go_wp2
 simp [bodyPost,results,Tryz.results72,go_sem,hc]
 clear hc
 have hz:=hw.size
 simp at hz
 repeat (first|with_reducible exact Below.refl _ _|with_reducible refine Below.drew ?_|with_reducible refine Below.setCell ?_ (by first|omega|(simp;done)|(simp;omega)) _|with_reducible refine Below.alloc ?_ (by first|omega|(simp;done)|(simp;omega)) _|with_reducible refine Below.trans ?_ (Below.mono hw (by first|omega|(simp;done)|(simp;omega))))
theorem zN {n k:Int} (hn:Num n) (h0:k<0) (h1 : -255≤k) (w:World) :
  Rt 72 #[U4 n,.int .i64 k] w (U4 (upN n (-k))):=by
 go_enter Tryz.func72,Tryz.ntmps72
 go_wp2_with fail
 refine (Ce hn (by omega) (by omega) _).mono ?_
 rintro e w' ⟨rfl,hw⟩
 have hc:=al hw
 go_wp2
 simp [bodyPost,results,Tryz.results72,go_sem,hc]
 clear hc
 have hz:=hw.size
 simp at hz
 repeat (first|with_reducible exact Below.refl _ _|with_reducible refine Below.drew ?_|with_reducible refine Below.setCell ?_ (by first|omega|(simp;done)|(simp;omega)) _|with_reducible refine Below.alloc ?_ (by first|omega|(simp;done)|(simp;omega)) _|with_reducible refine Below.trans ?_ (Below.mono hw (by first|omega|(simp;done)|(simp;omega))))
theorem tR {n k:Int} (hn:Num n) (w:World) :
  Rt 72 #[U4 n,.int .i64 k] w (U4 (uO n k)):=by
 unfold uO
 split
 ·rename_i h;exact zM h w
 ·split
  ·exact zN hn (by omega) (by omega) w
  ·exact xb hn (by omega) (by omega) w
open Go.RowKit Go.Sort
def ae (W:World) (b:Nat) (n:Int):Prop :=
 W.cell? ⟨b,0,none⟩=some (.int .u64 (l0 n))∧W.cell? ⟨b,1,none⟩=some (.int .u64 (l1 n))∧W.cell? ⟨b,2,none⟩=some (.int .u64 (l2 n))∧W.cell? ⟨b,3,none⟩=some (.int .u64 (l3 n))
theorem cell_keep {W w1:World} {p:Addr} {v:Value} (hb:Below W.heap.size W w1) (h:W.cell? p=some v):w1.cell? p=some v:=by
 rw [hb.cell (World.block_lt_of_cell? W p h)];exact h
theorem ae.keep {W w1:World} {b:Nat} {n:Int} (h:ae W b n) (hb:Below W.heap.size W w1):ae w1 b n :=
 ⟨cell_keep hb h.1,cell_keep hb h.2.1,cell_keep hb h.2.2.1,cell_keep hb h.2.2.2⟩
theorem ae.alloc {W:World} {b:Nat} {n:Int} (h:ae W b n) (o:Obj):ae (W.alloc o) b n :=
 h.keep ((Below.refl _ _).alloc (Nat.le_refl _) o)
theorem ae.drew {W:World} {b:Nat} {n:Int} (h:ae W b n):ae W.drew b n:=h
theorem ae.new (W:World) (n:Int) (t:TypeId):ae (W.alloc (.cells #[.int .u64 (l0 n),.int .u64 (l1 n),.int .u64 (l2 n),.int .u64 (l3 n)] t)) W.heap.size n:=by
 refine ⟨?_,?_,?_,?_⟩<;>simp [go_sem]
theorem ae.grown {W:World} {b:Nat} {n:Int} (h:ae W b n):∀ d os,(grow (redrawn W d) os).cell? ⟨b,0,none⟩=some (.int .u64 (l0 n))∧(grow (redrawn W d) os).cell? ⟨b,1,none⟩=some (.int .u64 (l1 n))∧(grow (redrawn W d) os).cell? ⟨b,2,none⟩=some (.int .u64 (l2 n))∧(grow (redrawn W d) os).cell? ⟨b,3,none⟩=some (.int .u64 (l3 n)) :=
 fun d os=>⟨cell_regrown h.1 d os,cell_regrown h.2.1 d os,cell_regrown h.2.2.1 d os,cell_regrown h.2.2.2 d os⟩
theorem ae.allocs {W:World} {b:Nat} {n:Int} (h:ae W b n):∀ o,(W.alloc o).cell? ⟨b,0,none⟩=some (.int .u64 (l0 n))∧(W.alloc o).cell? ⟨b,1,none⟩=some (.int .u64 (l1 n))∧(W.alloc o).cell? ⟨b,2,none⟩=some (.int .u64 (l2 n))∧(W.alloc o).cell? ⟨b,3,none⟩=some (.int .u64 (l3 n)) :=
 fun o=>h.alloc o
theorem ae.allocs2 {W:World} {b:Nat} {n:Int} (h:ae W b n):∀ o o',((W.alloc o).alloc o').cell? ⟨b,0,none⟩=some (.int .u64 (l0 n))∧((W.alloc o).alloc o').cell? ⟨b,1,none⟩=some (.int .u64 (l1 n))∧((W.alloc o).alloc o').cell? ⟨b,2,none⟩=some (.int .u64 (l2 n))∧((W.alloc o).alloc o').cell? ⟨b,3,none⟩=some (.int .u64 (l3 n)) :=
 fun o o'=>(h.alloc o).alloc o'
theorem ae.cells {W:World} {b:Nat} {n:Int} (h:ae W b n):W.cell? ⟨b,0,none⟩=some (.int .u64 (l0 n))∧W.cell? ⟨b,1,none⟩=some (.int .u64 (l1 n))∧W.cell? ⟨b,2,none⟩=some (.int .u64 (l2 n))∧W.cell? ⟨b,3,none⟩=some (.int .u64 (l3 n)):=h
theorem aa {P:Program} {f:FuncId} {args:Array Value} {w:World} {R:Ending→World→Prop} (S:World→Prop) (h:S w) (k:∀ W,S W→Calls P f args W R):Calls P f args w R:=k w h
theorem ah {P:Program} {c:Code} {Q:Exit→Act→World→Prop} {a:Act} {w:World} (S:World→Prop) (h:S w) (k:∀ W,S W→c.wp P Q a W):c.wp P Q a w:=k w h
open Go.RowKit
def Row (W:World) (b:Nat) (l:List Int):Prop:=∀ i,i<l.length→W.cell? ⟨b,i,none⟩=some (.int .u64 (l.getD i 0))
def ai (W:World) (b n:Nat):Prop:=∀ i,i<n→W.frozen? ⟨b,i,none⟩=false
theorem Row.lt {W:World} {b:Nat} {l:List Int} (h:Row W b l) (hl:0<l.length):b<W.heap.size:=World.block_lt_of_cell? W ⟨b,0,none⟩ (h 0 hl)
theorem Row.keep {W w1:World} {b:Nat} {l:List Int} (h:Row W b l) (hb:Below W.heap.size W w1):Row w1 b l:=fun i hi=>cell_keep hb (h i hi)
theorem ai.keep {W w1:World} {b n:Nat} (h:ai W b n) (hb:Below W.heap.size W w1) (hlt:b<W.heap.size):ai w1 b n:=fun i hi=>by rw [hb.frozen (p:=⟨b,i,none⟩) hlt];exact h i hi
theorem Row.alloc {W:World} {b:Nat} {l:List Int} (h:Row W b l) (o:Obj):Row (W.alloc o) b l:=h.keep ((Below.refl _ _).alloc (Nat.le_refl _) o)
theorem ai.alloc {W:World} {b n:Nat} (h:ai W b n) (hlt:b<W.heap.size) (o:Obj):ai (W.alloc o) b n:=h.keep ((Below.refl _ _).alloc (Nat.le_refl _) o) hlt
open Go.RowKit
theorem Row.new (W:World) (l:List Int) (t:TypeId):Row (W.alloc (.cells (l.map (Value.int .u64)).toArray t)) W.heap.size l:=by
 intro i hi
 rw [World.cell?_alloc_mark]
 simp [List.getElem?_map,List.getD,List.getElem?_eq_getElem hi]
theorem ai.new (W:World) (cs:Array Value) (t:TypeId) (n:Nat):ai (W.alloc (.cells cs t)) W.heap.size n:=fun i _=>by simp [go_sem]
theorem Row.set {W:World} {b:Nat} {l:List Int} (h:Row W b l) (i:Nat) (hi:i<l.length) (v:Int):Row (W.setCell ⟨b,i,none⟩ (.int .u64 v)) b (l.set i v):=by
 intro j hj
 simp at hj
 by_cases e:i=j
 ·subst e
  rw [World.cell?_setCell_same _ _ _ (h i hi)]
  simp [List.getD,hi]
 ·have ne:(⟨b,i,none⟩:Addr)≠⟨b,j,none⟩:=by first|(simp;done)|(simp;omega)
  rw [World.cell?_setCell_other _ _ _ _ ne,h j hj]
  simp [List.getD,List.getElem?_set_ne e]
theorem Row.setOther {W:World} {b:Nat} {l:List Int} (h:Row W b l) {p:Addr} (hp:p.block≠b) (v:Value):Row (W.setCell p v) b l:=fun j hj=>by
 rw [World.cell?_setCell_far _ _ _ _ hp];exact h j hj
theorem ai.set {W:World} {b n:Nat} (h:ai W b n) (p:Addr) (v:Value):ai (W.setCell p v) b n:=fun j hj=>by rw [World.frozen?_setCell];exact h j hj
theorem Row.drew {W:World} {b:Nat} {l:List Int} (h:Row W b l):Row W.drew b l:=h
theorem ai.drew {W:World} {b n:Nat} (h:ai W b n):ai W.drew b n:=h
open Go.RowKit
theorem ae.row {W:World} {b:Nat} {n:Int} (h:ae W b n):Row W b [l0 n,l1 n,l2 n,l3 n]:=by
 intro i hi
 simp at hi
 match i,hi with
 | 0,_=>exact h.1
 | 1,_=>exact h.2.1
 | 2,_=>exact h.2.2.1
 | 3,_=>exact h.2.2.2
open Go.RowKit Go.Sort
def uP (F:Act→World→Prop):Exit→Act→World→Prop
 | .normal,a,w=>F a w
 | _,_,_=>False
theorem uP.intro {F:Act→World→Prop} {a:Act} {w:World} (h:F a w):uP F .normal a w:=h
theorem rZ {P:Program} {c:Code} {Q:Exit→Act→World→Prop} {a:Act} {w:World} (F:Act→World→Prop) (h1:c.wp P (uP F) a w) (h2:∀ a' w',F a' w'→Q .normal a' w'):c.wp P Q a w :=
 Code.wp_mono (fun e a' w' h=>by cases e<;>first|exact h2 _ _ h|exact (h:False).elim) h1
theorem ae.set {W:World} {b b' i:Nat} {n:Int} (h:ae W b n) (ne:b'≠b) (v:Value):ae (W.setCell ⟨b',i,none⟩ v) b n:=by
 refine ⟨?_,?_,?_,?_⟩<;>rw [World.cell?_setCell_far _ _ _ _ ne]
 ·exact h.1
 ·exact h.2.1
 ·exact h.2.2.1
 ·exact h.2.2.2
theorem Row.all4 {W:World} {b:Nat} {x0 x1 x2 x3:Int} (h:Row W b [x0,x1,x2,x3]):W.cell? ⟨b,0,none⟩=some (.int .u64 x0)∧W.cell? ⟨b,1,none⟩=some (.int .u64 x1)∧W.cell? ⟨b,2,none⟩=some (.int .u64 x2)∧W.cell? ⟨b,3,none⟩=some (.int .u64 x3) :=
 ⟨h 0 (by simp),h 1 (by simp),h 2 (by simp),h 3 (by simp)⟩
theorem Row.all8 {W:World} {b:Nat} {x0 x1 x2 x3 x4 x5 x6 x7:Int} (h:Row W b [x0,x1,x2,x3,x4,x5,x6,x7]):W.cell? ⟨b,0,none⟩=some (.int .u64 x0)∧W.cell? ⟨b,1,none⟩=some (.int .u64 x1)∧W.cell? ⟨b,2,none⟩=some (.int .u64 x2)∧W.cell? ⟨b,3,none⟩=some (.int .u64 x3)∧W.cell? ⟨b,4,none⟩=some (.int .u64 x4)∧W.cell? ⟨b,5,none⟩=some (.int .u64 x5)∧W.cell? ⟨b,6,none⟩=some (.int .u64 x6)∧W.cell? ⟨b,7,none⟩=some (.int .u64 x7) :=
 ⟨h 0 (by simp),h 1 (by simp),h 2 (by simp),h 3 (by simp),h 4 (by simp),h 5 (by simp),h 6 (by simp),h 7 (by simp)⟩
theorem ai.all4 {W:World} {b:Nat} (h:ai W b 4):W.frozen? ⟨b,0,none⟩=false∧W.frozen? ⟨b,1,none⟩=false∧W.frozen? ⟨b,2,none⟩=false∧W.frozen? ⟨b,3,none⟩=false:=⟨h 0 (by simp),h 1 (by simp),h 2 (by simp),h 3 (by simp)⟩
def Has (W:World) (b n:Nat):Prop:=∀ i,i<n→(W.cell? ⟨b,i,none⟩).isSome=true
theorem Has.keep {W w1:World} {b n:Nat} (h:Has W b n) (hb:Below W.heap.size W w1):Has w1 b n:=fun i hi=>by
 obtain ⟨v,hv⟩:=Option.isSome_iff_exists.1 (h i hi)
 rw [cell_keep hb hv];rfl
theorem Has.alloc {W:World} {b n:Nat} (h:Has W b n) (o:Obj):Has (W.alloc o) b n:=h.keep ((Below.refl _ _).alloc (Nat.le_refl _) o)
theorem Has.drew {W:World} {b n:Nat} (h:Has W b n):Has W.drew b n:=h
theorem Has.fresh {W:World} {b n:Nat} {cs:Array Value} {t:TypeId} (hb:b=W.heap.size) (hn:n≤cs.size):Has (W.alloc (.cells cs t)) b n:=fun i hi=>by
 subst hb
 rw [World.cell?_alloc_mark]
 simp
 omega
theorem Has.set {W:World} {b n:Nat} (h:Has W b n) (p:Addr) (v:Value):Has (W.setCell p v) b n:=fun i hi=>by
 obtain ⟨u,hu⟩:=Option.isSome_iff_exists.1 (h i hi)
 by_cases e:p=⟨b,i,none⟩
 ·subst e;rw [World.cell?_setCell_same _ _ _ hu];rfl
 ·rw [World.cell?_setCell_other _ _ _ _ e,hu];rfl
theorem Has.same {W:World} {b n i:Nat} (h:Has W b n) (hi:i<n) (v:Value):(W.setCell ⟨b,i,none⟩ v).cell? ⟨b,i,none⟩=some v:=by
 obtain ⟨u,hu⟩:=Option.isSome_iff_exists.1 (h i hi)
 exact World.cell?_setCell_same _ _ _ hu
theorem xc {W:World} {b i j:Nat} {u v:Value} (h:W.cell? ⟨b,i,none⟩=some v) (ne:j≠i):(W.setCell ⟨b,j,none⟩ u).cell? ⟨b,i,none⟩=some v:=by
 rw [World.cell?_setCell_other _ _ _ _ (by intro e;injection e with _ e2;exact ne e2)];exact h
theorem Row.fresh8 {W:World} {b:Nat} {x0 x1 x2 x3 x4 x5 x6 x7:Int} {t:TypeId} (hb:b=W.heap.size):Row (W.alloc (.cells #[.int .u64 x0,.int .u64 x1,.int .u64 x2,.int .u64 x3,.int .u64 x4,.int .u64 x5,.int .u64 x6,.int .u64 x7] t)) b [x0,x1,x2,x3,x4,x5,x6,x7]:=by
 subst hb
 exact Row.new W [x0,x1,x2,x3,x4,x5,x6,x7] t
theorem ae.fresh {W:World} {b:Nat} {n:Int} {t:TypeId} (hb:b=W.heap.size):ae (W.alloc (.cells #[.int .u64 (l0 n),.int .u64 (l1 n),.int .u64 (l2 n),.int .u64 (l3 n)] t)) b n:=by
 subst hb
 exact ae.new W n t
theorem ae.sets4 {W:World} {b:Nat} {n:Int} (h:Has W b 4):ae ((((W.setCell ⟨b,0,none⟩ (.int .u64 (l0 n))).setCell ⟨b,1,none⟩ (.int .u64 (l1 n))).setCell ⟨b,2,none⟩ (.int .u64 (l2 n))).setCell ⟨b,3,none⟩ (.int .u64 (l3 n))) b n:=by
 refine ⟨?_,?_,?_,?_⟩<;>repeat (first|(with_reducible refine xc ?_ (by decide))|(with_reducible refine Has.same (n:=4) ?_ (by decide) _)|with_reducible exact h|with_reducible refine Has.set ?_ _ _)
theorem ae.has {W:World} {b:Nat} {n:Int} (h:ae W b n):Has W b 4:=by
 obtain ⟨h0,h1,h2,h3⟩:=h
 intro i hi
 match i,hi with
 | 0,_=>rw [h0];rfl
 | 1,_=>rw [h1];rfl
 | 2,_=>rw [h2];rfl
 | 3,_=>rw [h3];rfl
theorem ae.set4 {W:World} {b b':Nat} {n:Int} (h:ae W b n) (ne:b'≠b) (v0 v1 v2 v3:Value):ae ((((W.setCell ⟨b',0,none⟩ v0).setCell ⟨b',1,none⟩ v1).setCell ⟨b',2,none⟩ v2).setCell ⟨b',3,none⟩ v3) b n :=
 (((h.set ne v0).set ne v1).set ne v2).set ne v3
theorem ak {w W:World} {b':Nat} (h:Below w.heap.size w W) (le:w.heap.size≤b') (v0 v1 v2 v3:Value):Below w.heap.size w ((((W.setCell ⟨b',0,none⟩ v0).setCell ⟨b',1,none⟩ v1).setCell ⟨b',2,none⟩ v2).setCell ⟨b',3,none⟩ v3) :=
 (((h.setCell le v0).setCell le v1).setCell le v2).setCell le v3
def af (W:World) (b:Nat):Prop:=Row W b [0,0,0,0]∧ai W b 4
theorem af.keep {W w1:World} {b:Nat} (h:af W b) (hb:Below W.heap.size W w1):af w1 b:=⟨h.1.keep hb,h.2.keep hb (h.1.lt (by simp))⟩
theorem af.alloc {W:World} {b:Nat} (h:af W b) (o:Obj):af (W.alloc o) b:=h.keep ((Below.refl _ _).alloc (Nat.le_refl _) o)
theorem af.drew {W:World} {b:Nat} (h:af W b):af W.drew b:=h
theorem af.set {W:World} {b b' i:Nat} (h:af W b) (ne:b'≠b) (v:Value):af (W.setCell ⟨b',i,none⟩ v) b:=⟨h.1.setOther ne v,h.2.set _ v⟩
theorem ip {k:Nat} {w W:World} (e:w.heap.size=k) (h:Below k w W) (o:Obj):Below k w (W.alloc o):=by subst e;exact h.alloc h.size o
theorem cJ {k:Nat} {w X w1:World} (e:w.heap.size=k) (h:Below k w X) (hb:Below X.heap.size X w1):Below k w w1:=by subst e;exact h.trans (hb.mono h.size)
open Go.RowKit
theorem af.new {W:World} {b:Nat} {t:TypeId} (e:b=W.heap.size):af (W.alloc (.cells #[.int .u64 0,.int .u64 0,.int .u64 0,.int .u64 0] t)) b:=by
 subst e;exact ⟨Row.new W [0,0,0,0] t,ai.new _ _ _ _⟩
theorem af.set4 {W:World} {b b':Nat} (h:af W b) (ne:b'≠b) (v0 v1 v2 v3:Value):af ((((W.setCell ⟨b',0,none⟩ v0).setCell ⟨b',1,none⟩ v1).setCell ⟨b',2,none⟩ v2).setCell ⟨b',3,none⟩ v3) b :=
 (((h.set ne v0).set ne v1).set ne v2).set ne v3
def Var (W:World) (b:Nat) (n:Int):Prop:=ae W b n∧ai W b 4
theorem Var.keep {W w1:World} {b:Nat} {n:Int} (h:Var W b n) (hb:Below W.heap.size W w1):Var w1 b n:=⟨h.1.keep hb,h.2.keep hb (h.1.row.lt (by simp))⟩
theorem Var.alloc {W:World} {b:Nat} {n:Int} (h:Var W b n) (o:Obj):Var (W.alloc o) b n:=h.keep ((Below.refl _ _).alloc (Nat.le_refl _) o)
theorem Var.new {W:World} {b:Nat} {n:Int} {t:TypeId} (e:b=W.heap.size):Var (W.alloc (.cells #[.int .u64 (l0 n),.int .u64 (l1 n),.int .u64 (l2 n),.int .u64 (l3 n)] t)) b n:=by
 subst e;exact ⟨ae.new W n t,ai.new _ _ _ _⟩
theorem Var.sets {W:World} {b:Nat} {n:Int} (h:Var W b n) (k:Int):Var ((((W.setCell ⟨b,0,none⟩ (.int .u64 (l0 k))).setCell ⟨b,1,none⟩ (.int .u64 (l1 k))).setCell ⟨b,2,none⟩ (.int .u64 (l2 k))).setCell ⟨b,3,none⟩ (.int .u64 (l3 k))) b k :=
 ⟨ae.sets4 h.1.has,(((h.2.set _ _).set _ _).set _ _).set _ _⟩
theorem Var.set4 {W:World} {b b':Nat} {n:Int} (h:Var W b n) (ne:b'≠b) (v0 v1 v2 v3:Value):Var ((((W.setCell ⟨b',0,none⟩ v0).setCell ⟨b',1,none⟩ v1).setCell ⟨b',2,none⟩ v2).setCell ⟨b',3,none⟩ v3) b n :=
 ⟨h.1.set4 ne v0 v1 v2 v3,(((h.2.set _ _).set _ _).set _ _).set _ _⟩
open Go.RowKit
theorem dP {m c n:Int} (hf:Fit m c) (hn:Num n) (w:World) :
  Rt 81 #[.agg #[.int .u64 (l0 m),.int .u64 (l1 m),.int .u64 (l2 m),.int .u64 (l3 m),.int .u64 (l0 c),.int .u64 (l1 c),.int .u64 (l2 c),.int .u64 (l3 c)],U4 n] w (U4 (ab m n)):=by
 have hm:=hf.num
 obtain ⟨q1,q2⟩:=wV hf hn
 have key:(fW n m=1∧ab m n=n)∨(fW n m=0∧ab m n=fN n m):=by
  by_cases h:n<m
  ·exact .inl ⟨by unfold fW;rw [if_pos h],q1 h⟩
  ·exact .inr ⟨(q2 (by omega)).2,(q2 (by omega)).1⟩
 clear q1 q2
 rcases key with ⟨k1,k2⟩|⟨k1,k2⟩
 all_goals rw [k2]
 all_goals clear k2
 all_goals go_enter Tryz.func81,Tryz.ntmps81
 all_goals go_wp2_with fail
 all_goals refine aa (fun W=>Below w.heap.size w W∧ae W (w.heap.size+1) n∧af W (w.heap.size+1+1)) ⟨by repeat (first|with_reducible exact Below.refl _ _|with_reducible refine Below.alloc ?_ (by first|omega|(simp;done)|(simp;omega)) _),(ae.fresh (by simp)).alloc _,af.new (by simp)⟩ ?_
 all_goals rintro W ⟨B,hX,hR⟩
 all_goals have o1:w.heap.size≤w.heap.size+1+1:=by omega
 all_goals generalize w.heap.size+1+1=br at *
 all_goals generalize w.heap.size+1=bx at *
 all_goals with_reducible refine (iT hn hm _).mono ?_
 all_goals rintro e w1 ⟨rfl,hb⟩
 all_goals replace B:=B.trans (hb.mono B.size)
 all_goals replace hR:=hR.keep hb
 all_goals replace hX:=hX.keep hb
 all_goals clear hb W
 all_goals have gX:=hX.allocs
 all_goals have gR:=fun o=>(hR.alloc o).1.all4
 all_goals have fR:=fun o=>(hR.alloc o).2.all4
 all_goals have BB:Hid (∀ o,Below w.heap.size w (w1.alloc o)):=fun o=>B.alloc B.size o
 all_goals clear B hX hR
 all_goals go_wp2
 all_goals simp [bodyPost,results,Tryz.results81,go_sem, *]
 all_goals repeat (first|with_reducible exact BB.out _|with_reducible refine Below.drew ?_|with_reducible refine Below.setCell ?_ (by with_reducible assumption) _)
open Go.RowKit Go.Sort
theorem r8 {Q:Exit→Act→World→Prop} {e:Exit} {a:Act} {w:World} (S:World→Prop) (h:S w) (k:∀ W,S W→Q e a W):Q e a w:=k w h
theorem uQ {m c h l:Int} (hf:Fit m c) (hh:Num h) (hl:Num l) (w:World) :
  Rt 133 #[U4 h,U4 l,U4 c] w (.tuple #[U4 (dN h l c),U4 (dn h l c)]):=by
 have hc:=hf.numc
 obtain ⟨q1,q2,q3,q4⟩:=mL hf hh hl
 have M1:Hid (∀ w,Rt 126 #[U4 h,U4 c] w (.tuple #[U4 (hiN h c),U4 (loN h c)])):=tQ hh hc
 have A1:Hid (∀ w,Rt 95 #[U4 (loN h c),U4 l] w (.tuple #[U4 (dn h l c),.int .u64 (fm (loN h c) l)])):=fun w=>by
  have:=jO (tN h c) hl w;rw [q2] at this;exact this
 have F1:=eX q4
 have nc:Num (fm (loN h c) l):=by obtain ⟨a,b⟩:=q4;exact ⟨a,by omega⟩
 have A2:Hid (∀ w,Rt 95 #[U4 (hiN h c),U4 (fm (loN h c) l)] w (.tuple #[U4 (dN h l c),.int .u64 (fm (hiN h c) (fm (loN h c) l))])):=fun w=>by
  have:=jO (tO hh hc) nc w;rw [q3] at this;exact this
 have F2:Hid (∀ w,Rt 61 #[.int .u64 (fm (loN h c) l)] w (U4 (fm (loN h c) l))):=F1
 clear q1 q2 q3 q4 nc F1
 generalize hiN h c=H at *
 generalize loN h c=L at *
 generalize fm L l=C at *
 generalize fm H C=D at *
 generalize dN h l c=R at *
 generalize dn h l c=S at *
 go_enter Tryz.func133,Tryz.ntmps133
 go_wp2_with fail
 refine aa (fun W=>Below w.heap.size w W∧ae W (w.heap.size+1) l∧af W (w.heap.size+1+1+1)∧af W (w.heap.size+1+1+1+1)) ⟨by repeat (first|with_reducible exact Below.refl _ _|with_reducible refine Below.alloc ?_ (by first|omega|(simp;done)|(simp;omega)) _),(((ae.fresh (by simp)).alloc _).alloc _).alloc _,(af.new (by simp)).alloc _,af.new (by simp)⟩ ?_
 rintro W ⟨B,hX,hR,hT⟩
 have o1:w.heap.size≤w.heap.size+1+1+1:=by omega
 have o2:w.heap.size≤w.heap.size+1+1+1+1:=by omega
 have rt:w.heap.size+1+1+1+1≠w.heap.size+1+1+1:=by omega
 generalize w.heap.size+1+1+1+1=bt at *
 generalize w.heap.size+1+1+1=br at *
 generalize w.heap.size+1=bx at *
 with_reducible refine (M1.out _).mono ?_
 rintro e w1 ⟨rfl,hb⟩
 replace B:=B.trans (hb.mono B.size)
 replace hR:=hR.keep hb;replace hT:=hT.keep hb;replace hX:=hX.keep hb
 clear hb W
 have gX:=hX.allocs2
 go_wp2_with fail
 have nr:w1.heap.size≠br:=by have:=hR.1.lt (by simp);omega
 have nt:w1.heap.size≠bt:=by have:=hT.1.lt (by simp);omega
 have os:w.heap.size≤w1.heap.size:=B.size
 refine aa (fun W=>Below w.heap.size w W∧af W br∧af W bt∧Var W w1.heap.size H) ⟨(B.alloc B.size _).alloc (by have:=B.size;simp;omega) _,(hR.alloc _).alloc _,(hT.alloc _).alloc _,(Var.new rfl).alloc _⟩ ?_
 clear B hX hR hT gX
 rintro W ⟨B,hR,hT,hO⟩
 generalize w1.heap.size+1=bu at *
 generalize w1.heap.size=bo at *
 with_reducible refine (A1.out _).mono ?_
 rintro e w2 ⟨rfl,hb⟩
 replace B:=B.trans (hb.mono B.size)
 replace hR:=hR.keep hb;replace hT:=hT.keep hb;replace hO:=hO.keep hb
 clear hb W
 go_wp2_with fail
 have nrs:br≠w2.heap.size:=by have:=hR.1.lt (by simp);omega
 have nts:bt≠w2.heap.size:=by have:=hT.1.lt (by simp);omega
 have ns:bo≠w2.heap.size:=by have:=hO.1.row.lt (by simp);omega
 refine ah (fun W=>Below w.heap.size w W∧af W br∧af W bt∧Var W bo H∧ae W w2.heap.size S) ⟨B.alloc B.size _,hR.alloc _,hT.alloc _,hO.alloc _,ae.new _ _ _⟩ ?_
 clear B hR hT hO
 rintro W ⟨B,hR,hT,hO,hS⟩
 generalize w2.heap.size=bs at *
 have gO:=hO.1.cells;have fO:=hO.2.all4;have gS:=hS.cells;have gR:=hR.1.all4;have fR:=hR.2.all4;have gT:=hT.1.all4;have fT:=hT.2.all4
 have lo:=World.block_lt_of_cell? W _ hO.1.1;have ls:=World.block_lt_of_cell? W _ hS.1;have lr:=hR.1.lt (by simp);have lt:=hT.1.lt (by simp)
 have BB:Hid (Below w.heap.size w W):=B
 have geB:=B.size
 have HO:Hid (Var W bo H):=hO
 have HS:Hid (ae W bs S):=hS
 have HR:Hid (af W br):=hR
 have HT:Hid (af W bt):=hT
 clear B hO hS hR hT
 have nr':=nr.symm;have nt':=nt.symm;have ns':=ns.symm;have nrs':=nrs.symm;have nts':=nts.symm;have rt':=rt.symm
 have _:bo<W.heap.size:=by omega
 have _:bo≤W.heap.size:=by omega
 have _:bo<W.heap.size+1:=by omega
 have _:bo<W.heap.size+1+1:=by omega
 have _:bo≠W.heap.size:=by omega
 have _:W.heap.size≠bo:=by omega
 have _:bo≠W.heap.size+1:=by omega
 have _:W.heap.size+1≠bo:=by omega
 have _:br<W.heap.size:=by omega
 have _:br≤W.heap.size:=by omega
 have _:br<W.heap.size+1:=by omega
 have _:br<W.heap.size+1+1:=by omega
 have _:br≠W.heap.size:=by omega
 have _:W.heap.size≠br:=by omega
 have _:br≠W.heap.size+1:=by omega
 have _:W.heap.size+1≠br:=by omega
 have _:bt<W.heap.size:=by omega
 have _:bt≤W.heap.size:=by omega
 have _:bt<W.heap.size+1:=by omega
 have _:bt<W.heap.size+1+1:=by omega
 have _:bt≠W.heap.size:=by omega
 have _:W.heap.size≠bt:=by omega
 have _:bt≠W.heap.size+1:=by omega
 have _:W.heap.size+1≠bt:=by omega
 have _:bs<W.heap.size:=by omega
 have _:bs≤W.heap.size:=by omega
 have _:bs<W.heap.size+1:=by omega
 have _:bs<W.heap.size+1+1:=by omega
 have _:bs≠W.heap.size:=by omega
 have _:W.heap.size≠bs:=by omega
 have _:bs≠W.heap.size+1:=by omega
 have _:W.heap.size+1≠bs:=by omega
 have dz:W.drew.heap.size=W.heap.size:=rfl
 clear gR fR gT fT gS
 go_region_with (first
   | (go_at_call 61;with_reducible refine (F2.out _).mono ?_;rintro e w1 ⟨rfl,hb1⟩;have hc1:=al hb1;have hz1:=hb1.size;(try simp at hz1);(try (have:=fun j=>al hb1 (W.heap.size) j (by first|omega|(simp;done)|(simp;omega))));(try (have:=fun j=>al hb1 (W.heap.size+1) j (by first|omega|(simp;done)|(simp;omega))));have _:bo<w1.heap.size:=(by omega);have _:bo≤w1.heap.size:=(by omega);have _:bo<w1.heap.size+1:=(by omega);have _:bo<w1.heap.size+1+1:=(by omega);have _:bo≠w1.heap.size:=(by omega);have _:w1.heap.size≠bo:=(by omega);have _:bo≠w1.heap.size+1:=(by omega);have _:w1.heap.size+1≠bo:=(by omega);have _:br<w1.heap.size:=(by omega);have _:br≤w1.heap.size:=(by omega);have _:br<w1.heap.size+1:=(by omega);have _:br<w1.heap.size+1+1:=(by omega);have _:br≠w1.heap.size:=(by omega);have _:w1.heap.size≠br:=(by omega);have _:br≠w1.heap.size+1:=(by omega);have _:w1.heap.size+1≠br:=(by omega);have _:bt<w1.heap.size:=(by omega);have _:bt≤w1.heap.size:=(by omega);have _:bt<w1.heap.size+1:=(by omega);have _:bt<w1.heap.size+1+1:=(by omega);have _:bt≠w1.heap.size:=(by omega);have _:w1.heap.size≠bt:=(by omega);have _:bt≠w1.heap.size+1:=(by omega);have _:w1.heap.size+1≠bt:=(by omega);have _:bs<w1.heap.size:=(by omega);have _:bs≤w1.heap.size:=(by omega);have _:bs<w1.heap.size+1:=(by omega);have _:bs<w1.heap.size+1+1:=(by omega);have _:bs≠w1.heap.size:=(by omega);have _:w1.heap.size≠bs:=(by omega);have _:bs≠w1.heap.size+1:=(by omega);have _:w1.heap.size+1≠bs:=(by omega);(try (have _:W.heap.size<w1.heap.size:=(by omega)));(try (have _:W.heap.size≤w1.heap.size:=(by omega)));(try (have _:W.heap.size≠w1.heap.size:=(by omega)));(try (have _:w1.heap.size≠W.heap.size:=(by omega)));(try (have _:W.heap.size<w1.heap.size+1:=(by omega)));(try (have _:W.heap.size+1<w1.heap.size:=(by omega)));(try (have _:W.heap.size+1≤w1.heap.size:=(by omega)));(try (have _:W.heap.size+1≠w1.heap.size:=(by omega)));(try (have _:w1.heap.size≠W.heap.size+1:=(by omega)));(try (have _:W.heap.size+1<w1.heap.size+1:=(by omega))))
   | (go_at_call 95;with_reducible refine (A2.out _).mono ?_;rintro e w2 ⟨rfl,hb2⟩;have hc2:=al hb2;have hz2:=hb2.size;(try simp at hz2);(try (have:=fun j=>al hb2 (W.heap.size) j (by first|omega|(simp;done)|(simp;omega))));(try (have:=fun j=>al hb2 (W.heap.size+1) j (by first|omega|(simp;done)|(simp;omega))));(try (have:=fun j=>al hb2 (w1.heap.size) j (by first|omega|(simp;done)|(simp;omega))));(try (have:=fun j=>al hb2 (w1.heap.size+1) j (by first|omega|(simp;done)|(simp;omega))));have _:bo<w2.heap.size:=(by omega);have _:bo≤w2.heap.size:=(by omega);have _:bo<w2.heap.size+1:=(by omega);have _:bo<w2.heap.size+1+1:=(by omega);have _:bo≠w2.heap.size:=(by omega);have _:w2.heap.size≠bo:=(by omega);have _:bo≠w2.heap.size+1:=(by omega);have _:w2.heap.size+1≠bo:=(by omega);have _:br<w2.heap.size:=(by omega);have _:br≤w2.heap.size:=(by omega);have _:br<w2.heap.size+1:=(by omega);have _:br<w2.heap.size+1+1:=(by omega);have _:br≠w2.heap.size:=(by omega);have _:w2.heap.size≠br:=(by omega);have _:br≠w2.heap.size+1:=(by omega);have _:w2.heap.size+1≠br:=(by omega);have _:bt<w2.heap.size:=(by omega);have _:bt≤w2.heap.size:=(by omega);have _:bt<w2.heap.size+1:=(by omega);have _:bt<w2.heap.size+1+1:=(by omega);have _:bt≠w2.heap.size:=(by omega);have _:w2.heap.size≠bt:=(by omega);have _:bt≠w2.heap.size+1:=(by omega);have _:w2.heap.size+1≠bt:=(by omega);have _:bs<w2.heap.size:=(by omega);have _:bs≤w2.heap.size:=(by omega);have _:bs<w2.heap.size+1:=(by omega);have _:bs<w2.heap.size+1+1:=(by omega);have _:bs≠w2.heap.size:=(by omega);have _:w2.heap.size≠bs:=(by omega);have _:bs≠w2.heap.size+1:=(by omega);have _:w2.heap.size+1≠bs:=(by omega);(try (have _:W.heap.size<w2.heap.size:=(by omega)));(try (have _:W.heap.size≤w2.heap.size:=(by omega)));(try (have _:W.heap.size≠w2.heap.size:=(by omega)));(try (have _:w2.heap.size≠W.heap.size:=(by omega)));(try (have _:W.heap.size<w2.heap.size+1:=(by omega)));(try (have _:W.heap.size+1<w2.heap.size:=(by omega)));(try (have _:W.heap.size+1≤w2.heap.size:=(by omega)));(try (have _:W.heap.size+1≠w2.heap.size:=(by omega)));(try (have _:w2.heap.size≠W.heap.size+1:=(by omega)));(try (have _:W.heap.size+1<w2.heap.size+1:=(by omega)));(try (have _:w1.heap.size<w2.heap.size:=(by omega)));(try (have _:w1.heap.size≤w2.heap.size:=(by omega)));(try (have _:w1.heap.size≠w2.heap.size:=(by omega)));(try (have _:w2.heap.size≠w1.heap.size:=(by omega)));(try (have _:w1.heap.size<w2.heap.size+1:=(by omega)));(try (have _:w1.heap.size+1<w2.heap.size:=(by omega)));(try (have _:w1.heap.size+1≤w2.heap.size:=(by omega)));(try (have _:w1.heap.size+1≠w2.heap.size:=(by omega)));(try (have _:w2.heap.size≠w1.heap.size+1:=(by omega)));(try (have _:w1.heap.size+1<w2.heap.size+1:=(by omega)))))
 all_goals refine r8 (fun W=>RowKit.Below w.heap.size w W∧ae W bo R∧ae W bs S∧af W br∧af W bt) ⟨?_,?_,?_,?_,?_⟩ ?_
 all_goals first|(rintro W ⟨B,hO,hS,hR,hT⟩)|skip
 all_goals try ((repeat (first|with_reducible exact BB.out|with_reducible exact HS.out|with_reducible exact HR.out|with_reducible exact HT.out|with_reducible refine ae.sets4 ?_|exact Has.keep (Has.keep (Has.drew HO.out.1.has) hb1) hb2|with_reducible refine Has.keep ?_ hb2|with_reducible refine Has.keep ?_ hb1|with_reducible exact HO.out.1.has|with_reducible refine Has.drew ?_|with_reducible refine ae.set ?_ (by with_reducible assumption) _|with_reducible refine af.set ?_ (by with_reducible assumption) _|with_reducible refine ae.drew ?_|with_reducible refine af.drew ?_|with_reducible refine ae.keep ?_ hb2|with_reducible refine ae.keep ?_ hb1|with_reducible refine af.keep ?_ hb2|with_reducible refine af.keep ?_ hb1|with_reducible refine Below.drew ?_|with_reducible refine Below.setCell ?_ (by with_reducible assumption) _|with_reducible refine Below.trans ?_ (Below.mono hb2 (by omega))|with_reducible refine Below.trans ?_ (Below.mono hb1 (by omega))));done)
 all_goals clear BB HO HS HR HT gO fO
 all_goals have gO:=hO.cells
 all_goals have gS:=hS.cells
 all_goals have gR:=hR.1.all4
 all_goals have fR:=hR.2.all4
 all_goals have gT:=hT.1.all4
 all_goals have fT:=hT.2.all4
 all_goals have BB:Hid (Below w.heap.size w W):=B
 all_goals clear B hO hS hR hT
 all_goals go_wp2
 all_goals (repeat (go_region;go_wp2))
 all_goals simp [bodyPost,results,Tryz.results133,go_sem, *]
 all_goals repeat (first|with_reducible exact BB.out|with_reducible refine Below.drew ?_|with_reducible refine Below.setCell ?_ (by with_reducible assumption) _)
open Go.RowKit Go.Sort
section
variable {P:Program} {ops:Array Oper}
def Gr (V:World):World→Prop:=fun w'=>∃ p:Regrown,w'=grow (redrawn V p.d) p.os
theorem Gr.below {V w:World} (h:Gr V w):Below V.heap.size V w:=by obtain ⟨p,rfl⟩:=h;exact below_regrown V p.d p.os
theorem Gr.self (V:World):Gr V V:=⟨⟨V.drawn,#[]⟩,by rw [grow_empty];rfl⟩
def cr (sz n:Nat):Array Bool:=((List.range sz).map fun i=>decide (i<n)).toArray
def mM (ops:Array Oper) (n sz i:Nat):Bool :=
 match ops[i]? with
 | some o=>(match o.dst with|some d=>decide (d<sz)|none=>false)&&o.after.all (fun e => !Region.binds .any e||decide (e.on<i)) &&
   (List.range n).all fun j=>j==i||(match ops[j]? with
    | some oj=>(oj.dst != o.dst)&&(match oj.dst with|some d => !(o.looksAt ops).contains d||Region.waitsFor .any ops i j|none=>true)
    | none=>false)
 | none=>false
def pA (ops:Array Oper) (m n sz:Nat):Bool :=
 (List.range n).all fun k=>decide (k<m)||(match ops[k]? with
  | some o=>o.guard.isNone&&o.after.isEmpty&&(match o.dst with|some d=>decide (d<sz)|none=>false) &&
    (List.range n).all fun j=>j==k||(match ops[j]? with|some oj=>(oj.dst != o.dst)|none=>false)
  | none=>false)
def fV (ops:Array Oper) (m n sz:Nat):Bool :=
 Region.noSelect ops&&decide (n<ops.size)&&Region.sinkB .any ops n&&Region.chainB .any ops n &&
 Region.seqB .any ops (ops.size-n) n (cr ops.size n)&&(List.range m).all (mM ops n sz)&&pA ops m n sz&&decide (m<n)
theorem cu {m n sz k:Nat} (h:pA ops m n sz=true) (h1:m≤k) (h2:k<n):∃ o d,ops[k]?=some o∧o.dst=some d∧o.guard=none∧o.after=#[]∧d<sz ∧
  ∀ j,j<n→j≠k→∃ oj,ops[j]?=some oj∧oj.dst≠some d:=by
 have h3:=List.all_eq_true.1 h k (List.mem_range.2 h2)
 simp only [Bool.or_eq_true,decide_eq_true_eq] at h3
 rcases h3 with h3|h3
 ·omega
 ·split at h3
  ·rename_i o ho
   simp only [Bool.and_eq_true] at h3
   obtain ⟨⟨⟨hg,ha⟩,hd⟩,hp⟩:=h3
   cases hdst:o.dst with
   | none=>rw [hdst] at hd;cases hd
   | some d =>
    rw [hdst] at hd hp
    refine ⟨o,d,ho,hdst,by simpa using hg,by simpa using ha,by simpa using hd,fun j hj hjk=>?_⟩
    have h4:=List.all_eq_true.1 hp j (List.mem_range.2 hj)
    simp only [Bool.or_eq_true,beq_iff_eq] at h4
    rcases h4 with h4|h4
    ·exact absurd h4 hjk
    ·split at h4
     ·rename_i oj hoj
      exact ⟨oj,hoj,by simpa using h4⟩
     ·cases h4
  ·cases h3
theorem eZ {n sz i:Nat} (h:mM ops n sz i=true):∃ o d,ops[i]?=some o∧o.dst=some d∧d<sz∧(∀ e∈o.after,Region.binds .any e=true→e.on<i) ∧
  ∀ j,j<n→j≠i→∃ oj,ops[j]?=some oj∧oj.dst≠some d∧∀ t,oj.dst=some t→t∈o.looksAt ops→Region.waitsFor .any ops i j=true:=by
 unfold mM at h
 split at h
 ·rename_i o ho
  simp only [Bool.and_eq_true] at h
  obtain ⟨⟨hd,ha⟩,hp⟩:=h
  cases hdst:o.dst with
  | none=>rw [hdst] at hd;cases hd
  | some d =>
   rw [hdst] at hd hp
   refine ⟨o,d,ho,hdst,by simpa using hd,fun e he hb=>?_,fun j hj hji=>?_⟩
   ·have:=Array.all_eq_true'.1 ha e he
    rw [hb] at this
    simpa using this
   ·have h1:=List.all_eq_true.1 hp j (List.mem_range.2 hj)
    simp only [Bool.or_eq_true,beq_iff_eq] at h1
    rcases h1 with h1|h1
    ·exact absurd h1 hji
    ·split at h1
     ·rename_i oj hoj
      simp only [Bool.and_eq_true,bne_iff_ne] at h1
      refine ⟨oj,hoj,h1.1,fun t ht hl=>?_⟩
      have h2:=h1.2
      rw [ht] at h2
      simp only [Bool.or_eq_true,Bool.not_eq_true',List.contains_eq_mem,decide_eq_false_iff_not] at h2
      rcases h2 with h2|h2
      ·exact absurd hl h2
      ·exact h2
     ·cases h1
 ·cases h
theorem ju {C:World→Prop} {A:Act} {d:Nat}:∀ (l:List Oper) (b:Act),(∀ o∈l,o.dst≠some d)→wpQuiet P ops C (fun a'=>a'=A) l b→A.tmps[d]?=b.tmps[d]?
 | [],b,_,h=>by rw [←(show b=A from h)]
 | o :: l,b,hd,h=>by
  have put:∀ v,(b.put o.dst v).tmps[d]?=b.tmps[d]?:=fun v=>by
   cases ho:o.dst with
   | none=>rfl
   | some e =>
    have:e≠d:=fun he=>hd o (by simp) (by rw [ho,he])
    simp [Act.put,Array.getElem?_setIfInBounds_ne this]
  have hd':∀ o'∈l,o'.dst≠some d:=fun o' h'=>hd o' (by simp [h'])
  unfold wpQuiet at h
  split at h
  ·obtain ⟨v,_,h2⟩:=h
   rw [ju l _ hd' h2,put]
  ·rw [ju l _ hd' h,put]
def bJ (ops:Array Oper) (a A:Act):Nat→Act
 | 0=>a
 | i+1=>(bJ ops a A i).put ((ops[i]?).bind (·.dst)) (A.tmps.getD (((ops[i]?).bind (·.dst)).getD 0) undef)
theorem jS {o:Oper} {a:Act} {w:World} {v:Value} {C C':World→Prop} (hC:∀ x,C x→C' x) (h:o.quietAt P a C w v):o.quietAt P a C' w v:=by
 unfold Oper.quietAt at *
 generalize (execOp a.eval o).run P w=r at *
 cases r with
 | ok n w'=>cases n<;>simp only [Oper.quietUpon] at * <;> first|exact h|exact ⟨h.1,h.2.mono fun e w'' hh=>⟨hh.1,hC _ hh.2⟩⟩
 | halt x w'=>simp only [Oper.quietUpon] at h
theorem dp {b:Act} {d:Nat} {v:Value} (h:d<b.tmps.size):(b.put (some d) v).tmps[d]?=some v:=by
 simp [Act.put,h]
theorem bQ {b:Act} {d t:Nat} {v:Value} (h:d≠t):(b.put (some d) v).tmps[t]?=b.tmps[t]?:=by
 simp [Act.put,Array.getElem?_setIfInBounds_ne h]
theorem jT {b:Act} {d:Nat} {v:Value}:(b.put (some d) v).tmps.size=b.tmps.size:=by simp [Act.put]
def Yl (P:Program) (ops:Array Oper) (b:Act) (C:World→Prop) (V:World) (o:Oper) (v:Value):Prop :=
 (Region.wanted o (yielded ops b.tmps)=true∧o.quietAt P b C V v)∨(Region.wanted o (yielded ops b.tmps)=false∧v=undef)
structure Hd (P:Program) (ops:Array Oper) (m n sz:Nat) (a A:Act) (D:World→Prop):Prop where
 mn:m≤n
 ex0:∃ V,D V
 q:∀ i,i<m→mM ops n sz i=true
 z:pA ops m n sz=true
 size:a.tmps.size=sz
 walk:∀ V,D V→∃ L:List Oper,L.length=m∧(∀ i,i<m→L[i]?=ops[i]?)∧wpQuiet P ops (Gr V) (fun a'=>a'=A) L a
section
variable {m n sz:Nat} {a A:Act} {W:World} {D:World→Prop}
theorem Hd.lex (h:Hd P ops m n sz a A D) {V:World} {L:List Oper} (hlen:L.length=m) (hL:∀ i,i<m→L[i]?=ops[i]?)
  (H:wpQuiet P ops (Gr V) (fun a'=>a'=A) L a):∀ i,i≤m→wpQuiet P ops (Gr V) (fun a'=>a'=A) (L.drop i) (bJ ops a A i)∧(bJ ops a A i).tmps.size=sz∧(bJ ops a A i).defers=a.defers ∧
   ∀ j,j<i→∃ o d,ops[j]?=some o∧o.dst=some d∧Yl P ops (bJ ops a A j) (Gr V) V o (A.tmps.getD d undef):=by
 intro i
 induction i with
 | zero=>intro _;exact ⟨by simpa [bJ] using H,h.size,rfl,fun j hj=>by omega⟩
 | succ i ih =>
  intro hi
  obtain ⟨w1,s1,f1,y1⟩:=ih (by omega)
  obtain ⟨o,d,ho,hd,hsz,_,hp⟩:=eZ (h.q i (by omega))
  have e:L.drop i=o :: L.drop (i+1):=by
   rw [List.drop_eq_getElem_cons (by omega)]
   congr 1
   have:=hL i (by omega)
   rw [List.getElem?_eq_getElem (by omega),ho] at this
   exact Option.some.inj this
  rw [e] at w1
  unfold wpQuiet at w1
  have w2:∃ v,Yl P ops (bJ ops a A i) (Gr V) V o v∧wpQuiet P ops (Gr V) (fun a'=>a'=A) (L.drop (i+1)) ((bJ ops a A i).put o.dst v):=by
   split at w1
   ·next hw =>
    obtain ⟨v,hv,hn⟩:=w1
    exact ⟨v,.inl ⟨hw,hv V (Gr.self V)⟩,hn⟩
   ·next hw=>exact ⟨undef,.inr ⟨by simpa using hw,rfl⟩,w1⟩
  obtain ⟨v,hv,hn⟩:=w2
  rw [hd] at hn
  have hA:A.tmps[d]?=some v:=by
   rw [ju _ _ ?_ hn,dp (by rw [s1];exact hsz)]
   intro o' ho'
   obtain ⟨k,hk,hk2⟩:=List.mem_iff_getElem.1 ho'
   rw [List.getElem_drop] at hk2
   have hk':i+1+k<m:=by rw [List.length_drop] at hk;omega
   obtain ⟨oj,hoj,hne,_⟩:=hp (i+1+k) (by have:=h.mn;omega) (by omega)
   have e1:=hL (i+1+k) hk'
   rw [List.getElem?_eq_getElem (by omega),hoj] at e1
   rw [←hk2,Option.some.inj e1]
   exact hne
  have hv':A.tmps.getD d undef=v:=by simp [hA]
  have e2:bJ ops a A (i+1)=(bJ ops a A i).put (some d) v:=by
   show (bJ ops a A i).put ((ops[i]?).bind (·.dst)) (A.tmps.getD (((ops[i]?).bind (·.dst)).getD 0) undef)=_
   rw [ho];simp only [Option.bind_some,hd,Option.getD_some,hv']
  rw [e2]
  refine ⟨hn,by rw [jT];exact s1,f1,fun j hj=>?_⟩
  by_cases hji:j=i
  ·subst hji
   exact ⟨o,d,ho,hd,by rw [hv'];exact hv⟩
  ·exact y1 j (by omega)
theorem Hd.last (h:Hd P ops m n sz a A D):bJ ops a A m=A:=by
 obtain ⟨V0,hV0⟩:=h.ex0
 obtain ⟨L,hlen,hL,H⟩:=h.walk V0 hV0
 have:=(h.lex hlen hL H m (Nat.le_refl _)).1
 rw [List.drop_of_length_le (by omega)] at this
 exact this
theorem Hd.facts (h:Hd P ops m n sz a A D):∀ i,i≤m→(bJ ops a A i).tmps.size=sz∧(bJ ops a A i).defers=a.defers:=by
 intro i hi
 obtain ⟨V0,hV0⟩:=h.ex0
 obtain ⟨L,hlen,hL,H⟩:=h.walk V0 hV0
 have:=h.lex hlen hL H i hi
 exact ⟨this.2.1,this.2.2.1⟩
theorem Hd.yields (h:Hd P ops m n sz a A D) {V:World} (hV:D V) {i:Nat} (hi:i<m) :
  ∃ o d,ops[i]?=some o∧o.dst=some d∧Yl P ops (bJ ops a A i) (Gr V) V o (A.tmps.getD d undef):=by
 obtain ⟨L,hlen,hL,H⟩:=h.walk V hV
 exact (h.lex hlen hL H m (Nat.le_refl _)).2.2.2 i hi
theorem Hd.tmps (h:Hd P ops m n sz a A D):∀ i,i≤m→(∀ t,(∀ j o,j<i→ops[j]?=some o→o.dst≠some t)→(bJ ops a A i).tmps[t]?=a.tmps[t]?) ∧
  (∀ j o d,j<i→ops[j]?=some o→o.dst=some d→(bJ ops a A i).tmps[d]?=some (A.tmps.getD d undef)):=by
 intro i
 induction i with
 | zero=>intro _;exact ⟨fun t _=>rfl,fun j _ _ hj=>by omega⟩
 | succ i ih =>
  intro hi
  obtain ⟨i1,i2⟩:=ih (by omega)
  obtain ⟨o,d,ho,hd,hsz,_,hp⟩:=eZ (h.q i (by omega))
  have s1:=(h.facts i (by omega)).1
  have e2:bJ ops a A (i+1)=(bJ ops a A i).put (some d) (A.tmps.getD d undef):=by
   show (bJ ops a A i).put ((ops[i]?).bind (·.dst)) (A.tmps.getD (((ops[i]?).bind (·.dst)).getD 0) undef)=_
   rw [ho];simp only [Option.bind_some,hd,Option.getD_some]
  rw [e2]
  refine ⟨fun t ht=>?_,fun j o' d' hj ho' hd'=>?_⟩
  ·have:d≠t:=fun e=>ht i o (by omega) ho (by rw [hd,e])
   rw [bQ this]
   exact i1 t fun j o' hj=>ht j o' (by omega)
  ·by_cases hji:j=i
   ·subst hji
    obtain rfl:o'=o:=Option.some.inj (ho'.symm.trans ho)
    obtain rfl:d'=d:=Option.some.inj (hd'.symm.trans hd)
    exact dp (by rw [s1];exact hsz)
   ·obtain ⟨oj,hoj,hne,_⟩:=hp j (by have:=h.mn;omega) hji
    obtain rfl:o'=oj:=Option.some.inj (ho'.symm.trans hoj)
    have:d≠d':=fun e=>hne (by rw [hd',e])
    rw [bQ this]
    exact i2 j o' d' (by omega) ho' hd'
structure Stq (ops:Array Oper) (m n:Nat) (a A:Act) (listed:Array Bool) (pv:Nat→Value) (b:Act):Prop where
 size:b.tmps.size=a.tmps.size
 defers:b.defers=a.defers
 q:∀ j o d,j<m→ops[j]?=some o→o.dst=some d→b.tmps[d]?=if listed.getD j false then some (A.tmps.getD d undef) else a.tmps[d]?
 k:∀ j o d,m≤j→j<n→ops[j]?=some o→o.dst=some d→b.tmps[d]?=if listed.getD j false then some (pv j) else a.tmps[d]?
 r:∀ t,(∀ j o,j<n→ops[j]?=some o→o.dst≠some t)→b.tmps[t]?=a.tmps[t]?
theorem jk {listed:Array Bool} {i:Nat} (h:i<listed.size):(listed.setIfInBounds i true).getD i false=true:=by
 simp [h]
theorem Hd.at (h:Hd P ops m n sz a A D) (hsel:∀ (j:Nat) (o:Oper) cs b,ops[j]?=some o→o.op≠.select cs b)
  {listed:Array Bool} {p:Nat→Value} {b:Act} (st:Stq ops m n a A listed p b) {i:Nat} (hi:i<m) (hr:i∈Region.ready .any ops listed) {V:World} (hV:D V) :
  ∃ o d,ops[i]?=some o∧o.dst=some d∧d<sz∧(∀ j,j<n→j≠i→∀ oj,ops[j]?=some oj→oj.dst≠some d)∧Region.wanted o (yielded ops b.tmps)=Region.wanted o (yielded ops (bJ ops a A i).tmps)∧Yl P ops b (Gr V) V o (A.tmps.getD d undef):=by
 obtain ⟨o,d,ho,hd,hy⟩:=h.yields hV hi
 obtain ⟨o',d',ho',hd',hsz,hlt,hp⟩:=eZ (h.q i hi)
 obtain rfl:o'=o:=Option.some.inj (ho'.symm.trans ho)
 obtain rfl:d'=d:=Option.some.inj (hd'.symm.trans hd)
 suffices key:∀ t,t∈o'.looksAt ops→b.tmps[t]?=(bJ ops a A i).tmps[t]? by
  have same:execOp b.eval o'=execOp (bJ ops a A i).eval o':=by
   refine execOp_congr o' (fun cs b=>hsel i o' cs b ho) fun x hx=>?_
   cases x with
   | tmp t =>
    have k:=key t (List.mem_append_left _ (List.mem_filterMap.2 ⟨.tmp t,by simpa using hx,rfl⟩))
    show b.tmps.getD t undef=(bJ ops a A i).tmps.getD t undef
    simp only [Array.getD_eq_getD_getElem?,k]
   | _=>rfl
  have wsame:Region.wanted o' (yielded ops b.tmps)=Region.wanted o' (yielded ops (bJ ops a A i).tmps):=by
   unfold Region.wanted
   cases hgd:o'.guard with
   | none=>rfl
   | some gj =>
    obtain ⟨jj,want⟩:=gj
    simp only
    unfold yielded
    cases hdj:(ops[jj]?).bind (·.dst) with
    | none=>rfl
    | some t=>simp only [Option.bind_some,key t (by simp [Oper.looksAt,hgd,hdj])]
  refine ⟨o',d',ho,hd,hsz,fun j hj hji oj hoj=>?_,wsame,?_⟩
  ·obtain ⟨o2,h2,h3,_⟩:=hp j hj hji
   obtain rfl:oj=o2:=Option.some.inj (hoj.symm.trans h2)
   exact h3
  ·unfold Yl Oper.quietAt at *
   rw [same,wsame];exact hy
 obtain ⟨t1,t2⟩:=h.tmps i (by omega)
 intro t look
 have waits:∀ j,j<n→j≠i→(∃ oj,ops[j]?=some oj∧oj.dst=some t)→j<i∧listed.getD j false=true:=by
  intro j hj hji ⟨oj,hoj,hdj⟩
  obtain ⟨o2,h2,_,h4⟩:=hp j hj hji
  obtain rfl:oj=o2:=Option.some.inj (hoj.symm.trans h2)
  obtain ⟨o3,h3,e,he,hb,hon⟩:=Region.waitsFor_spec (h4 t hdj look)
  obtain rfl:o3=o':=Option.some.inj (h3.symm.trans ho)
  obtain ⟨_,o4,h5,hall⟩:=mem_ready.1 hr
  obtain rfl:o4=o3:=Option.some.inj (h5.symm.trans h3)
  have h6:=hlt e he hb
  have h7:=hall e he hb
  rw [hon] at h6 h7
  exact ⟨h6,h7⟩
 by_cases hex:∃ j oj,j<m∧ops[j]?=some oj∧oj.dst=some t
 ·obtain ⟨j,oj,hj,hoj,hdj⟩:=hex
  by_cases hji:j=i
  ·-- its own slot: not yet written on either side
   subst hji
   obtain rfl:oj=o':=Option.some.inj (hoj.symm.trans ho)
   have hun:listed.getD j false=false:=getD_both (mem_ready.1 hr).1
   rw [st.q j oj t hj hoj hdj,hun]
   simp only [Bool.false_eq_true,if_false]
   rw [t1 t]
   intro k ok hk hok hdk
   obtain ⟨o2,h2,h3,_⟩:=hp k (by have:=h.mn;omega) (by omega)
   obtain rfl:ok=o2:=Option.some.inj (hok.symm.trans h2)
   rw [hd] at hdj
   exact h3 (by rw [hdk,←hdj])
  ·obtain ⟨hlt',hl⟩:=waits j (by have:=h.mn;omega) hji ⟨oj,hoj,hdj⟩
   rw [st.q j oj t hj hoj hdj,hl,t2 j oj t hlt' hoj hdj];rfl
 ·have hno:∀ j o,j<m→ops[j]?=some o→o.dst≠some t:=fun j o hj ho hd=>hex ⟨j,o,hj,ho,hd⟩
  by_cases ht:∃ j oj,m≤j∧j<n∧ops[j]?=some oj∧oj.dst=some t
  ·obtain ⟨j,oj,hj1,hj2,hoj,hdj⟩:=ht
   obtain ⟨hlt',_⟩:=waits j hj2 (by omega) ⟨oj,hoj,hdj⟩
   omega
  ·rw [st.r t fun j o hj ho hd=>?_,t1 t fun j o hj=>hno j o (by omega)]
   by_cases hjm:j<m
   ·exact hno j o hjm ho hd
   ·exact ht ⟨j,o,by omega,hj,ho,hd⟩
theorem Stq.setQ {listed:Array Bool} {p:Nat→Value} {b:Act} (st:Stq ops m n a A listed p b) {i d:Nat} {o:Oper} (hmn:m≤n) (hi:i<m) (ho:ops[i]?=some o) (hd:o.dst=some d) (hsz:d<a.tmps.size)
  (hl:i<listed.size) (hp:∀ j,j<n→j≠i→∀ oj,ops[j]?=some oj→oj.dst≠some d) :
  Stq ops m n a A (listed.setIfInBounds i true) p (b.put (some d) (A.tmps.getD d undef)):=by
 refine ⟨by rw [jT];exact st.size,st.defers,fun j oj dj hj hoj hdj=>?_,fun j oj dj hj1 hj2 hoj hdj=>?_,fun t ht=>?_⟩
 ·by_cases hji:j=i
  ·subst hji
   obtain rfl:oj=o:=Option.some.inj (hoj.symm.trans ho)
   obtain rfl:dj=d:=Option.some.inj (hdj.symm.trans hd)
   rw [dp (by rw [st.size];exact hsz),jk hl];rfl
  ·have:d≠dj:=fun e=>hp j (by omega) hji oj hoj (by rw [hdj,e])
   rw [bQ this,getD_set_ne false (Ne.symm hji)]
   exact st.q j oj dj hj hoj hdj
 ·have:d≠dj:=fun e=>hp j hj2 (by omega) oj hoj (by rw [hdj,e])
  rw [bQ this,getD_set_ne false (by omega)]
  exact st.k j oj dj hj1 hj2 hoj hdj
 ·have:d≠t:=fun e=>ht i o (by omega) ho (by rw [hd,e])
  rw [bQ this];exact st.r t ht
theorem Stq.setA {listed:Array Bool} {p:Nat→Value} {v:Value} {b:Act} (st:Stq ops m n a A listed p b) {i d:Nat} {o:Oper} (h1:m≤i) (h2:i<n) (ho:ops[i]?=some o) (hd:o.dst=some d) (hsz:d<a.tmps.size)
  (hl:i<listed.size) (hp:∀ j,j<n→j≠i→∃ oj,ops[j]?=some oj∧oj.dst≠some d):Stq ops m n a A (listed.setIfInBounds i true) (fun j=>if j=i then v else p j) (b.put (some d) v):=by
 refine ⟨by rw [jT];exact st.size,st.defers,fun j oj dj hj hoj hdj=>?_,fun j oj dj hj1 hj2 hoj hdj=>?_,fun t ht=>?_⟩
 ·obtain ⟨o2,ho2,hne⟩:=hp j (by omega) (by omega)
  obtain rfl:oj=o2:=Option.some.inj (hoj.symm.trans ho2)
  have:d≠dj:=fun e=>hne (by rw [hdj,e])
  rw [bQ this,getD_set_ne false (by omega)]
  exact st.q j oj dj hj hoj hdj
 ·by_cases hji:j=i
  ·subst hji
   obtain rfl:oj=o:=Option.some.inj (hoj.symm.trans ho)
   obtain rfl:dj=d:=Option.some.inj (hdj.symm.trans hd)
   rw [dp (by rw [st.size];exact hsz),jk hl];simp
  ·obtain ⟨o2,ho2,hne⟩:=hp j hj2 hji
   obtain rfl:oj=o2:=Option.some.inj (hoj.symm.trans ho2)
   have:d≠dj:=fun e=>hne (by rw [hdj,e])
   rw [bQ this,getD_set_ne false (Ne.symm hji),if_neg hji]
   exact st.k j oj dj hj1 hj2 hoj hdj
 ·have:d≠t:=fun e=>ht i o h2 ho (by rw [hd,e])
  rw [bQ this];exact st.r t ht
theorem xd:∀ U:List Nat,U≠[]→∃ j,j∈U∧∀ k,k∈U→j≤k
 | [],h=>absurd rfl h
 | [x],_=>⟨x,by simp,fun k hk=>by simp at hk;omega⟩
 | x :: y :: U,_=>by
  obtain ⟨j,hj,hm⟩:=xd (y :: U) (by simp)
  by_cases h:x≤j
  ·refine ⟨x,by simp,fun k hk=>?_⟩
   rcases List.mem_cons.1 hk with rfl|hk
   ·exact Nat.le_refl _
   ·exact Nat.le_trans h (hm k hk)
  ·refine ⟨j,List.mem_cons_of_mem _ hj,fun k hk=>?_⟩
   rcases List.mem_cons.1 hk with rfl|hk
   ·omega
   ·exact hm k hk
theorem Gr.trans {V w w':World} (h:Gr V w) (h':Gr w w'):Gr V w':=regrown_of_below (h.below.trans (h'.below.mono h.below.size))
def qp (W:World) (z:Obj) (v:Value) (w':World):Prop:=∃ V,Below W.heap.size W V∧v = .pointer (some ⟨V.heap.size,0,none⟩)∧Below (V.alloc z).heap.size (V.alloc z) w'
theorem qp.keep {w' w'':World} {z:Obj} {v:Value} (h:qp W z v w') (hb:Below w'.heap.size w' w''):qp W z v w'':=by
 obtain ⟨V,hV,e,hVw⟩:=h
 exact ⟨V,hV,e,hVw.trans (hb.mono hVw.size)⟩
theorem lV {listed:Array Bool} (inv:HeadInv .any ops n listed) (hall:∀ j,j<n→listed.getD j false=true):listed=cr ops.size n:=by
 apply Array.ext
 ·simp [cr,inv.size]
 ·intro j h1 h2
  have hj:j<ops.size:=by rw [←inv.size];exact h1
  have e1:(cr ops.size n)[j]=decide (j<n):=by simp [cr]
  rw [e1]
  by_cases hjm:j<n
  ·have:=hall j hjm
   simp [h1] at this
   rw [this];simp [hjm]
  ·have:=inv.tail j (by omega) hj
   simp [h1] at this
   rw [this];simp [hjm]
theorem Hd.run (h:Hd P ops m n sz a A (Below W.heap.size W)) {Q':Exit→Act→World→Prop} {z:Obj} (hsel:∀ (j:Nat) (o:Oper) cs b,ops[j]?=some o→o.op≠.select cs b)
  (hn:n<ops.size) (hs:Region.sinkB .any ops n=true) (hc:Region.chainB .any ops n=true) (hseq:Region.seqB .any ops (ops.size-n) n (cr ops.size n)=true)
  (hA:∀ k o,m≤k→k<n→ops[k]?=some o→∀ ρ w,(execOp ρ o).run P w = .ok (.value (.pointer (some ⟨w.heap.size,0,none⟩))) (w.alloc z))
  {tl:List Oper} (htl:∀ j,tl[j]?=ops[n+j]?) (hlen:tl.length=ops.size-n)
  (T:∀ b (p:Nat→Value) w',Stq ops m n a A (cr ops.size n) p b→(∀ k,m≤k→k<n→qp W z (p k) w')→(∀ k k',m≤k→k<n→m≤k'→k'<n→k≠k'→p k≠p k')→Below W.heap.size W w'→wpList P ops Q' tl b w') :
  ∀ (f:Nat) (U:List Nat) (listed:Array Bool) (b:Act) (w':World) (p:Nat→Value),U.length=f→U.Nodup→(∀ j,j∈U→j<n)→(∀ j,j<n→(listed.getD j true=false↔j∈U)) →
   HeadInv .any ops n listed→Stq ops m n a A listed p b→Below W.heap.size W w' →
   (∀ k,m≤k→k<n→k ∉ U→qp W z (p k) w')→(∀ k k',m≤k→k<n→m≤k'→k'<n→k ∉ U→k' ∉ U→k≠k'→p k≠p k')→wpAny P .any ops Q' (f+tl.length) listed b w':=by
 intro f
 induction f with
 | zero =>
  intro U listed b w' p hU _ _ hmem inv st hw hp hdis
  have hU0:U=[]:=List.length_eq_zero_iff.1 hU
  subst hU0
  have hall:∀ j,j<n→listed.getD j false=true:=fun j hj=>by
   have h1:¬listed.getD j true=false:=fun h=>by have:=(hmem j hj).1 h;cases this
   cases hv:listed.getD j false with
   | true=>rfl
   | false=>exact absurd (getD_in (by rw [inv.size];omega) hv) h1
  have el:=lV inv hall
  subst el
  rw [Nat.zero_add]
  exact wpAny_of_seq tl n _ _ _ htl (by rw [hlen];exact hseq) (T b p w' st (fun k h1 h2=>hp k h1 h2 (by simp)) (fun k k' a1 a2 a3 a4=>hdis k k' a1 a2 a3 a4 (by simp) (by simp)) hw)
 | succ f ih =>
  intro U listed b w' p hU hnd hlt hmem inv st hw hp hdis
  obtain ⟨j0,hj0,hmin⟩:=xd U (fun e=>by rw [e] at hU;cases hU)
  have hj0m:=hlt j0 hj0
  have hr0:j0∈Region.ready .any ops listed:=by
   rw [mem_ready]
   refine ⟨(hmem j0 hj0m).2 hj0,?_⟩
   have lst:∀ k,k<j0→listed.getD k false=true:=fun k hk=>by
    cases hv:listed.getD k false with
    | true=>rfl
    | false =>
     have:=hmin k ((hmem k (by omega)).1 (getD_in (by rw [inv.size];omega) hv))
     omega
   by_cases hjm:j0<m
   ·obtain ⟨o,d,ho,_,_,hl,_⟩:=eZ (h.q j0 hjm)
    exact ⟨o,ho,fun e he hb=>lst _ (hl e he hb)⟩
   ·obtain ⟨o,d,ho,_,_,ha,_,_⟩:=cu h.z (by omega) hj0m
    exact ⟨o,ho,fun e he=>by rw [ha] at he;simp at he⟩
  have only:=iU hs hc hn inv hj0m hr0
  rw [show f+1+tl.length=(f+tl.length)+1 by omega]
  refine ⟨fun h0=>absurd h0 (List.ne_nil_of_mem hr0),fun i hi=>?_⟩
  have him:=only i hi
  have hiU:i∈U:=(hmem i him).1 (mem_ready.1 hi).1
  have hisz:i<listed.size:=by rw [inv.size];omega
  have hU':(U.erase i).length=f:=by rw [List.length_erase_of_mem hiU,hU];rfl
  have hmem':∀ j,j<n→((listed.setIfInBounds i true).getD j true=false↔j∈U.erase i):=fun j hj=>by
   rw [hnd.mem_erase_iff]
   by_cases hji:j=i
   ·subst hji
    simp [hisz]
   ·rw [getD_set_ne true (Ne.symm hji)]
    simp only [hji,ne_eq,not_false_eq_true,true_and]
    exact hmem j hj
  have hlt':∀ j,j∈U.erase i→j<n:=fun j hj=>hlt j (List.mem_of_mem_erase hj)
  have hback:∀ k,k≠i→k ∉ U.erase i→k ∉ U:=fun k hk hx hU=>hx ((hnd.mem_erase_iff).2 ⟨hk,hU⟩)
  have inv':=inv.set hi him
  unfold wpOp
  by_cases hie:i<m
  ·obtain ⟨o,d,ho,hd,hsz,hpp,_,hyl⟩:=h.at hsel st hie hi hw
   rw [ho]
   simp only
   have go:∀ w'',Gr w' w''→wpAny P .any ops Q' (f+tl.length) (listed.setIfInBounds i true) (b.put (some d) (A.tmps.getD d undef)) w'':=fun w'' hg'=>by
    have hb:=hg'.below
    exact ih (U.erase i) _ _ _ p hU' (hnd.erase i) hlt' hmem' inv' (st.setQ h.mn hie ho hd (by rw [h.size];exact hsz) hisz hpp) (hw.trans (hb.mono hw.size))
     (fun k h1 h2 hk=>(hp k h1 h2 (hback k (by omega) hk)).keep hb) (fun k k' a1 a2 a3 a4 a5 a6=>hdis k k' a1 a2 a3 a4 (hback k (by omega) a5) (hback k' (by omega) a6))
   rcases hyl with ⟨hwt,_⟩|⟨hwt,hund⟩
   ·rw [if_pos hwt]
    refine .inl (Oper.wp_of_quiet (C:=Gr w') (K:=fun b'=>b'=b.put (some d) (A.tmps.getD d undef)) (Gr.self w') (fun b' w'' hg' e=>by rw [e];exact go w'' hg') ⟨A.tmps.getD d undef,fun V hV=>?_,by rw [hd]⟩)
    obtain ⟨o2,d2,ho2,hd2,_,_,_,hy⟩:=h.at hsel st hie hi (hw.trans (hV.below.mono hw.size))
    obtain rfl:o2=o:=Option.some.inj (ho2.symm.trans ho)
    obtain rfl:d2=d:=Option.some.inj (hd2.symm.trans hd)
    rcases hy with ⟨_,hy⟩|⟨hw2,_⟩
    ·exact jS (fun x hx=>hV.trans hx) hy
    ·rw [hwt] at hw2;cases hw2
   ·rw [if_neg (by rw [hwt];exact Bool.false_ne_true),hd,←hund]
    exact go w' (Gr.self w')
  ·obtain ⟨o,d,ho,hd,hg,_,hsz,hpp⟩:=cu h.z (show m≤i by omega) him
   rw [ho]
   simp only
   rw [if_pos (by unfold Region.wanted;rw [hg])]
   refine .inl ?_
   unfold Oper.wp
   rw [hA i o (by omega) him ho,Oper.upon_value,hd]
   have grew:Below w'.heap.size w' (w'.alloc z):=(Below.refl _ _).alloc (Nat.le_refl _) z
   have far:∀ k,m≤k→k<n→k ∉ U→p k≠.pointer (some ⟨w'.heap.size,0,none⟩):=fun k h1 h2 hk=>by
    obtain ⟨V,_,e,hVw⟩:=hp k h1 h2 hk
    rw [e]
    intro e'
    have e2:V.heap.size=w'.heap.size:=by simpa using e'
    have:=hVw.size
    simp at this
    omega
   refine ih (U.erase i) _ _ _ (fun j=>if j=i then .pointer (some ⟨w'.heap.size,0,none⟩) else p j) hU' (hnd.erase i) hlt' hmem' inv' (st.setA (by omega) him ho hd (by rw [h.size];exact hsz) hisz hpp) (hw.alloc hw.size _) ?_ ?_
   ·intro k h1 h2 hk
    by_cases hki:k=i
    ·simp only [hki,if_true];exact ⟨w',hw,rfl,Below.refl _ _⟩
    ·simp only [hki,if_false];exact (hp k h1 h2 (hback k hki hk)).keep grew
   ·intro k k' a1 a2 a3 a4 a5 a6 a7
    by_cases hki:k=i
    ·have hk':k'≠i:=fun e=>a7 (by rw [hki,e])
     simp only [hki,hk',if_true,if_false]
     exact (far k' a3 a4 (hback k' hk' a6)).symm
    ·by_cases hk':k'=i
     ·simp only [hki,hk',if_true,if_false]
      exact far k a1 a2 (hback k hki a5)
     ·simp only [hki,hk',if_false]
      exact hdis k k' a1 a2 a3 a4 (hback k hki a5) (hback k' hk' a6) a7
theorem r9 {w V:World} (h:Below w.drew.heap.size w.drew V):Below w.heap.size w V:=⟨h.os,h.tape,h.output,h.size,fun k hk=>h.block k hk⟩
theorem lW {id:Nat} {Q:Exit→Act→World→Prop} {a A:Act} {w:World} {l:List Oper} (m n:Nat) {z:Obj} (hm:P.follows .mixedOrders=true) (hB:fV l.toArray m n a.tmps.size=true)
  (hA:∀ k o,m≤k→k<n→l.toArray[k]?=some o→∀ ρ w,(execOp ρ o).run P w = .ok (.value (.pointer (some ⟨w.heap.size,0,none⟩))) (w.alloc z))
  (H:∀ V,Below w.heap.size w V→wpQuiet P l.toArray (Gr V) (fun a'=>a'=A) (l.take m) a)
  (T:∀ b (p:Nat→Value) w',Hd P l.toArray m n a.tmps.size a A (Below w.drew.heap.size w.drew)→Stq l.toArray m n a A (cr l.toArray.size n) p b→(∀ k,m≤k→k<n→qp w.drew z (p k) w')→(∀ k k',m≤k→k<n→m≤k'→k'<n→k≠k'→p k≠p k')→wpList P l.toArray Q (l.drop n) b w') :
  (Code.region id l.toArray true).wp P Q a w:=by
 unfold fV at hB
 simp only [Bool.and_eq_true,decide_eq_true_eq] at hB
 obtain ⟨⟨⟨⟨⟨⟨⟨hsel,hn⟩,hs⟩,hc⟩,hseq⟩,hq⟩,hz⟩,hmn⟩:=hB
 have hn':n<l.length:=by simpa using hn
 refine wp_region_any hm ?_
 have hd:Hd P l.toArray m n a.tmps.size a A (Below w.drew.heap.size w.drew) :=
  ⟨Nat.le_of_lt hmn,⟨w.drew,Below.refl _ _⟩,fun i hi=>List.all_eq_true.1 hq i (List.mem_range.2 hi),hz,rfl,fun V hV=>⟨l.take m,by simp;omega,fun i hi=>by simp [hi],H V (r9 hV)⟩⟩
 have:=hd.run (Q':=Q) (z:=z) (Region.noSelect_spec hsel) hn hs hc hseq hA (tl:=l.drop n) (fun j=>by simp [List.getElem?_drop]) (by simp) (fun b p w' st h1 h2 _=>T b p w' hd st h1 h2)
  n (List.range n) (Array.replicate l.toArray.size false) a w.drew (fun _=>undef) (by simp) List.nodup_range (fun j hj=>List.mem_range.1 hj)
  (fun j hj=>⟨fun _=>List.mem_range.2 hj,fun _=>getD_in (by simp;omega) (getD_replicate_false _ _)⟩) ⟨by simp,fun j oj _ hl=>(by rw [getD_replicate_false] at hl;cases hl),fun t _ ht=>getD_in (by simpa using ht) (getD_replicate_false _ _)⟩
  ⟨rfl,rfl,fun j o d _ _ _=>(by rw [getD_replicate_false];rfl),fun j o d _ _ _ _=>(by rw [getD_replicate_false];rfl),fun t _=>rfl⟩ (Below.refl _ _) (fun k _ h2 h3=>absurd (List.mem_range.2 h2) h3) (fun k _ _ h2 _ _ h3 _=>absurd (List.mem_range.2 h2) h3)
 rw [show n+(l.drop n).length=l.toArray.size by simp;omega] at this
 exact this
theorem iq {sz k:Nat} (h:k<n) (hs:n≤sz):(cr sz n).getD k false=true:=by
 have:k<sz:=by omega
 simp [cr,this,h]
theorem Stq.one {p:Nat→Value} {b:Act} (h:Hd P ops m (m+1) sz a A D) (hn:m+1<ops.size) (st:Stq ops m (m+1) a A (cr ops.size (m+1)) p b) {o:Oper} {d:Nat} (ho:ops[m]?=some o) (hd:o.dst=some d) :
  b=A.put (some d) (p m):=by
 obtain ⟨s1,f1⟩:=h.facts m (Nat.le_refl _)
 obtain ⟨t1,t2⟩:=h.tmps m (Nat.le_refl _)
 rw [h.last] at s1 f1 t1 t2
 obtain ⟨o',d',ho',hd',_,_,hsz,_⟩:=cu h.z (Nat.le_refl m) (by omega)
 obtain rfl:o'=o:=Option.some.inj (ho'.symm.trans ho)
 obtain rfl:d'=d:=Option.some.inj (hd'.symm.trans hd)
 have ht:b.tmps=(A.put (some d') (p m)).tmps:=by
  apply Array.ext'
  apply List.ext_getElem?
  intro t
  rw [Array.getElem?_toList,Array.getElem?_toList]
  by_cases htd:t=d'
  ·subst htd
   rw [st.k m o' t (Nat.le_refl _) (by omega) ho hd,iq (by omega) (by omega),dp (by rw [s1];exact hsz)];rfl
  ·rw [bQ (Ne.symm htd)]
   by_cases hex:∃ j oj,j<m∧ops[j]?=some oj∧oj.dst=some t
   ·obtain ⟨j,oj,hj,hoj,hdj⟩:=hex
    rw [st.q j oj t hj hoj hdj,iq (by omega) (by omega),t2 j oj t hj hoj hdj];rfl
   ·have hno:∀ j o,j<m→ops[j]?=some o→o.dst≠some t:=fun j o hj ho hd=>hex ⟨j,o,hj,ho,hd⟩
    rw [st.r t,t1 t hno]
    intro j oj hj hoj hdj
    by_cases hjm:j<m
    ·exact hno j oj hjm hoj hdj
    ·obtain rfl:j=m:=by omega
     obtain rfl:oj=o':=Option.some.inj (hoj.symm.trans ho)
     exact htd (Option.some.inj (hdj.symm.trans hd))
 cases b with
 | mk bt bd =>
  have hd:bd=a.defers:=st.defers
  have ht':bt=(A.put (some d') (p m)).tmps:=ht
  rw [hd,ht',←f1];rfl
theorem Stq.two {p:Nat→Value} {b:Act} (h:Hd P ops m (m+2) sz a A D) (hn:m+2<ops.size) (st:Stq ops m (m+2) a A (cr ops.size (m+2)) p b) {o o2:Oper} {d d2:Nat} (ho:ops[m]?=some o) (hd:o.dst=some d)
  (ho2:ops[m+1]?=some o2) (hd2:o2.dst=some d2):b=(A.put (some d) (p m)).put (some d2) (p (m+1)):=by
 obtain ⟨s1,f1⟩:=h.facts m (Nat.le_refl _)
 obtain ⟨t1,t2⟩:=h.tmps m (Nat.le_refl _)
 rw [h.last] at s1 f1 t1 t2
 obtain ⟨o',d',ho',hd',_,_,hsz,hpp⟩:=cu h.z (Nat.le_refl m) (by omega)
 obtain rfl:o'=o:=Option.some.inj (ho'.symm.trans ho)
 obtain rfl:d'=d:=Option.some.inj (hd'.symm.trans hd)
 obtain ⟨o3,d3,ho3,hd3,_,_,hsz2,_⟩:=cu h.z (k:=m+1) (by omega) (by omega)
 obtain rfl:o3=o2:=Option.some.inj (ho3.symm.trans ho2)
 obtain rfl:d3=d2:=Option.some.inj (hd3.symm.trans hd2)
 have hne:d3≠d':=fun e=>by
  obtain ⟨oj,hoj,hx⟩:=hpp (m+1) (by omega) (by omega)
  obtain rfl:oj=o3:=Option.some.inj (hoj.symm.trans ho2)
  exact hx (by rw [hd2,e])
 have ht:b.tmps=((A.put (some d') (p m)).put (some d3) (p (m+1))).tmps:=by
  apply Array.ext'
  apply List.ext_getElem?
  intro t
  rw [Array.getElem?_toList,Array.getElem?_toList]
  by_cases ht2:t=d3
  ·subst ht2
   rw [st.k (m+1) o3 t (by omega) (by omega) ho2 hd2,iq (by omega) (by omega),dp (by rw [jT,s1];exact hsz2)];rfl
  ·rw [bQ (Ne.symm ht2)]
   by_cases htd:t=d'
   ·subst htd
    rw [st.k m o' t (Nat.le_refl _) (by omega) ho hd,iq (by omega) (by omega),dp (by rw [s1];exact hsz)];rfl
   ·rw [bQ (Ne.symm htd)]
    by_cases hex:∃ j oj,j<m∧ops[j]?=some oj∧oj.dst=some t
    ·obtain ⟨j,oj,hj,hoj,hdj⟩:=hex
     rw [st.q j oj t hj hoj hdj,iq (by omega) (by omega),t2 j oj t hj hoj hdj];rfl
    ·have hno:∀ j o,j<m→ops[j]?=some o→o.dst≠some t:=fun j o hj ho hd=>hex ⟨j,o,hj,ho,hd⟩
     rw [st.r t,t1 t hno]
     intro j oj hj hoj hdj
     by_cases hjm:j<m
     ·exact hno j oj hjm hoj hdj
     ·by_cases hj1:j=m
      ·subst hj1
       obtain rfl:oj=o':=Option.some.inj (hoj.symm.trans ho)
       exact htd (Option.some.inj (hdj.symm.trans hd))
      ·obtain rfl:j=m+1:=by omega
       obtain rfl:oj=o3:=Option.some.inj (hoj.symm.trans ho2)
       exact ht2 (Option.some.inj (hdj.symm.trans hd2))
 cases b with
 | mk bt bd =>
  have hd:bd=a.defers:=st.defers
  have ht':bt=((A.put (some d') (p m)).put (some d3) (p (m+1))).tmps:=ht
  rw [hd,ht',←f1];rfl
theorem gp {w w':World} {z:Obj} {v:Value} (h:qp w.drew z v w'):∃ V,v = .pointer (some ⟨V.heap.size,0,none⟩)∧Below w.heap.size w V∧Below (V.alloc z).heap.size (V.alloc z) w':=by
 obtain ⟨V,hV,e,hVw⟩:=h
 exact ⟨V,e,r9 hV,hVw⟩
theorem bS {id:Nat} {Q:Exit→Act→World→Prop} {a A:Act} {w:World} {l:List Oper} (m:Nat) {om:Oper} {dm:Nat} {z:Obj} (hm:P.follows .mixedOrders=true)
  (hB:fV l.toArray m (m+1) a.tmps.size=true) (hom:l.toArray[m]?=some om) (hdm:om.dst=some dm)
  (hA:∀ ρ w,(execOp ρ om).run P w = .ok (.value (.pointer (some ⟨w.heap.size,0,none⟩))) (w.alloc z))
  (H:∀ V,Below w.heap.size w V→wpQuiet P l.toArray (Gr V) (fun a'=>a'=A) (l.take m) a)
  (T:∀ V w',Below w.heap.size w V→Below (V.alloc z).heap.size (V.alloc z) w'→wpList P l.toArray Q (l.drop (m+1)) (A.put (some dm) (.pointer (some ⟨V.heap.size,0,none⟩))) w') :
  (Code.region id l.toArray true).wp P Q a w:=by
 have hn:m+1<l.toArray.size:=by unfold fV at hB;simp only [Bool.and_eq_true,decide_eq_true_eq] at hB;exact hB.1.1.1.1.1.1.2
 refine lW (z:=z) m (m+1) hm hB (fun k o h1 h2 ho=>?_) H fun b p w' hd st hmade _=>?_
 ·obtain rfl:k=m:=by omega
  obtain rfl:o=om:=Option.some.inj (ho.symm.trans hom)
  exact hA
 ·rw [st.one hd hn hom hdm]
  obtain ⟨V,e,hV,hVw⟩:=gp (hmade m (Nat.le_refl _) (by omega))
  rw [e]
  exact T V w' hV hVw
theorem fq {id:Nat} {Q:Exit→Act→World→Prop} {a A:Act} {w:World} {l:List Oper} (m:Nat) {om o2:Oper} {dm d2:Nat} {z:Obj} (hm:P.follows .mixedOrders=true)
  (hB:fV l.toArray m (m+2) a.tmps.size=true) (hom:l.toArray[m]?=some om) (hdm:om.dst=some dm) (ho2:l.toArray[m+1]?=some o2) (hd2:o2.dst=some d2)
  (hA:∀ ρ w,(execOp ρ om).run P w = .ok (.value (.pointer (some ⟨w.heap.size,0,none⟩))) (w.alloc z))
  (hA2:∀ ρ w,(execOp ρ o2).run P w = .ok (.value (.pointer (some ⟨w.heap.size,0,none⟩))) (w.alloc z))
  (H:∀ V,Below w.heap.size w V→wpQuiet P l.toArray (Gr V) (fun a'=>a'=A) (l.take m) a)
  (T:∀ V V2 w',Below w.heap.size w V→Below (V.alloc z).heap.size (V.alloc z) w'→Below w.heap.size w V2→Below (V2.alloc z).heap.size (V2.alloc z) w'→V.heap.size≠V2.heap.size →
   wpList P l.toArray Q (l.drop (m+2)) ((A.put (some dm) (.pointer (some ⟨V.heap.size,0,none⟩))).put (some d2) (.pointer (some ⟨V2.heap.size,0,none⟩))) w') :
  (Code.region id l.toArray true).wp P Q a w:=by
 have hn:m+2<l.toArray.size:=by unfold fV at hB;simp only [Bool.and_eq_true,decide_eq_true_eq] at hB;exact hB.1.1.1.1.1.1.2
 refine lW (z:=z) m (m+2) hm hB (fun k o h1 h2 ho=>?_) H fun b p w' hd st hmade hdis=>?_
 ·by_cases hk:k=m
  ·subst hk
   obtain rfl:o=om:=Option.some.inj (ho.symm.trans hom)
   exact hA
  ·obtain rfl:k=m+1:=by omega
   obtain rfl:o=o2:=Option.some.inj (ho.symm.trans ho2)
   exact hA2
 ·rw [st.two hd hn hom hdm ho2 hd2]
  obtain ⟨V,e,hV,hVw⟩:=gp (hmade m (Nat.le_refl _) (by omega))
  obtain ⟨V2,e2,hV2,hVw2⟩:=gp (hmade (m+1) (by omega) (by omega))
  have hx:=hdis m (m+1) (Nat.le_refl _) (by omega) (by omega) (by omega) (by omega)
  rw [e,e2] at hx ⊢
  exact T V V2 w' hV hVw hV2 hVw2 fun e=>hx (by rw [e])
end
end
theorem au {W V w1:World} {z:Obj} (hV:Below W.heap.size W V) (hw:Below (V.alloc z).heap.size (V.alloc z) w1):Below W.heap.size W w1 :=
 (hV.alloc hV.size z).trans (hw.mono (by have:=hV.size;simp;omega))
theorem bE (dst:Option Tmp) (pos:String) (ty:TypeId) (ρ:Operand→Value) (w:World):(execOp ρ { dst:=dst,op:=Op.alloc 24,type:=ty,pos:=pos,after:=#[],guard:=none }).run Tryz.prog w = .ok (.value (.pointer (some ⟨w.heap.size,0,none⟩))) (w.alloc (.cells #[.int .u64 0,.int .u64 0,.int .u64 0,.int .u64 0] 24)):=by
 simp [execOp,go_sem]
theorem af.has {W:World} {b:Nat} (h:af W b):Has W b 4:=fun i hi=>by rw [h.1 i (by simpa using hi)];rfl
open Go.RowKit Go.Sort
section
variable {P:Program} {Q:Exit→Act→World→Prop} {md:Region.Mode}
def e8 (q:Nat) (o:Oper):Oper:={ o with after:=o.after.push { on:=q,ground:=.data } }
def cS (o:Oper):Oper:={ o with after:=#[] }
theorem fu (o:Oper) (y:Nat→Option Bool):Region.wanted (cS o) y=Region.wanted o y:=rfl
theorem mB (o:Oper) (a:Act) (w:World) (K:Act→World→Prop):Oper.wp P (cS o) a w K Q=Oper.wp P o a w K Q:=rfl
theorem iY (o:Oper) (a:Act) (w:World):Oper.asks P (cS o) a w=Oper.asks P o a w:=rfl
theorem gu {ops ops':Array Oper} (h:∀ j:Nat,(ops[j]?).map cS=(ops'[j]?).map cS) (tmps:Array Value):yielded ops tmps=yielded ops' tmps:=by
 funext j
 have:=congrArg (fun o=>Option.bind o (·.dst)) (h j)
 simp only [Option.bind_map] at this
 have e:∀ o:Option Oper,(o.bind ((fun x=>x.dst) ∘ cS))=o.bind (·.dst):=fun o=>by cases o<;>rfl
 rw [e,e] at this
 unfold yielded
 rw [this]
theorem oJ {ops ops':Array Oper} (h:∀ j:Nat,(ops[j]?).map cS=(ops'[j]?).map cS) {i:Nat} {K:Act→World→Prop} {a:Act} {w:World} (H:wpOp P ops Q i K a w):wpOp P ops' Q i K a w:=by
 have hi:=h i
 unfold wpOp at H ⊢
 rw [gu h] at H
 cases h1:ops[i]? with
 | none =>
  cases h2:ops'[i]? with
  | none=>rw [h1] at H;exact H
  | some o'=>rw [h1,h2] at hi;cases hi
 | some o =>
  cases h2:ops'[i]? with
  | none=>rw [h1,h2] at hi;cases hi
  | some o' =>
   rw [h1,h2] at hi
   have hb:cS o=cS o':=Option.some.inj hi
   rw [h1] at H
   simp only at H ⊢
   rw [←fu o,←mB o,←iY o,hb,fu,mB,iY,show o.dst=(cS o).dst from rfl,hb] at H
   exact H
theorem eJ {l:List Oper} {n q j:Nat}:(l.modify n (e8 q)).toArray[j]?=if n=j then (l.toArray[j]?).map (e8 q) else l.toArray[j]?:=by
 simp only [List.getElem?_toArray,List.getElem?_modify]
 by_cases h:n=j
 ·simp [h]
 ·simp [h]
theorem dQ {l:List Oper} {n q:Nat} (j:Nat):((l.modify n (e8 q)).toArray[j]?).map cS=(l.toArray[j]?).map cS:=by
 rw [eJ];split
 ·rw [Option.map_map];rfl
 ·rfl
def e9 (md:Region.Mode) (ops:Array Oper) (b i:Nat):Bool:=match ops[b]? with
 | some o=>o.after.any fun e=>Region.binds md e&&e.on==i
 | none=>false
theorem jl {ops:Array Oper} {b i:Nat} {o:Oper} {listed:Array Bool} (h:e9 md ops b i=true) (ho:ops[b]?=some o) (hall:∀ e∈o.after,Region.binds md e=true→listed.getD e.on false=true):listed.getD i false=true:=by
 unfold e9 at h
 rw [ho] at h
 simp only [Array.any_eq_true] at h
 obtain ⟨k,hk,he⟩:=h
 simp only [Bool.and_eq_true,beq_iff_eq] at he
 have:=hall _ (Array.getElem_mem hk) he.1
 rwa [he.2] at this
structure Late (md:Region.Mode) (l:List Oper) (n q:Nat) (oq:Oper):Prop where
 sel:Region.noSelect l.toArray=true
 at_:l.toArray[q]?=some oq
 ext:∃ t k,oq.op = .extract t k
 guard:oq.guard=none
 ne:q≠n
 lt:q<l.length
 deps:∀ e∈oq.after,Region.binds md e=true→e9 md l.toArray n e.on=true
 apart:∀ (j:Nat) oj,l.toArray[j]?=some oj→j≠q→e9 md l.toArray q j=false→e9 md l.toArray j q=false→oq.apart l.toArray oj=true
theorem ox {o:Oper} {t:Operand} {k:Nat} (hx:o.op = .extract t k) (ρ:Operand→Value):(∃ v,execOp ρ o = .pure (.value v))∨∃ m,execOp ρ o = .halt (.stuck m):=by
 unfold execOp
 simp only [hx]
 unfold Instr.extract
 split
 ·split
  ·exact .inl ⟨_,rfl⟩
  ·exact .inr ⟨_,rfl⟩
 ·exact .inr ⟨_,rfl⟩
theorem mN {ops:Array Oper} {o:Oper} (hx:∃ t k,o.op = .extract t k) (hg:o.guard=none) {i:Nat} (hi:ops[i]?=some o) {K:Act→World→Prop} {a:Act} {w:World} (h:wpOp P ops Q i K a w):∃ v,Yields P ops o v a∧K (a.put o.dst v) w:=by
 obtain ⟨t,k,hx⟩:=hx
 have hw:Region.wanted o (yielded ops a.tmps)=true:=by unfold Region.wanted;rw [hg]
 unfold wpOp at h
 rw [hi] at h
 simp only [hw,if_true] at h
 rcases ox hx a.eval with ⟨v,hv⟩|⟨m,hm⟩
 ·have r:∀ w,(execOp a.eval o).run P w = .ok (.value v) w:=fun w=>by rw [hv];rfl
  refine ⟨v,.inl ⟨hw,r⟩,?_⟩
  rcases h with h|h
  ·unfold Oper.wp at h
   rw [r,Oper.upon_value] at h
   exact h
  ·have:=h.1.1
   rw [hv] at this
   simp [Sem.runT] at this
 ·exfalso
  rcases h with h|h
  ·unfold Oper.wp at h
   rw [hm] at h
   exact h
  ·have:=h.1.1
   rw [hm] at this
   simp [Sem.runT] at this
section
variable {l:List Oper} {n q:Nat} {oq:Oper}
theorem Late.at' (h:Late md l n q oq):(l.modify n (e8 q)).toArray[q]?=some oq:=by
 rw [eJ,if_neg (fun e=>h.ne e.symm)];exact h.at_
theorem mO {i:Nat} {listed:Array Bool} (hi:i∈Region.ready md (l.modify n (e8 q)).toArray listed):i∈Region.ready md l.toArray listed:=by
 rw [mem_ready] at hi ⊢
 obtain ⟨h1,o,ho,hall⟩:=hi
 rw [eJ] at ho
 refine ⟨h1,?_⟩
 split at ho
 ·obtain ⟨o',ho',rfl⟩:=Option.map_eq_some_iff.1 ho
  exact ⟨o',ho',fun e he hb=>hall e (by unfold e8;simp [he]) hb⟩
 ·exact ⟨o,ho,hall⟩
theorem Late.ready (h:Late md l n q oq) {i:Nat} {listed:Array Bool} (hsz:listed.size=l.length) (hi:i∈Region.ready md l.toArray listed) :
  i∈Region.ready md (l.modify n (e8 q)).toArray listed∨q∈Region.ready md (l.modify n (e8 q)).toArray listed:=by
 obtain ⟨h1,o,ho,hall⟩:=mem_ready.1 hi
 by_cases hin:n=i
 ·subst hin
  cases hq:listed.getD q false with
  | true =>
   refine .inl (mem_ready.2 ⟨h1,e8 q o,by rw [eJ,if_pos rfl,ho];rfl,fun e he hb=>?_⟩)
   unfold e8 at he
   simp only [Array.mem_push] at he
   rcases he with he|rfl
   ·exact hall e he hb
   ·exact hq
  | false =>
   refine .inr (mem_ready.2 ⟨getD_in (by rw [hsz];exact h.lt) hq,oq,h.at',fun e he hb=>?_⟩)
   exact jl (h.deps e he hb) ho hall
 ·exact .inl (mem_ready.2 ⟨h1,o,by rw [eJ,if_neg hin];exact ho,hall⟩)
theorem jw (h:Late md l n q oq) (hQ:∀ v c a w,Q (.panic c) (Act.put a oq.dst v) w→Q (.panic c) a w) :
  ∀ (fuel:Nat) (listed:Array Bool) (a:Act) (w:World),listed.size=l.length→wpAny P md (l.modify n (e8 q)).toArray Q fuel listed a w→wpAny P md l.toArray Q fuel listed a w
 | 0,listed,a,w,hsz,H=>by
  refine ⟨?_,H.2⟩
  cases hr:Region.ready md l.toArray listed with
  | nil=>rfl
  | cons i rs =>
   rcases h.ready hsz (i:=i) (by rw [hr];exact List.mem_cons_self) with h1|h1
   ·rw [H.1] at h1;cases h1
   ·rw [H.1] at h1;cases h1
 | fuel+1,listed,a,w,hsz,H=>by
  by_cases hall:∀ i∈Region.ready md l.toArray listed,i∈Region.ready md (l.modify n (e8 q)).toArray listed
  ·refine ⟨fun h0=>H.1 ?_,fun i hi=>?_⟩
   ·cases hr:Region.ready md (l.modify n (e8 q)).toArray listed with
    | nil=>rfl
    | cons i rs =>
     have:=mO (l:=l) (n:=n) (q:=q) (i:=i) (listed:=listed) (md:=md) (by rw [hr];exact List.mem_cons_self)
     rw [h0] at this;cases this
   ·exact wpOp_mono (fun a' w' h'=>jw h hQ fuel _ a' w' (by simpa using hsz) h') (oJ dQ (H.2 i (hall i hi)))
  ·have hq:q∈Region.ready md (l.modify n (e8 q)).toArray listed:=by
    obtain ⟨i,hi⟩:=Classical.not_forall.1 hall
    obtain ⟨hi,hn⟩:=Classical.not_imp.1 hi
    rcases h.ready hsz hi with h1|h1
    ·exact absurd h1 hn
    ·exact h1
   have hq':=mO hq
   obtain ⟨v,hy,hK⟩:=mN h.ext h.guard h.at_ (oJ dQ (H.2 q hq))
   refine wpAny_first h.at_ (Region.noSelect_spec h.sel) (hQ v) fuel listed a w (fun j oj hj hjq hun hno=>?_) hq' hy (jw h hQ fuel _ _ w (by simpa using hsz) hK)
   refine h.apart j oj hj hjq ?_ ?_
   ·cases hw:e9 md l.toArray q j with
    | false=>rfl
    | true =>
     obtain ⟨_,o,ho,hall⟩:=mem_ready.1 hq'
     have h1:=jl hw ho hall
     have h2:listed.getD j false=true:=h1
     rcases Nat.lt_or_ge j listed.size with h'|h'
     ·simp [h'] at hun h2;rw [hun] at h2;cases h2
     ·simp [Array.getElem?_eq_none h'] at h2
   ·cases hw:e9 md l.toArray j q with
    | false=>rfl
    | true =>
     unfold e9 at hw
     rw [hj] at hw
     simp only [Array.any_eq_true] at hw
     obtain ⟨k,hk,he⟩:=hw
     simp only [Bool.and_eq_true,beq_iff_eq] at he
     exact absurd he.2 (hno _ (Array.getElem_mem hk) he.1)
end
def tS (md:Region.Mode) (l:List Oper) (n q:Nat):Bool :=
 Region.noSelect l.toArray&&decide (q≠n)&&(match l.toArray[q]? with
  | some oq=>(match oq.op with | .extract _ _=>true|_=>false)&&oq.guard.isNone&&oq.after.all (fun e => !Region.binds md e||e9 md l.toArray n e.on) &&
   (List.range l.length).all fun j=>(j==q)||e9 md l.toArray q j||e9 md l.toArray j q||(match l.toArray[j]? with|some oj=>oq.apart l.toArray oj|none=>true)
  | none=>false)
theorem zO {l:List Oper} {n q:Nat} (h:tS md l n q=true):∃ oq,Late md l n q oq:=by
 unfold tS at h
 simp only [Bool.and_eq_true,decide_eq_true_eq] at h
 obtain ⟨⟨hs,hne⟩,h⟩:=h
 split at h
 ·rename_i oq hq
  simp only [Bool.and_eq_true] at h
  obtain ⟨⟨⟨hx,hg⟩,hd⟩,hap⟩:=h
  have hlt:q<l.length:=by
   rcases Nat.lt_or_ge q l.length with h'|h'
   ·exact h'
   ·rw [Array.getElem?_eq_none (by simpa using h')] at hq;cases hq
  refine ⟨oq,hs,hq,?_,by simpa using hg,hne,hlt,fun e he hb=>?_,fun j oj hj hjq h1 h2=>?_⟩
  ·cases hop:oq.op with
   | extract t k=>exact ⟨t,k,rfl⟩
   | _=>rw [hop] at hx;cases hx
  ·rw [Array.all_eq_true'] at hd
   have:=hd e he
   rw [hb] at this
   simpa using this
  ·have hjl:j<l.length:=by
    rcases Nat.lt_or_ge j l.length with h'|h'
    ·exact h'
    ·rw [Array.getElem?_eq_none (by simpa using h')] at hj;cases hj
   have:=List.all_eq_true.1 hap j (List.mem_range.2 hjl)
   rw [h1,h2,hj] at this
   simpa [hjq] using this
 ·cases h
theorem ir {ops ops':Array Oper} (hy:∀ j:Nat,(ops[j]?).map cS=(ops'[j]?).map cS):∀ (L L':List Oper) (a:Act) (w:World),L.map cS=L'.map cS→wpList P ops Q L a w→wpList P ops' Q L' a w
 | [],[],_,_,_,h=>h
 | [],_ :: _,_,_,e,_=>by cases e
 | _ :: _,[],_,_,e,_=>by cases e
 | o :: L,o' :: L',a,w,e,h=>by
  simp only [List.map_cons,List.cons.injEq] at e
  obtain ⟨e1,e2⟩:=e
  unfold wpList at h ⊢
  rw [gu hy,←fu o,e1,fu] at h
  split
  ·rename_i hw
   rw [if_pos hw] at h
   rcases h with h|h
   ·rw [←mB o,e1,mB] at h
    exact .inl (Oper.wp_mono (fun a' w' h'=>ir hy L L' a' w' e2 h') h)
   ·rw [←iY o,e1,iY] at h
    exact .inr h
  ·rename_i hw
   rw [if_neg hw,show o.dst=(cS o).dst from rfl,e1] at h
   exact ir hy L L' _ w e2 h
theorem gv {ops ops':Array Oper} {C:World→Prop} {K K':Act→Prop} (hy:∀ j:Nat,(ops[j]?).map cS=(ops'[j]?).map cS) (hK:∀ a,K a→K' a):∀ (L:List Oper) (a:Act),wpQuiet P ops C K L a→wpQuiet P ops' C K' L a
 | [],a,h=>hK a h
 | o :: L,a,h=>by
  unfold wpQuiet at h ⊢
  rw [gu hy] at h
  split
  ·rename_i hw
   rw [if_pos hw] at h
   obtain ⟨v,h1,h2⟩:=h
   exact ⟨v,h1,gv hy hK L _ h2⟩
  ·rename_i hw
   rw [if_neg hw] at h
   exact gv hy hK L _ h
theorem xe (l:List Oper) (n q m:Nat) (h:m≤n):(l.modify n (e8 q)).take m=l.take m:=by
 apply List.ext_getElem?
 intro j
 by_cases hj:j<m
 ·rw [List.getElem?_take_of_lt hj,List.getElem?_take_of_lt hj,List.getElem?_modify]
  have:n≠j:=by omega
  simp [this]
 ·rw [List.getElem?_take_eq_none (by omega),List.getElem?_take_eq_none (by omega)]
theorem xf (l:List Oper) (n q m:Nat):((l.modify n (e8 q)).drop m).map cS=(l.drop m).map cS:=by
 apply List.ext_getElem?
 intro j
 rw [List.getElem?_map,List.getElem?_map,List.getElem?_drop,List.getElem?_drop]
 have:=dQ (l:=l) (n:=n) (q:=q) (m+j)
 simpa only [List.getElem?_toArray] using this
theorem mP {id:Nat} {a:Act} {w:World} {l:List Oper} (n q:Nat) (hm:P.follows .mixedOrders=true) (hL:tS .any l n q=true)
  (hQ:∀ (d:Tmp) v c a w,Q (.panic c) (Act.put a (some d) v) w→Q (.panic c) a w)
  (h:wpAny P .any (l.modify n (e8 q)).toArray Q (l.modify n (e8 q)).toArray.size (Array.replicate (l.modify n (e8 q)).toArray.size false) a w.drew):(Code.region id l.toArray true).wp P Q a w:=by
 obtain ⟨oq,hl⟩:=zO hL
 have e:(l.modify n (e8 q)).toArray.size=l.toArray.size:=by simp
 rw [e] at h
 refine wp_region_any hm (jw hl (fun v c a w h=>?_) _ _ _ _ (by simp) h)
 cases hd:oq.dst with
 | none=>rw [hd] at h;exact h
 | some d=>rw [hd] at h;exact hQ d v c a w h
theorem mm {a A:Act} {w:World} {l:List Oper} (m n:Nat) {z:Obj} (hB:fV l.toArray m n a.tmps.size=true)
  (hA:∀ k o,m≤k→k<n→l.toArray[k]?=some o→∀ ρ w,(execOp ρ o).run P w = .ok (.value (.pointer (some ⟨w.heap.size,0,none⟩))) (w.alloc z))
  (H:∀ V,Below w.heap.size w V→wpQuiet P l.toArray (Gr V) (fun a'=>a'=A) (l.take m) a)
  (T:∀ b (p:Nat→Value) w',Hd P l.toArray m n a.tmps.size a A (Below w.drew.heap.size w.drew)→Stq l.toArray m n a A (cr l.toArray.size n) p b→(∀ k,m≤k→k<n→qp w.drew z (p k) w')→(∀ k k',m≤k→k<n→m≤k'→k'<n→k≠k'→p k≠p k')→wpList P l.toArray Q (l.drop n) b w') :
  wpAny P .any l.toArray Q l.toArray.size (Array.replicate l.toArray.size false) a w.drew:=by
 unfold fV at hB
 simp only [Bool.and_eq_true,decide_eq_true_eq] at hB
 obtain ⟨⟨⟨⟨⟨⟨⟨hsel,hn⟩,hs⟩,hc⟩,hseq⟩,hq⟩,hz⟩,hmn⟩:=hB
 have hn':n<l.length:=by simpa using hn
 have hd:Hd P l.toArray m n a.tmps.size a A (Below w.drew.heap.size w.drew) :=
  ⟨Nat.le_of_lt hmn,⟨w.drew,Below.refl _ _⟩,fun i hi=>List.all_eq_true.1 hq i (List.mem_range.2 hi),hz,rfl,fun V hV=>⟨l.take m,by simp;omega,fun i hi=>by simp [hi],H V (r9 hV)⟩⟩
 have:=hd.run (Q':=Q) (z:=z) (Region.noSelect_spec hsel) hn hs hc hseq hA (tl:=l.drop n) (fun j=>by simp [List.getElem?_drop]) (by simp) (fun b p w' st h1 h2 _=>T b p w' hd st h1 h2)
  n (List.range n) (Array.replicate l.toArray.size false) a w.drew (fun _=>undef) (by simp) List.nodup_range (fun j hj=>List.mem_range.1 hj)
  (fun j hj=>⟨fun _=>List.mem_range.2 hj,fun _=>getD_in (by simp;omega) (getD_replicate_false _ _)⟩) ⟨by simp,fun j oj _ hl=>(by rw [getD_replicate_false] at hl;cases hl),fun t _ ht=>getD_in (by simpa using ht) (getD_replicate_false _ _)⟩
  ⟨rfl,rfl,fun j o d _ _ _=>(by rw [getD_replicate_false];rfl),fun j o d _ _ _ _=>(by rw [getD_replicate_false];rfl),fun t _=>rfl⟩ (Below.refl _ _) (fun k _ h2 h3=>absurd (List.mem_range.2 h2) h3) (fun k _ _ h2 _ _ h3 _=>absurd (List.mem_range.2 h2) h3)
 rw [show n+(l.drop n).length=l.toArray.size by simp;omega] at this
 exact this
theorem cX {id:Nat} {a A:Act} {w:World} {l:List Oper} (m n q:Nat) {om:Oper} {dm:Nat} {z:Obj} (hm:P.follows .mixedOrders=true) (hL:tS .any l n q=true)
  (hQ:∀ (d:Tmp) v c a w,Q (.panic c) (Act.put a (some d) v) w→Q (.panic c) a w)
  (hB:(fV (l.modify n (e8 q)).toArray m (m+1) a.tmps.size&&decide (m<n))=true) (hom:l.toArray[m]?=some om) (hdm:om.dst=some dm)
  (hA:∀ ρ w,(execOp ρ om).run P w = .ok (.value (.pointer (some ⟨w.heap.size,0,none⟩))) (w.alloc z))
  (H:∀ V,Below w.heap.size w V→wpQuiet P l.toArray (Gr V) (fun a'=>a'=A) (l.take m) a)
  (T:∀ V w',Below w.heap.size w V→Below (V.alloc z).heap.size (V.alloc z) w'→wpList P l.toArray Q (l.drop (m+1)) (A.put (some dm) (.pointer (some ⟨V.heap.size,0,none⟩))) w') :
  (Code.region id l.toArray true).wp P Q a w:=by
 simp only [Bool.and_eq_true,decide_eq_true_eq] at hB
 obtain ⟨hB,hmn⟩:=hB
 have hom':(l.modify n (e8 q)).toArray[m]?=some om:=by rw [eJ,if_neg (by omega)];exact hom
 have hn:m+1<(l.modify n (e8 q)).toArray.size:=by unfold fV at hB;simp only [Bool.and_eq_true,decide_eq_true_eq] at hB;exact hB.1.1.1.1.1.1.2
 refine mP n q hm hL hQ (mm (z:=z) (A:=A) m (m+1) hB (fun k o h1 h2 ho=>?_) (fun V hV=>?_) fun b p w' hd st hmade _=>?_)
 ·obtain rfl:k=m:=by omega
  obtain rfl:o=om:=Option.some.inj (ho.symm.trans hom')
  exact hA
 ·rw [xe l n q m (by omega)]
  exact gv (fun j=>(dQ j).symm) (fun _ h=>h) _ a (H V hV)
 ·rw [st.one hd hn hom' hdm]
  obtain ⟨V,e,hV,hVw⟩:=gp (hmade m (Nat.le_refl _) (by omega))
  rw [e]
  exact ir (fun j=>(dQ j).symm) _ _ _ w' (xf l n q (m+1)).symm (T V w' hV hVw)
end
open Go.RowKit Go.Sort
section
variable {P:Program} {ops:Array Oper}
def Dk (ops:Array Oper) (m sz:Nat):Bool :=
 Region.noSelect ops&&decide (m+2<ops.size)&&Region.sinkB .any ops (m+2)&&Region.chainB .any ops (m+2) &&
 Region.seqB .any ops (ops.size-(m+2)) (m+2) (cr ops.size (m+2))&&(List.range m).all (mM ops (m+1) sz)&&pA ops m (m+1) sz&&Region.waitsFor .any ops (m+1) m &&
 (match ops[m+1]? with
  | some o=>o.guard.isNone&&o.dst.isNone&&o.after.all (fun e=>decide (e.on<m+1)) &&
    (List.range m).all fun j=>(match ops[j]? with
     | some oj=>(match oj.dst with|some d => !(o.looksAt ops).contains d||Region.waitsFor .any ops (m+1) j|none=>true)
     | none=>false)
  | none=>false)
theorem xg {m:Nat} {o:Oper} (ho:ops[m+1]?=some o) (h:(match ops[m+1]? with
  | some o=>o.guard.isNone&&o.dst.isNone&&o.after.all (fun e=>decide (e.on<m+1)) &&
    (List.range m).all fun j=>(match ops[j]? with
     | some oj=>(match oj.dst with|some d => !(o.looksAt ops).contains d||Region.waitsFor .any ops (m+1) j|none=>true)
     | none=>false)
  | none=>false)=true):o.guard=none∧o.dst=none∧(∀ e∈o.after,e.on<m+1)∧∀ j,j<m→∀ oj t,ops[j]?=some oj→oj.dst=some t→t∈o.looksAt ops→Region.waitsFor .any ops (m+1) j=true:=by
 rw [ho] at h
 simp only [Bool.and_eq_true] at h
 obtain ⟨⟨⟨hg,hd⟩,ha⟩,hp⟩:=h
 refine ⟨by simpa using hg,by simpa using hd,fun e he=>?_,fun j hj oj t hoj ht hl=>?_⟩
 ·have:=Array.all_eq_true'.1 ha e he
  simpa using this
 ·have h1:=List.all_eq_true.1 hp j (List.mem_range.2 hj)
  rw [hoj] at h1
  simp only [ht,Bool.or_eq_true,Bool.not_eq_true',List.contains_eq_mem,decide_eq_false_iff_not] at h1
  rcases h1 with h1|h1
  ·exact absurd hl h1
  ·exact h1
variable {m sz:Nat} {a A:Act} {Pre:World→Prop} {Mid Post:Value→World→Prop} {D:World→Prop} {om os:Oper} {dm:Nat} {z:Obj}
theorem Stq.made {p:Nat→Value} {b:Act} {listed:Array Bool} (h:Hd P ops m (m+1) sz a A D) (st:Stq ops m (m+1) a A listed p b) (hall:∀ j,j<m+1→listed.getD j false=true) (ho:ops[m]?=some om) (hd:om.dst=some dm) :
  b=A.put (some dm) (p m):=by
 obtain ⟨s1,f1⟩:=h.facts m (Nat.le_refl _)
 obtain ⟨t1,t2⟩:=h.tmps m (Nat.le_refl _)
 rw [h.last] at s1 f1 t1 t2
 obtain ⟨o',d',ho',hd',_,_,hsz,_⟩:=cu h.z (Nat.le_refl m) (by omega)
 obtain rfl:o'=om:=Option.some.inj (ho'.symm.trans ho)
 obtain rfl:d'=dm:=Option.some.inj (hd'.symm.trans hd)
 have ht:b.tmps=(A.put (some d') (p m)).tmps:=by
  apply Array.ext'
  apply List.ext_getElem?
  intro t
  rw [Array.getElem?_toList,Array.getElem?_toList]
  by_cases htd:t=d'
  ·subst htd
   rw [st.k m o' t (Nat.le_refl _) (by omega) ho hd,hall m (by omega),dp (by rw [s1];exact hsz)];rfl
  ·rw [bQ (Ne.symm htd)]
   by_cases hex:∃ j oj,j<m∧ops[j]?=some oj∧oj.dst=some t
   ·obtain ⟨j,oj,hj,hoj,hdj⟩:=hex
    rw [st.q j oj t hj hoj hdj,hall j (by omega),t2 j oj t hj hoj hdj];rfl
   ·have hno:∀ j o,j<m→ops[j]?=some o→o.dst≠some t:=fun j o hj ho hd=>hex ⟨j,o,hj,ho,hd⟩
    rw [st.r t,t1 t hno]
    intro j oj hj hoj hdj
    by_cases hjm:j<m
    ·exact hno j oj hjm hoj hdj
    ·obtain rfl:j=m:=by omega
     obtain rfl:oj=o':=Option.some.inj (hoj.symm.trans ho)
     exact htd (Option.some.inj (hdj.symm.trans hd))
 cases b with
 | mk bt bd =>
  have hd:bd=a.defers:=st.defers
  have ht':bt=(A.put (some d') (p m)).tmps:=ht
  rw [hd,ht',←f1];rfl
theorem Hd.puts (h:Hd P ops m (m+1) sz a A D) {Q':Exit→Act→World→Prop} (hsel:∀ (j:Nat) (o:Oper) cs b,ops[j]?=some o→o.op≠.select cs b)
  (hn:m+2<ops.size) (hs:Region.sinkB .any ops (m+2)=true) (hc:Region.chainB .any ops (m+2)=true) (hseq:Region.seqB .any ops (ops.size-(m+2)) (m+2) (cr ops.size (m+2))=true)
  (hom:ops[m]?=some om) (hdm:om.dst=some dm) (hA:∀ ρ w,(execOp ρ om).run P w = .ok (.value (.pointer (some ⟨w.heap.size,0,none⟩))) (w.alloc z))
  (hos:ops[m+1]?=some os) (hg:os.guard=none) (hdn:os.dst=none) (haf:∀ e∈os.after,e.on<m+1) (hw0:Region.waitsFor .any ops (m+1) m=true)
  (hwt:∀ j,j<m→∀ oj t,ops[j]?=some oj→oj.dst=some t→t∈os.looksAt ops→Region.waitsFor .any ops (m+1) j=true)
  (hPre:∀ V V',Pre V→Below V.heap.size V V'→Pre V') (hMid:∀ v V V',Mid v V→Below V.heap.size V V'→Mid v V') (hPost:∀ v V V',Post v V→Below V.heap.size V V'→Post v V')
  (hD0:∀ V,Pre V→D V) (hD1:∀ v V,Mid v V→D V) (hD2:∀ v V,Post v V→D V) (hPM:∀ V,Pre V→Mid (.pointer (some ⟨V.heap.size,0,none⟩)) (V.alloc z))
  (hE:∀ v V,Mid v V→∃ V',(execOp (A.put (some dm) v).eval os).run P V = .ok .skip V'∧Post v V')
  {tl:List Oper} (htl:∀ j,tl[j]?=ops[m+2+j]?) (hlen:tl.length=ops.size-(m+2))
  (T:∀ v w',Post v w'→wpList P ops Q' tl (A.put (some dm) v) w') :
  ∀ (f:Nat) (U:List Nat) (listed:Array Bool) (b:Act) (w':World) (p:Nat→Value),U.length=f→U.Nodup→(∀ j,j∈U→j<m+2)→(∀ j,j<m+2→(listed.getD j true=false↔j∈U)) →
   HeadInv .any ops (m+2) listed→Stq ops m (m+1) a A listed p b→(m∈U→m+1∈U)→(m∈U→Pre w')→(m ∉ U→m+1∈U→Mid (p m) w')→(m+1 ∉ U→Post (p m) w')→wpAny P .any ops Q' (f+tl.length) listed b w':=by
 intro f
 induction f with
 | zero =>
  intro U listed b w' p hU _ _ hmem inv st _ _ _ hpo
  have hU0:U=[]:=List.length_eq_zero_iff.1 hU
  subst hU0
  have hall:∀ j,j<m+2→listed.getD j false=true:=fun j hj=>by
   have h1:¬listed.getD j true=false:=fun h=>by have:=(hmem j hj).1 h;cases this
   cases hv:listed.getD j false with
   | true=>rfl
   | false=>exact absurd (getD_in (by rw [inv.size];omega) hv) h1
  have eb:=st.made h (fun j hj=>hall j (by omega)) hom hdm
  have el:=lV inv hall
  subst el;subst eb
  rw [Nat.zero_add]
  exact wpAny_of_seq tl (m+2) _ _ _ htl (by rw [hlen];exact hseq) (T _ w' (hpo (by simp)))
 | succ f ih =>
  intro U listed b w' p hU hnd hlt hmem inv st himp hpr hmi hpo
  have dw:∀ V,(m∈U→Pre V)→(m ∉ U→m+1∈U→Mid (p m) V)→(m+1 ∉ U→Post (p m) V)→D V:=fun V a1 a2 a3=>by
   by_cases h1:m∈U
   ·exact hD0 _ (a1 h1)
   ·by_cases h2:m+1∈U
    ·exact hD1 _ _ (a2 h1 h2)
    ·exact hD2 _ _ (a3 h2)
  have hD:=dw w' hpr hmi hpo
  obtain ⟨j0,hj0,hmin⟩:=xd U (fun e=>by rw [e] at hU;cases hU)
  have hj0m:=hlt j0 hj0
  have hr0:j0∈Region.ready .any ops listed:=by
   rw [mem_ready]
   refine ⟨(hmem j0 hj0m).2 hj0,?_⟩
   have lst:∀ k,k<j0→listed.getD k false=true:=fun k hk=>by
    cases hv:listed.getD k false with
    | true=>rfl
    | false =>
     have:=hmin k ((hmem k (by omega)).1 (getD_in (by rw [inv.size];omega) hv))
     omega
   by_cases hjm:j0<m
   ·obtain ⟨o,d,ho,_,_,hl,_⟩:=eZ (h.q j0 hjm)
    exact ⟨o,ho,fun e he hb=>lst _ (hl e he hb)⟩
   ·by_cases hj1:j0=m
    ·subst hj1
     obtain ⟨o,d,ho,_,_,ha,_,_⟩:=cu h.z (Nat.le_refl j0) (by omega)
     exact ⟨o,ho,fun e he=>by rw [ha] at he;simp at he⟩
    ·obtain rfl:j0=m+1:=by omega
     exact ⟨os,hos,fun e he _=>lst _ (haf e he)⟩
  have only:=iU hs hc hn inv hj0m hr0
  rw [show f+1+tl.length=(f+tl.length)+1 by omega]
  refine ⟨fun h0=>absurd h0 (List.ne_nil_of_mem hr0),fun i hi=>?_⟩
  have him:=only i hi
  have hiU:i∈U:=(hmem i him).1 (mem_ready.1 hi).1
  have hisz:i<listed.size:=by rw [inv.size];omega
  have hU':(U.erase i).length=f:=by rw [List.length_erase_of_mem hiU,hU];rfl
  have hmem':∀ j,j<m+2→((listed.setIfInBounds i true).getD j true=false↔j∈U.erase i):=fun j hj=>by
   rw [hnd.mem_erase_iff]
   by_cases hji:j=i
   ·subst hji
    simp [hisz]
   ·rw [getD_set_ne true (Ne.symm hji)]
    simp only [hji,ne_eq,not_false_eq_true,true_and]
    exact hmem j hj
  have hlt':∀ j,j∈U.erase i→j<m+2:=fun j hj=>hlt j (List.mem_of_mem_erase hj)
  have hback:∀ k,k≠i→k ∉ U.erase i→k ∉ U:=fun k hk hx hU=>hx ((hnd.mem_erase_iff).2 ⟨hk,hU⟩)
  have hin:∀ k,k≠i→k∈U→k∈U.erase i:=fun k hk hU=>(hnd.mem_erase_iff).2 ⟨hk,hU⟩
  have inv':=inv.set hi him
  unfold wpOp
  by_cases hie:i<m
  ·obtain ⟨o,d,ho,hd,hsz,hpp,_,hyl⟩:=h.at hsel st hie hi hD
   rw [ho]
   simp only
   have cl:∀ V,Gr w' V→(m∈U→Pre V)∧(m ∉ U→m+1∈U→Mid (p m) V)∧(m+1 ∉ U→Post (p m) V):=fun V hV=>⟨fun h=>hPre _ _ (hpr h) hV.below,fun h h'=>hMid _ _ _ (hmi h h') hV.below,fun h=>hPost _ _ _ (hpo h) hV.below⟩
   have go:∀ w'',Gr w' w''→wpAny P .any ops Q' (f+tl.length) (listed.setIfInBounds i true) (b.put (some d) (A.tmps.getD d undef)) w'':=fun w'' hg'=>by
    have hc:=cl w'' hg'
    exact ih (U.erase i) _ _ _ p hU' (hnd.erase i) hlt' hmem' inv' (st.setQ h.mn hie ho hd (by rw [h.size];exact hsz) hisz hpp)
     (fun hm=>hin _ (by omega) (himp (List.mem_of_mem_erase hm))) (fun hm=>hc.1 (List.mem_of_mem_erase hm)) (fun hm hm1=>hc.2.1 (hback m (by omega) hm) (List.mem_of_mem_erase hm1)) (fun hm=>hc.2.2 (hback _ (by omega) hm))
   rcases hyl with ⟨hwt,_⟩|⟨hwt,hund⟩
   ·rw [if_pos hwt]
    refine .inl (Oper.wp_of_quiet (C:=Gr w') (K:=fun b'=>b'=b.put (some d) (A.tmps.getD d undef)) (Gr.self w') (fun b' w'' hg' e=>by rw [e];exact go w'' hg') ⟨A.tmps.getD d undef,fun V hV=>?_,by rw [hd]⟩)
    have hc:=cl V hV
    obtain ⟨o2,d2,ho2,hd2,_,_,_,hy⟩:=h.at hsel st hie hi (dw V hc.1 hc.2.1 hc.2.2)
    obtain rfl:o2=o:=Option.some.inj (ho2.symm.trans ho)
    obtain rfl:d2=d:=Option.some.inj (hd2.symm.trans hd)
    rcases hy with ⟨_,hy⟩|⟨hw2,_⟩
    ·exact jS (fun x hx=>hV.trans hx) hy
    ·rw [hwt] at hw2;cases hw2
   ·rw [if_neg (by rw [hwt];exact Bool.false_ne_true),hd,←hund]
    exact go w' (Gr.self w')
  ·by_cases hi1:i=m
   ·subst hi1
    obtain ⟨o,d,ho,hd,hgd,_,hsz,hpp⟩:=cu h.z (Nat.le_refl i) (by omega)
    obtain rfl:o=om:=Option.some.inj (ho.symm.trans hom)
    obtain rfl:d=dm:=Option.some.inj (hd.symm.trans hdm)
    rw [ho]
    simp only
    rw [if_pos (by unfold Region.wanted;rw [hgd])]
    refine .inl ?_
    unfold Oper.wp
    rw [hA,Oper.upon_value,hd]
    have h1U:=himp hiU
    refine ih (U.erase i) _ _ _ (fun j=>if j=i then .pointer (some ⟨w'.heap.size,0,none⟩) else p j) hU' (hnd.erase i) hlt' hmem' inv' (st.setA (Nat.le_refl _) (by omega) ho hd (by rw [h.size];exact hsz) hisz hpp) (fun hm=>absurd rfl ((hnd.mem_erase_iff).1 hm).1) (fun hm=>absurd rfl ((hnd.mem_erase_iff).1 hm).1) (fun _ _=>?_) (fun hm=>absurd (hin _ (by omega) h1U) hm)
    simp only [if_true]
    exact hPM _ (hpr hiU)
   ·obtain rfl:i=m+1:=by omega
    rw [hos]
    simp only
    rw [if_pos (by unfold Region.wanted;rw [hg])]
    refine .inl ?_
    have isl:∀ j,Region.waitsFor .any ops (m+1) j=true→listed.getD j false=true:=fun j hj=>by
     obtain ⟨o3,h3,e,he,hb,hon⟩:=Region.waitsFor_spec hj
     obtain rfl:o3=os:=Option.some.inj (h3.symm.trans hos)
     obtain ⟨_,o4,h5,hall⟩:=mem_ready.1 hi
     obtain rfl:o4=o3:=Option.some.inj (h5.symm.trans h3)
     have h7:=hall e he hb
     rw [hon] at h7
     exact h7
    have hml:=isl m hw0
    have hmU:m ∉ U:=fun hx=>by
     have h1:=(hmem m (by omega)).2 hx
     rw [show listed.getD m true=listed.getD m false by simp [show m<listed.size by rw [inv.size];omega],hml] at h1
     cases h1
    obtain ⟨s1,f1⟩:=h.facts m (Nat.le_refl _)
    obtain ⟨t1,t2⟩:=h.tmps m (Nat.le_refl _)
    rw [h.last] at s1 t1 t2
    obtain ⟨o',d',ho',hd',_,_,hsz,_⟩:=cu h.z (Nat.le_refl m) (by omega)
    obtain rfl:o'=om:=Option.some.inj (ho'.symm.trans hom)
    obtain rfl:d'=dm:=Option.some.inj (hd'.symm.trans hdm)
    have same:execOp b.eval os=execOp (A.put (some d') (p m)).eval os:=by
     refine execOp_congr os (fun cs b=>hsel (m+1) os cs b hos) fun x hx=>?_
     cases x with
     | tmp t =>
      have key:b.tmps[t]?=(A.put (some d') (p m)).tmps[t]?:=by
       have look:t∈os.looksAt ops:=List.mem_append_left _ (List.mem_filterMap.2 ⟨.tmp t,by simpa using hx,rfl⟩)
       by_cases htd:t=d'
       ·subst htd
        rw [st.k m o' t (Nat.le_refl _) (by omega) hom hdm,hml,dp (by rw [s1];exact hsz)];rfl
       ·rw [bQ (Ne.symm htd)]
        by_cases hex:∃ j oj,j<m∧ops[j]?=some oj∧oj.dst=some t
        ·obtain ⟨j,oj,hj,hoj,hdj⟩:=hex
         rw [st.q j oj t hj hoj hdj,isl j (hwt j hj oj t hoj hdj look),t2 j oj t hj hoj hdj];rfl
        ·have hno:∀ j o,j<m→ops[j]?=some o→o.dst≠some t:=fun j o hj ho hd=>hex ⟨j,o,hj,ho,hd⟩
         rw [st.r t,t1 t hno]
         intro j oj hj hoj hdj
         by_cases hjm:j<m
         ·exact hno j oj hjm hoj hdj
         ·obtain rfl:j=m:=by omega
          obtain rfl:oj=o':=Option.some.inj (hoj.symm.trans hom)
          exact htd (Option.some.inj (hdj.symm.trans hdm))
      show b.tmps.getD t undef=(A.put (some d') (p m)).tmps.getD t undef
      simp only [Array.getD_eq_getD_getElem?,key]
     | _=>rfl
    obtain ⟨V',e1,e2⟩:=hE _ w' (hmi hmU hiU)
    unfold Oper.wp
    rw [same,e1,Oper.upon_skip,hdn]
    have st':Stq ops m (m+1) a A (listed.setIfInBounds (m+1) true) p b:=by
     refine ⟨st.size,st.defers,fun j o d hj ho hd=>?_,fun j o d h1 h2 ho hd=>?_,st.r⟩
     ·rw [getD_set_ne false (by omega)];exact st.q j o d hj ho hd
     ·rw [getD_set_ne false (by omega)];exact st.k j o d h1 h2 ho hd
    exact ih (U.erase (m+1)) _ _ _ p hU' (hnd.erase _) hlt' hmem' inv' st' (fun hm=>absurd (List.mem_of_mem_erase hm) hmU) (fun hm=>absurd (List.mem_of_mem_erase hm) hmU) (fun _ hm=>absurd rfl ((hnd.mem_erase_iff).1 hm).1) (fun _=>e2)
theorem jU {id:Nat} {Q:Exit→Act→World→Prop} {a A:Act} {w:World} {l:List Oper} (m:Nat) {om os:Oper} {dm:Nat} {z:Obj} (Stq':World→Nat→World) (hm:P.follows .mixedOrders=true) (hB:Dk l.toArray m a.tmps.size=true)
  (hom:l.toArray[m]?=some om) (hdm:om.dst=some dm) (hos:l.toArray[m+1]?=some os)
  (hA:∀ ρ w,(execOp ρ om).run P w = .ok (.value (.pointer (some ⟨w.heap.size,0,none⟩))) (w.alloc z))
  (hS:∀ V V0,Below w.heap.size w V0→Below (V0.alloc z).heap.size (V0.alloc z) V→Below w.heap.size w (Stq' V V0.heap.size))
  (H:∀ V,Below w.heap.size w V→wpQuiet P l.toArray (Gr V) (fun a'=>a'=A) (l.take m) a)
  (hE:∀ V V0,Below w.heap.size w V0→Below (V0.alloc z).heap.size (V0.alloc z) V→(execOp (A.put (some dm) (.pointer (some ⟨V0.heap.size,0,none⟩))).eval os).run P V = .ok .skip (Stq' V V0.heap.size))
  (T:∀ V0 V w',Below w.heap.size w V0→Below (V0.alloc z).heap.size (V0.alloc z) V→Below (Stq' V V0.heap.size).heap.size (Stq' V V0.heap.size) w'→wpList P l.toArray Q (l.drop (m+2)) (A.put (some dm) (.pointer (some ⟨V0.heap.size,0,none⟩))) w') :
  (Code.region id l.toArray true).wp P Q a w:=by
 unfold Dk at hB
 simp only [Bool.and_eq_true,decide_eq_true_eq] at hB
 obtain ⟨⟨⟨⟨⟨⟨⟨⟨hsel,hn⟩,hs⟩,hc⟩,hseq⟩,hq⟩,hz⟩,hw0⟩,hl⟩:=hB
 have hn':m+2<l.length:=by simpa using hn
 obtain ⟨g1,g2,g3,g4⟩:=xg hos hl
 refine wp_region_any hm ?_
 have hd:Hd P l.toArray m (m+1) a.tmps.size a A (Below w.heap.size w) :=
  ⟨by omega,⟨w,Below.refl _ _⟩,fun i hi=>List.all_eq_true.1 hq i (List.mem_range.2 hi),hz,rfl,fun V hV=>⟨l.take m,by simp;omega,fun i hi=>by simp [hi],H V hV⟩⟩
 have:=hd.puts (Q':=Q) (z:=z) (Pre:=Below w.heap.size w) (Mid:=fun v V=>∃ V0,v = .pointer (some ⟨V0.heap.size,0,none⟩)∧Below w.heap.size w V0∧Below (V0.alloc z).heap.size (V0.alloc z) V)
  (Post:=fun v V=>∃ V0 V1,v = .pointer (some ⟨V0.heap.size,0,none⟩)∧Below w.heap.size w V0∧Below (V0.alloc z).heap.size (V0.alloc z) V1∧Below (Stq' V1 V0.heap.size).heap.size (Stq' V1 V0.heap.size) V)
  (Region.noSelect_spec hsel) hn hs hc hseq hom hdm hA hos g1 g2 g3 hw0 g4
  (fun V V' h h'=>h.trans (h'.mono h.size)) (fun v V V' h h'=>by obtain ⟨V0,e,h0,h1⟩:=h;exact ⟨V0,e,h0,h1.trans (h'.mono h1.size)⟩) (fun v V V' h h'=>by obtain ⟨V0,V1,e,h0,h1,h2⟩:=h;exact ⟨V0,V1,e,h0,h1,h2.trans (h'.mono h2.size)⟩)
  (fun V h=>h) (fun v V h=>by obtain ⟨V0,_,h0,h1⟩:=h;exact au h0 h1) (fun v V h=>by obtain ⟨V0,V1,_,h0,h1,h2⟩:=h;exact (hS V1 V0 h0 h1).trans (h2.mono (hS V1 V0 h0 h1).size))
  (fun V h=>⟨V,rfl,h,Below.refl _ _⟩) (fun v V h=>by obtain ⟨V0,e,h0,h1⟩:=h;exact ⟨Stq' V V0.heap.size,by rw [e];exact hE V V0 h0 h1,V0,V,e,h0,h1,Below.refl _ _⟩)
  (tl:=l.drop (m+2)) (fun j=>by simp [List.getElem?_drop]) (by simp) (fun v w' h=>by obtain ⟨V0,V1,e,h0,h1,h2⟩:=h;rw [e];exact T V0 V1 w' h0 h1 h2)
  (m+2) (List.range (m+2)) (Array.replicate l.toArray.size false) a w.drew (fun _=>undef) (by simp) List.nodup_range (fun j hj=>List.mem_range.1 hj)
  (fun j hj=>⟨fun _=>List.mem_range.2 hj,fun _=>getD_in (by simp;omega) (getD_replicate_false _ _)⟩) ⟨by simp,fun j oj _ hl=>(by rw [getD_replicate_false] at hl;cases hl),fun t _ ht=>getD_in (by simpa using ht) (getD_replicate_false _ _)⟩
  ⟨rfl,rfl,fun j o d _ _ _=>(by rw [getD_replicate_false];rfl),fun j o d _ _ _ _=>(by rw [getD_replicate_false];rfl),fun t _=>rfl⟩ (fun _=>List.mem_range.2 (by omega)) (fun _=>(Below.refl _ _).drew) (fun hx=>absurd (List.mem_range.2 (by omega)) hx) (fun hx=>absurd (List.mem_range.2 (by omega)) hx)
 rw [show m+2+(l.drop (m+2)).length=l.toArray.size by simp;omega] at this
 exact this
end
end Go.Proofs.YtjoandmehahfgaaGreatDoor

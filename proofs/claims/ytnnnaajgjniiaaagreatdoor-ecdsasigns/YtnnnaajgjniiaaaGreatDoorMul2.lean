import Derived.Test.YtnnnaajgjniiaaaGreatDoorAdd
import Derived.Test.YtnnnaajgjniiaaaGreatDoorTail
import Derived.Test.YtnnnaajgjniiaaaGreatDoorFNum
import Derived.Test.YtnnnaajgjniiaaaGreatDoorAb
import Derived.Test.YtnnnaajgjniiaaaGreatDoorShiftNum
set_option maxHeartbeats 4000000
namespace Go.Proofs.YtnnnaajgjniiaaaGreatDoor
open Go.RowKit
theorem rZ {n m:Int} (hn:Num n) (hm:Num m) (w:World) :
  Calls Tryz.prog 169 #[.agg #[.int .u64 (l0 n),.int .u64 (l1 n),.int .u64 (l2 n),.int .u64 (l3 n)],.agg #[.int .u64 (l0 m),.int .u64 (l1 m),.int .u64 (l2 m),.int .u64 (l3 m)]] w fun e w' =>
   e = .returned (.tuple #[.agg #[.int .u64 (l0 (hiN n m)),.int .u64 (l1 (hiN n m)),.int .u64 (l2 (hiN n m)),.int .u64 (l3 (hiN n m))],.agg #[.int .u64 (l0 (loN n m)),.int .u64 (l1 (loN n m)),.int .u64 (l2 (loN n m)),.int .u64 (l3 (loN n m))]])∧Below w.heap.size w w':=by
 have z:al 0:=⟨by decide,by decide⟩
 have en:=du hn
 have em:=du hm
 have hx0:=aU n;have hx1:=aV n;have hx2:=aW n;have hx3:=bj n
 have hy0:=aU m;have hy1:=aV m;have hy2:=aW m;have hy3:=bj m
 generalize l0 n=x0 at *; generalize l1 n=x1 at *; generalize l2 n=x2 at *; generalize l3 n=x3 at *
 generalize l0 m=y0 at *; generalize l1 m=y1 at *; generalize l2 m=y2 at *; generalize l3 m=y3 at *
 have H00:Hid (∀ w,Calls Tryz.prog 188 #[.int .u64 x0,.int .u64 y0,.int .u64 0,.int .u64 0] w fun e w'=>e = .returned (.tuple #[.int .u64 (maH x0 y0 0 0),.int .u64 (maL x0 y0 0 0)])∧w'=w):=aR hx0 hy0 z z
 have e00:=dN x0 y0 0 0
 have wp00:=bM x0 y0 0 0
 have wc00:=bN hx0 hy0 z z
 generalize maL x0 y0 0 0=p00 at *
 generalize maH x0 y0 0 0=c00 at *
 have H01:Hid (∀ w,Calls Tryz.prog 188 #[.int .u64 x0,.int .u64 y1,.int .u64 0,.int .u64 c00] w fun e w'=>e = .returned (.tuple #[.int .u64 (maH x0 y1 0 c00),.int .u64 (maL x0 y1 0 c00)])∧w'=w):=aR hx0 hy1 z wc00
 have e01:=dN x0 y1 0 c00
 have wp01:=bM x0 y1 0 c00
 have wc01:=bN hx0 hy1 z wc00
 generalize maL x0 y1 0 c00=p01 at *
 generalize maH x0 y1 0 c00=c01 at *
 have H02:Hid (∀ w,Calls Tryz.prog 188 #[.int .u64 x0,.int .u64 y2,.int .u64 0,.int .u64 c01] w fun e w'=>e = .returned (.tuple #[.int .u64 (maH x0 y2 0 c01),.int .u64 (maL x0 y2 0 c01)])∧w'=w):=aR hx0 hy2 z wc01
 have e02:=dN x0 y2 0 c01
 have wp02:=bM x0 y2 0 c01
 have wc02:=bN hx0 hy2 z wc01
 generalize maL x0 y2 0 c01=p02 at *
 generalize maH x0 y2 0 c01=c02 at *
 have H03:Hid (∀ w,Calls Tryz.prog 188 #[.int .u64 x0,.int .u64 y3,.int .u64 0,.int .u64 c02] w fun e w'=>e = .returned (.tuple #[.int .u64 (maH x0 y3 0 c02),.int .u64 (maL x0 y3 0 c02)])∧w'=w):=aR hx0 hy3 z wc02
 have e03:=dN x0 y3 0 c02
 have wp03:=bM x0 y3 0 c02
 have wc03:=bN hx0 hy3 z wc02
 generalize maL x0 y3 0 c02=p03 at *
 generalize maH x0 y3 0 c02=c03 at *
 have H10:Hid (∀ w,Calls Tryz.prog 188 #[.int .u64 x1,.int .u64 y0,.int .u64 p01,.int .u64 0] w fun e w'=>e = .returned (.tuple #[.int .u64 (maH x1 y0 p01 0),.int .u64 (maL x1 y0 p01 0)])∧w'=w):=aR hx1 hy0 wp01 z
 have e10:=dN x1 y0 p01 0
 have wp10:=bM x1 y0 p01 0
 have wc10:=bN hx1 hy0 wp01 z
 generalize maL x1 y0 p01 0=p10 at *
 generalize maH x1 y0 p01 0=c10 at *
 have H11:Hid (∀ w,Calls Tryz.prog 188 #[.int .u64 x1,.int .u64 y1,.int .u64 p02,.int .u64 c10] w fun e w'=>e = .returned (.tuple #[.int .u64 (maH x1 y1 p02 c10),.int .u64 (maL x1 y1 p02 c10)])∧w'=w):=aR hx1 hy1 wp02 wc10
 have e11:=dN x1 y1 p02 c10
 have wp11:=bM x1 y1 p02 c10
 have wc11:=bN hx1 hy1 wp02 wc10
 generalize maL x1 y1 p02 c10=p11 at *
 generalize maH x1 y1 p02 c10=c11 at *
 have H12:Hid (∀ w,Calls Tryz.prog 188 #[.int .u64 x1,.int .u64 y2,.int .u64 p03,.int .u64 c11] w fun e w'=>e = .returned (.tuple #[.int .u64 (maH x1 y2 p03 c11),.int .u64 (maL x1 y2 p03 c11)])∧w'=w):=aR hx1 hy2 wp03 wc11
 have e12:=dN x1 y2 p03 c11
 have wp12:=bM x1 y2 p03 c11
 have wc12:=bN hx1 hy2 wp03 wc11
 generalize maL x1 y2 p03 c11=p12 at *
 generalize maH x1 y2 p03 c11=c12 at *
 have H13:Hid (∀ w,Calls Tryz.prog 188 #[.int .u64 x1,.int .u64 y3,.int .u64 c03,.int .u64 c12] w fun e w'=>e = .returned (.tuple #[.int .u64 (maH x1 y3 c03 c12),.int .u64 (maL x1 y3 c03 c12)])∧w'=w):=aR hx1 hy3 wc03 wc12
 have e13:=dN x1 y3 c03 c12
 have wp13:=bM x1 y3 c03 c12
 have wc13:=bN hx1 hy3 wc03 wc12
 generalize maL x1 y3 c03 c12=p13 at *
 generalize maH x1 y3 c03 c12=c13 at *
 have H20:Hid (∀ w,Calls Tryz.prog 188 #[.int .u64 x2,.int .u64 y0,.int .u64 p11,.int .u64 0] w fun e w'=>e = .returned (.tuple #[.int .u64 (maH x2 y0 p11 0),.int .u64 (maL x2 y0 p11 0)])∧w'=w):=aR hx2 hy0 wp11 z
 have e20:=dN x2 y0 p11 0
 have wp20:=bM x2 y0 p11 0
 have wc20:=bN hx2 hy0 wp11 z
 generalize maL x2 y0 p11 0=p20 at *
 generalize maH x2 y0 p11 0=c20 at *
 have H21:Hid (∀ w,Calls Tryz.prog 188 #[.int .u64 x2,.int .u64 y1,.int .u64 p12,.int .u64 c20] w fun e w'=>e = .returned (.tuple #[.int .u64 (maH x2 y1 p12 c20),.int .u64 (maL x2 y1 p12 c20)])∧w'=w):=aR hx2 hy1 wp12 wc20
 have e21:=dN x2 y1 p12 c20
 have wp21:=bM x2 y1 p12 c20
 have wc21:=bN hx2 hy1 wp12 wc20
 generalize maL x2 y1 p12 c20=p21 at *
 generalize maH x2 y1 p12 c20=c21 at *
 have H22:Hid (∀ w,Calls Tryz.prog 188 #[.int .u64 x2,.int .u64 y2,.int .u64 p13,.int .u64 c21] w fun e w'=>e = .returned (.tuple #[.int .u64 (maH x2 y2 p13 c21),.int .u64 (maL x2 y2 p13 c21)])∧w'=w):=aR hx2 hy2 wp13 wc21
 have e22:=dN x2 y2 p13 c21
 have wp22:=bM x2 y2 p13 c21
 have wc22:=bN hx2 hy2 wp13 wc21
 generalize maL x2 y2 p13 c21=p22 at *
 generalize maH x2 y2 p13 c21=c22 at *
 have H23:Hid (∀ w,Calls Tryz.prog 188 #[.int .u64 x2,.int .u64 y3,.int .u64 c13,.int .u64 c22] w fun e w'=>e = .returned (.tuple #[.int .u64 (maH x2 y3 c13 c22),.int .u64 (maL x2 y3 c13 c22)])∧w'=w):=aR hx2 hy3 wc13 wc22
 have e23:=dN x2 y3 c13 c22
 have wp23:=bM x2 y3 c13 c22
 have wc23:=bN hx2 hy3 wc13 wc22
 generalize maL x2 y3 c13 c22=p23 at *
 generalize maH x2 y3 c13 c22=c23 at *
 have H30:Hid (∀ w,Calls Tryz.prog 188 #[.int .u64 x3,.int .u64 y0,.int .u64 p21,.int .u64 0] w fun e w'=>e = .returned (.tuple #[.int .u64 (maH x3 y0 p21 0),.int .u64 (maL x3 y0 p21 0)])∧w'=w):=aR hx3 hy0 wp21 z
 have e30:=dN x3 y0 p21 0
 have wp30:=bM x3 y0 p21 0
 have wc30:=bN hx3 hy0 wp21 z
 generalize maL x3 y0 p21 0=p30 at *
 generalize maH x3 y0 p21 0=c30 at *
 have H31:Hid (∀ w,Calls Tryz.prog 188 #[.int .u64 x3,.int .u64 y1,.int .u64 p22,.int .u64 c30] w fun e w'=>e = .returned (.tuple #[.int .u64 (maH x3 y1 p22 c30),.int .u64 (maL x3 y1 p22 c30)])∧w'=w):=aR hx3 hy1 wp22 wc30
 have e31:=dN x3 y1 p22 c30
 have wp31:=bM x3 y1 p22 c30
 have wc31:=bN hx3 hy1 wp22 wc30
 generalize maL x3 y1 p22 c30=p31 at *
 generalize maH x3 y1 p22 c30=c31 at *
 have H32:Hid (∀ w,Calls Tryz.prog 188 #[.int .u64 x3,.int .u64 y2,.int .u64 p23,.int .u64 c31] w fun e w'=>e = .returned (.tuple #[.int .u64 (maH x3 y2 p23 c31),.int .u64 (maL x3 y2 p23 c31)])∧w'=w):=aR hx3 hy2 wp23 wc31
 have e32:=dN x3 y2 p23 c31
 have wp32:=bM x3 y2 p23 c31
 have wc32:=bN hx3 hy2 wp23 wc31
 generalize maL x3 y2 p23 c31=p32 at *
 generalize maH x3 y2 p23 c31=c32 at *
 have H33:Hid (∀ w,Calls Tryz.prog 188 #[.int .u64 x3,.int .u64 y3,.int .u64 c23,.int .u64 c32] w fun e w'=>e = .returned (.tuple #[.int .u64 (maH x3 y3 c23 c32),.int .u64 (maL x3 y3 c23 c32)])∧w'=w):=aR hx3 hy3 wc23 wc32
 have e33:=dN x3 y3 c23 c32
 have wp33:=bM x3 y3 c23 c32
 have wc33:=bN hx3 hy3 wc23 wc32
 generalize maL x3 y3 c23 c32=p33 at *
 generalize maH x3 y3 c23 c32=c33 at *
 have E:=uP (kG e00 e01 e02 e03) (kG e10 e11 e12 e13) (kG e20 e21 e22 e23) (kG e30 e31 e32 e33)
 rw [en,em] at E
 obtain ⟨eh,el⟩:=zE (kw wp00 wp10 wp20 wp30) E
 obtain ⟨h0,h1,h2,h3⟩:=aZ wp31 wp32 wp33 wc33 eh
 obtain ⟨k0,k1,k2,k3⟩:=aZ wp00 wp10 wp20 wp30 el
 rw [h0,h1,h2,h3,k0,k1,k2,k3]
 clear E eh el h0 h1 h2 h3 k0 k1 k2 k3 en em hn hm z hx0 hx1 hx2 hx3 hy0 hy1 hy2 hy3
 clear e00 wp00 wc00 e01 wp01 wc01 e02 wp02 wc02 e03 wp03 wc03 e10 wp10 wc10 e11 wp11 wc11 e12 wp12 wc12 e13 wp13 wc13 e20 wp20 wc20 e21 wp21 wc21 e22 wp22 wc22 e23 wp23 wc23 e30 wp30 wc30 e31 wp31 wc31 e32 wp32 wc32 e33 wp33 wc33
 go_enter Tryz.func169,Tryz.ntmps169
 go_wp2
 refine wp_loop_rounds 5 ?_
 rw [rounds_succ];go_wp2
 refine wp_loop_rounds 5 ?_
 rw [rounds_succ];go_wp2
 refine aC 21 (by kernel_rfl) (by kernel_rfl) ?_
 simp only [List.take_succ_cons,List.take_zero,List.drop_succ_cons,List.drop_zero]
 repeat (first|go_big_quiet_skip|(go_big_quiet_want;go_big_quiet_op;first|go_big_quiet_on|(refine ⟨_,H00.out _,?_⟩;go_big_quiet_on)))
 refine wpQuiet_nil ?_
 go_wp2
 rw [rounds_succ];go_wp2
 refine aC 21 (by kernel_rfl) (by kernel_rfl) ?_
 simp only [List.take_succ_cons,List.take_zero,List.drop_succ_cons,List.drop_zero]
 repeat (first|go_big_quiet_skip|(go_big_quiet_want;go_big_quiet_op;first|go_big_quiet_on|(refine ⟨_,H01.out _,?_⟩;go_big_quiet_on)))
 refine wpQuiet_nil ?_
 go_wp2
 rw [rounds_succ];go_wp2
 refine aC 21 (by kernel_rfl) (by kernel_rfl) ?_
 simp only [List.take_succ_cons,List.take_zero,List.drop_succ_cons,List.drop_zero]
 repeat (first|go_big_quiet_skip|(go_big_quiet_want;go_big_quiet_op;first|go_big_quiet_on|(refine ⟨_,H02.out _,?_⟩;go_big_quiet_on)))
 refine wpQuiet_nil ?_
 go_wp2
 rw [rounds_succ];go_wp2
 refine aC 21 (by kernel_rfl) (by kernel_rfl) ?_
 simp only [List.take_succ_cons,List.take_zero,List.drop_succ_cons,List.drop_zero]
 repeat (first|go_big_quiet_skip|(go_big_quiet_want;go_big_quiet_op;first|go_big_quiet_on|(refine ⟨_,H03.out _,?_⟩;go_big_quiet_on)))
 refine wpQuiet_nil ?_
 go_wp2
 rw [rounds_succ];go_wp2
 rw [rounds_succ];go_wp2
 refine wp_loop_rounds 5 ?_
 rw [rounds_succ];go_wp2
 refine aC 21 (by kernel_rfl) (by kernel_rfl) ?_
 simp only [List.take_succ_cons,List.take_zero,List.drop_succ_cons,List.drop_zero]
 repeat (first|go_big_quiet_skip|(go_big_quiet_want;go_big_quiet_op;first|go_big_quiet_on|(refine ⟨_,H10.out _,?_⟩;go_big_quiet_on)))
 refine wpQuiet_nil ?_
 go_wp2
 rw [rounds_succ];go_wp2
 refine aC 21 (by kernel_rfl) (by kernel_rfl) ?_
 simp only [List.take_succ_cons,List.take_zero,List.drop_succ_cons,List.drop_zero]
 repeat (first|go_big_quiet_skip|(go_big_quiet_want;go_big_quiet_op;first|go_big_quiet_on|(refine ⟨_,H11.out _,?_⟩;go_big_quiet_on)))
 refine wpQuiet_nil ?_
 go_wp2
 rw [rounds_succ];go_wp2
 refine aC 21 (by kernel_rfl) (by kernel_rfl) ?_
 simp only [List.take_succ_cons,List.take_zero,List.drop_succ_cons,List.drop_zero]
 repeat (first|go_big_quiet_skip|(go_big_quiet_want;go_big_quiet_op;first|go_big_quiet_on|(refine ⟨_,H12.out _,?_⟩;go_big_quiet_on)))
 refine wpQuiet_nil ?_
 go_wp2
 rw [rounds_succ];go_wp2
 refine aC 21 (by kernel_rfl) (by kernel_rfl) ?_
 simp only [List.take_succ_cons,List.take_zero,List.drop_succ_cons,List.drop_zero]
 repeat (first|go_big_quiet_skip|(go_big_quiet_want;go_big_quiet_op;first|go_big_quiet_on|(refine ⟨_,H13.out _,?_⟩;go_big_quiet_on)))
 refine wpQuiet_nil ?_
 go_wp2
 rw [rounds_succ];go_wp2
 rw [rounds_succ];go_wp2
 refine wp_loop_rounds 5 ?_
 rw [rounds_succ];go_wp2
 refine aC 21 (by kernel_rfl) (by kernel_rfl) ?_
 simp only [List.take_succ_cons,List.take_zero,List.drop_succ_cons,List.drop_zero]
 repeat (first|go_big_quiet_skip|(go_big_quiet_want;go_big_quiet_op;first|go_big_quiet_on|(refine ⟨_,H20.out _,?_⟩;go_big_quiet_on)))
 refine wpQuiet_nil ?_
 go_wp2
 rw [rounds_succ];go_wp2
 refine aC 21 (by kernel_rfl) (by kernel_rfl) ?_
 simp only [List.take_succ_cons,List.take_zero,List.drop_succ_cons,List.drop_zero]
 repeat (first|go_big_quiet_skip|(go_big_quiet_want;go_big_quiet_op;first|go_big_quiet_on|(refine ⟨_,H21.out _,?_⟩;go_big_quiet_on)))
 refine wpQuiet_nil ?_
 go_wp2
 rw [rounds_succ];go_wp2
 refine aC 21 (by kernel_rfl) (by kernel_rfl) ?_
 simp only [List.take_succ_cons,List.take_zero,List.drop_succ_cons,List.drop_zero]
 repeat (first|go_big_quiet_skip|(go_big_quiet_want;go_big_quiet_op;first|go_big_quiet_on|(refine ⟨_,H22.out _,?_⟩;go_big_quiet_on)))
 refine wpQuiet_nil ?_
 go_wp2
 rw [rounds_succ];go_wp2
 refine aC 21 (by kernel_rfl) (by kernel_rfl) ?_
 simp only [List.take_succ_cons,List.take_zero,List.drop_succ_cons,List.drop_zero]
 repeat (first|go_big_quiet_skip|(go_big_quiet_want;go_big_quiet_op;first|go_big_quiet_on|(refine ⟨_,H23.out _,?_⟩;go_big_quiet_on)))
 refine wpQuiet_nil ?_
 go_wp2
 rw [rounds_succ];go_wp2
 rw [rounds_succ];go_wp2
 refine wp_loop_rounds 5 ?_
 rw [rounds_succ];go_wp2
 refine aC 21 (by kernel_rfl) (by kernel_rfl) ?_
 simp only [List.take_succ_cons,List.take_zero,List.drop_succ_cons,List.drop_zero]
 repeat (first|go_big_quiet_skip|(go_big_quiet_want;go_big_quiet_op;first|go_big_quiet_on|(refine ⟨_,H30.out _,?_⟩;go_big_quiet_on)))
 refine wpQuiet_nil ?_
 go_wp2
 rw [rounds_succ];go_wp2
 refine aC 21 (by kernel_rfl) (by kernel_rfl) ?_
 simp only [List.take_succ_cons,List.take_zero,List.drop_succ_cons,List.drop_zero]
 repeat (first|go_big_quiet_skip|(go_big_quiet_want;go_big_quiet_op;first|go_big_quiet_on|(refine ⟨_,H31.out _,?_⟩;go_big_quiet_on)))
 refine wpQuiet_nil ?_
 go_wp2
 rw [rounds_succ];go_wp2
 refine aC 21 (by kernel_rfl) (by kernel_rfl) ?_
 simp only [List.take_succ_cons,List.take_zero,List.drop_succ_cons,List.drop_zero]
 repeat (first|go_big_quiet_skip|(go_big_quiet_want;go_big_quiet_op;first|go_big_quiet_on|(refine ⟨_,H32.out _,?_⟩;go_big_quiet_on)))
 refine wpQuiet_nil ?_
 go_wp2
 rw [rounds_succ];go_wp2
 refine aC 21 (by kernel_rfl) (by kernel_rfl) ?_
 simp only [List.take_succ_cons,List.take_zero,List.drop_succ_cons,List.drop_zero]
 repeat (first|go_big_quiet_skip|(go_big_quiet_want;go_big_quiet_op;first|go_big_quiet_on|(refine ⟨_,H33.out _,?_⟩;go_big_quiet_on)))
 refine wpQuiet_nil ?_
 go_wp2
 rw [rounds_succ];go_wp2
 rw [rounds_succ]
 go_wp2_with (go_at_call 189;refine (sU _ _ _ _ _ _ _ _ _).mono ?_;rintro e w' ⟨rfl,hw⟩;have hc:=aj hw)
 have hz:=hw.size
 simp at hz
 simp [bodyPost,results,Tryz.results169,go_sem,hc]
 clear hc
 repeat (first|with_reducible exact Below.refl _ _|with_reducible refine Below.drew ?_|with_reducible refine Below.setCell ?_ (by first|omega|(simp;done)|(simp;omega)) _|with_reducible refine Below.alloc ?_ (by first|omega|(simp;done)|(simp;omega)) _|with_reducible refine Below.trans ?_ (Below.mono hw (by first|omega|(simp;done)|(simp;omega))))
open Go.RowKit
theorem Bg {x0 x1 x2 x3 n s:Int} (hx0:al x0) (hx1:al x1) (hx2:al x2) (hx3:al x3) (_n0:0≤n) (_n1:n≤255) (s0:0≤s) (s1:s≤63) (hq:n/64=0) (hr:n%64=s) (w:World) :
  Rt 140 #[.agg #[.int .u64 x0,.int .u64 x1,.int .u64 x2,.int .u64 x3],.int .i64 n] w (.agg #[.int .u64 (IntKind.u64.wrap (x0*2 ^ s.toNat)),.int .u64 (bits .or .u64 (IntKind.u64.wrap (x1*2 ^ s.toNat)) (x0/2 ^ (64-s).toNat)),.int .u64 (bits .or .u64 (IntKind.u64.wrap (x2*2 ^ s.toNat)) (x1/2 ^ (64-s).toNat)),.int .u64 (bits .or .u64 (IntKind.u64.wrap (x3*2 ^ s.toNat)) (x2/2 ^ (64-s).toNat))]):=by
 obtain ⟨_,_⟩:=hx0;obtain ⟨_,_⟩:=hx1;obtain ⟨_,_⟩:=hx2;obtain ⟨_,_⟩:=hx3
 go_enter Tryz.func140,Tryz.ntmps140
 go_wp2
 refine wp_loop_rounds 5 ?_
 rw [rounds_succ];go_wp2
 rw [rounds_succ];go_wp2;go_region;go_wp2
 rw [rounds_succ];go_wp2;go_region;go_wp2
 rw [rounds_succ];go_wp2;go_region;go_wp2
 rw [rounds_succ];go_wp2
 simp [bodyPost,results,Tryz.results140,go_sem]
 repeat (first|with_reducible exact Below.refl _ _|with_reducible refine Below.drew ?_|with_reducible refine Below.alloc ?_ (by first|omega|(simp;done)|(simp;omega)) _)
theorem Bh {x0 x1 x2 x3 n s:Int} (hx0:al x0) (hx1:al x1) (hx2:al x2) (hx3:al x3) (_n0:0≤n) (_n1:n≤255) (s0:0≤s) (s1:s≤63) (hq:n/64=1) (hr:n%64=s) (w:World) :
  Rt 140 #[.agg #[.int .u64 x0,.int .u64 x1,.int .u64 x2,.int .u64 x3],.int .i64 n] w (.agg #[.int .u64 0,.int .u64 (IntKind.u64.wrap (x0*2 ^ s.toNat)),.int .u64 (bits .or .u64 (IntKind.u64.wrap (x1*2 ^ s.toNat)) (x0/2 ^ (64-s).toNat)),.int .u64 (bits .or .u64 (IntKind.u64.wrap (x2*2 ^ s.toNat)) (x1/2 ^ (64-s).toNat))]):=by
 obtain ⟨_,_⟩:=hx0;obtain ⟨_,_⟩:=hx1;obtain ⟨_,_⟩:=hx2;obtain ⟨_,_⟩:=hx3
 go_enter Tryz.func140,Tryz.ntmps140
 go_wp2
 refine wp_loop_rounds 5 ?_
 rw [rounds_succ];go_wp2
 rw [rounds_succ];go_wp2;go_region;go_wp2
 rw [rounds_succ];go_wp2;go_region;go_wp2
 rw [rounds_succ];go_wp2
 simp [bodyPost,results,Tryz.results140,go_sem]
 repeat (first|with_reducible exact Below.refl _ _|with_reducible refine Below.drew ?_|with_reducible refine Below.alloc ?_ (by first|omega|(simp;done)|(simp;omega)) _)
theorem Bi {x0 x1 x2 x3 n s:Int} (hx0:al x0) (hx1:al x1) (hx2:al x2) (hx3:al x3) (_n0:0≤n) (_n1:n≤255) (s0:0≤s) (s1:s≤63) (hq:n/64=2) (hr:n%64=s) (w:World) :
  Rt 140 #[.agg #[.int .u64 x0,.int .u64 x1,.int .u64 x2,.int .u64 x3],.int .i64 n] w (.agg #[.int .u64 0,.int .u64 0,.int .u64 (IntKind.u64.wrap (x0*2 ^ s.toNat)),.int .u64 (bits .or .u64 (IntKind.u64.wrap (x1*2 ^ s.toNat)) (x0/2 ^ (64-s).toNat))]):=by
 obtain ⟨_,_⟩:=hx0;obtain ⟨_,_⟩:=hx1;obtain ⟨_,_⟩:=hx2;obtain ⟨_,_⟩:=hx3
 go_enter Tryz.func140,Tryz.ntmps140
 go_wp2
 refine wp_loop_rounds 5 ?_
 rw [rounds_succ];go_wp2
 rw [rounds_succ];go_wp2;go_region;go_wp2
 rw [rounds_succ];go_wp2
 simp [bodyPost,results,Tryz.results140,go_sem]
 repeat (first|with_reducible exact Below.refl _ _|with_reducible refine Below.drew ?_|with_reducible refine Below.alloc ?_ (by first|omega|(simp;done)|(simp;omega)) _)
theorem Bj {x0 x1 x2 x3 n s:Int} (hx0:al x0) (hx1:al x1) (hx2:al x2) (hx3:al x3) (_n0:0≤n) (_n1:n≤255) (s0:0≤s) (s1:s≤63) (hq:n/64=3) (hr:n%64=s) (w:World) :
  Rt 140 #[.agg #[.int .u64 x0,.int .u64 x1,.int .u64 x2,.int .u64 x3],.int .i64 n] w (.agg #[.int .u64 0,.int .u64 0,.int .u64 0,.int .u64 (IntKind.u64.wrap (x0*2 ^ s.toNat))]):=by
 obtain ⟨_,_⟩:=hx0;obtain ⟨_,_⟩:=hx1;obtain ⟨_,_⟩:=hx2;obtain ⟨_,_⟩:=hx3
 go_enter Tryz.func140,Tryz.ntmps140
 go_wp2
 refine wp_loop_rounds 5 ?_
 rw [rounds_succ];go_wp2
 rw [rounds_succ];go_wp2
 simp [bodyPost,results,Tryz.results140,go_sem]
 repeat (first|with_reducible exact Below.refl _ _|with_reducible refine Below.drew ?_|with_reducible refine Below.alloc ?_ (by first|omega|(simp;done)|(simp;omega)) _)
theorem zH {x0 x1 x2 x3 n s:Int} (hx0:al x0) (hx1:al x1) (hx2:al x2) (hx3:al x3) (_n0:0≤n) (_n1:n≤255) (s0:0≤s) (s1:s≤63) (hq:n/64=0) (hr:n%64=s) (w:World) :
  Rt 141 #[.agg #[.int .u64 x0,.int .u64 x1,.int .u64 x2,.int .u64 x3],.int .i64 n] w (.agg #[.int .u64 (bits .or .u64 (x0/2 ^ s.toNat) (IntKind.u64.wrap (x1*2 ^ (64-s).toNat))),.int .u64 (bits .or .u64 (x1/2 ^ s.toNat) (IntKind.u64.wrap (x2*2 ^ (64-s).toNat))),.int .u64 (bits .or .u64 (x2/2 ^ s.toNat) (IntKind.u64.wrap (x3*2 ^ (64-s).toNat))),.int .u64 (x3/2 ^ s.toNat)]):=by
 obtain ⟨_,_⟩:=hx0;obtain ⟨_,_⟩:=hx1;obtain ⟨_,_⟩:=hx2;obtain ⟨_,_⟩:=hx3
 go_enter Tryz.func141,Tryz.ntmps141
 go_wp2
 refine wp_loop_rounds 5 ?_
 rw [rounds_succ];go_wp2
 rw [rounds_succ];go_wp2;go_region;go_wp2
 rw [rounds_succ];go_wp2;go_region;go_wp2
 rw [rounds_succ];go_wp2;go_region;go_wp2
 rw [rounds_succ];go_wp2
 simp [bodyPost,results,Tryz.results141,go_sem]
 repeat (first|with_reducible exact Below.refl _ _|with_reducible refine Below.drew ?_|with_reducible refine Below.alloc ?_ (by first|omega|(simp;done)|(simp;omega)) _)
theorem zI {x0 x1 x2 x3 n s:Int} (hx0:al x0) (hx1:al x1) (hx2:al x2) (hx3:al x3) (_n0:0≤n) (_n1:n≤255) (s0:0≤s) (s1:s≤63) (hq:n/64=1) (hr:n%64=s) (w:World) :
  Rt 141 #[.agg #[.int .u64 x0,.int .u64 x1,.int .u64 x2,.int .u64 x3],.int .i64 n] w (.agg #[.int .u64 (bits .or .u64 (x1/2 ^ s.toNat) (IntKind.u64.wrap (x2*2 ^ (64-s).toNat))),.int .u64 (bits .or .u64 (x2/2 ^ s.toNat) (IntKind.u64.wrap (x3*2 ^ (64-s).toNat))),.int .u64 (x3/2 ^ s.toNat),.int .u64 0]):=by
 obtain ⟨_,_⟩:=hx0;obtain ⟨_,_⟩:=hx1;obtain ⟨_,_⟩:=hx2;obtain ⟨_,_⟩:=hx3
 go_enter Tryz.func141,Tryz.ntmps141
 go_wp2
 refine wp_loop_rounds 5 ?_
 rw [rounds_succ];go_wp2
 rw [rounds_succ];go_wp2;go_region;go_wp2
 rw [rounds_succ];go_wp2;go_region;go_wp2
 rw [rounds_succ];go_wp2
 simp [bodyPost,results,Tryz.results141,go_sem]
 repeat (first|with_reducible exact Below.refl _ _|with_reducible refine Below.drew ?_|with_reducible refine Below.alloc ?_ (by first|omega|(simp;done)|(simp;omega)) _)
theorem zJ {x0 x1 x2 x3 n s:Int} (hx0:al x0) (hx1:al x1) (hx2:al x2) (hx3:al x3) (_n0:0≤n) (_n1:n≤255) (s0:0≤s) (s1:s≤63) (hq:n/64=2) (hr:n%64=s) (w:World) :
  Rt 141 #[.agg #[.int .u64 x0,.int .u64 x1,.int .u64 x2,.int .u64 x3],.int .i64 n] w (.agg #[.int .u64 (bits .or .u64 (x2/2 ^ s.toNat) (IntKind.u64.wrap (x3*2 ^ (64-s).toNat))),.int .u64 (x3/2 ^ s.toNat),.int .u64 0,.int .u64 0]):=by
 obtain ⟨_,_⟩:=hx0;obtain ⟨_,_⟩:=hx1;obtain ⟨_,_⟩:=hx2;obtain ⟨_,_⟩:=hx3
 go_enter Tryz.func141,Tryz.ntmps141
 go_wp2
 refine wp_loop_rounds 5 ?_
 rw [rounds_succ];go_wp2
 rw [rounds_succ];go_wp2;go_region;go_wp2
 rw [rounds_succ];go_wp2
 simp [bodyPost,results,Tryz.results141,go_sem]
 repeat (first|with_reducible exact Below.refl _ _|with_reducible refine Below.drew ?_|with_reducible refine Below.alloc ?_ (by first|omega|(simp;done)|(simp;omega)) _)
theorem zK {x0 x1 x2 x3 n s:Int} (hx0:al x0) (hx1:al x1) (hx2:al x2) (hx3:al x3) (_n0:0≤n) (_n1:n≤255) (s0:0≤s) (s1:s≤63) (hq:n/64=3) (hr:n%64=s) (w:World) :
  Rt 141 #[.agg #[.int .u64 x0,.int .u64 x1,.int .u64 x2,.int .u64 x3],.int .i64 n] w (.agg #[.int .u64 (x3/2 ^ s.toNat),.int .u64 0,.int .u64 0,.int .u64 0]):=by
 obtain ⟨_,_⟩:=hx0;obtain ⟨_,_⟩:=hx1;obtain ⟨_,_⟩:=hx2;obtain ⟨_,_⟩:=hx3
 go_enter Tryz.func141,Tryz.ntmps141
 go_wp2
 refine wp_loop_rounds 5 ?_
 rw [rounds_succ];go_wp2
 rw [rounds_succ];go_wp2
 simp [bodyPost,results,Tryz.results141,go_sem]
 repeat (first|with_reducible exact Below.refl _ _|with_reducible refine Below.drew ?_|with_reducible refine Below.alloc ?_ (by first|omega|(simp;done)|(simp;omega)) _)
open Go.RowKit
theorem bA {n s:Int} (q:Nat) (hs:0≤s) (h:n=64*q+s):(2:Int) ^ n.toNat=2 ^ (64*q)*2 ^ s.toNat:=by
 rw [←Int.pow_add];congr 1;omega
theorem sV {n k:Int} (hn:Num n):Num (de n k):=by
 obtain ⟨h0,h1⟩:=hn
 unfold de
 have p:(0:Int)<2 ^ k.toNat:=Int.pow_pos (by decide)
 exact ⟨Int.ediv_nonneg h0 (by omega),Int.lt_of_le_of_lt (Int.ediv_le_self _ h0) h1⟩
theorem iw {x s:Int} (hx:al x) (s0:0≤s) (s1:s≤63):bits .or .u64 (x/2 ^ s.toNat) (IntKind.u64.wrap (0*2 ^ (64-s).toNat))=x/2 ^ s.toNat:=by
 rw [kT hx ⟨by decide,by decide⟩ s0 s1,Int.zero_mul,IntKind.wrap_u64]
 omega
theorem zL {n k:Int} (hn:Num n) (k0:0≤k) (k1:k≤255) (w:World) :
  Calls Tryz.prog 140 #[.agg #[.int .u64 (l0 n),.int .u64 (l1 n),.int .u64 (l2 n),.int .u64 (l3 n)],.int .i64 k] w fun e w'=>e = .returned (.agg #[.int .u64 (l0 (upN n k)),.int .u64 (l1 (upN n k)),.int .u64 (l2 (upN n k)),.int .u64 (l3 (upN n k))])∧Below w.heap.size w w':=by
 have hx0:=aU n;have hx1:=aV n;have hx2:=aW n;have hx3:=bj n
 have en:=du hn
 have s0:0≤k%64:=by omega
 have s1:k%64≤63:=by omega
 obtain ⟨t0,t1,t2,t3,t4,w0,w1,w2,w3,w4,E,f0,f1,f2,f3,f4⟩:=xO hx0 hx1 hx2 hx3 s0 s1
 rcases (show k/64=0∨k/64=1∨k/64=2∨k/64=3 by omega) with hq|hq|hq|hq
 ·have hk:=bA 0 s0 (show k=64*(0:Nat)+k%64 by omega)
  have U:upN n k=num t0 t1 t2 t3:=by
   unfold upN
   rw [hk,show (2:Int) ^ (64*0)=1 by decide,Int.mul_comm 1,←Int.mul_assoc,←en,E]
   unfold num al at *
   omega
  obtain ⟨r0,r1,r2,r3⟩:=aZ w0 w1 w2 w3 U
  rw [r0,r1,r2,r3]
  rw [←f0,←f1,←f2,←f3]
  exact Bg hx0 hx1 hx2 hx3 k0 k1 s0 s1 hq rfl w
 ·have hk:=bA 1 s0 (show k=64*(1:Nat)+k%64 by omega)
  have U:upN n k=num 0 t0 t1 t2:=by
   unfold upN
   rw [hk,show (2:Int) ^ (64*1)=18446744073709551616 by decide,Int.mul_comm 18446744073709551616,←Int.mul_assoc,←en,E]
   unfold num al at *
   omega
  obtain ⟨r0,r1,r2,r3⟩:=aZ ⟨by decide,by decide⟩ w0 w1 w2 U
  rw [r0,r1,r2,r3]
  rw [←f0,←f1,←f2]
  exact Bh hx0 hx1 hx2 hx3 k0 k1 s0 s1 hq rfl w
 ·have hk:=bA 2 s0 (show k=64*(2:Nat)+k%64 by omega)
  have U:upN n k=num 0 0 t0 t1:=by
   unfold upN
   rw [hk,show (2:Int) ^ (64*2)=340282366920938463463374607431768211456 by decide,Int.mul_comm 340282366920938463463374607431768211456,←Int.mul_assoc,←en,E]
   unfold num al at *
   omega
  obtain ⟨r0,r1,r2,r3⟩:=aZ ⟨by decide,by decide⟩ ⟨by decide,by decide⟩ w0 w1 U
  rw [r0,r1,r2,r3]
  rw [←f0,←f1]
  exact Bi hx0 hx1 hx2 hx3 k0 k1 s0 s1 hq rfl w
 ·have hk:=bA 3 s0 (show k=64*(3:Nat)+k%64 by omega)
  have U:upN n k=num 0 0 0 t0:=by
   unfold upN
   rw [hk,show (2:Int) ^ (64*3)=6277101735386680763835789423207666416102355444464034512896 by decide,Int.mul_comm 6277101735386680763835789423207666416102355444464034512896,←Int.mul_assoc,←en,E]
   unfold num al at *
   omega
  obtain ⟨r0,r1,r2,r3⟩:=aZ ⟨by decide,by decide⟩ ⟨by decide,by decide⟩ ⟨by decide,by decide⟩ w0 U
  rw [r0,r1,r2,r3]
  rw [←f0]
  exact Bj hx0 hx1 hx2 hx3 k0 k1 s0 s1 hq rfl w
theorem uV {n k:Int} (hn:Num n) (k0:0≤k) (k1:k≤255) (w:World) :
  Calls Tryz.prog 141 #[.agg #[.int .u64 (l0 n),.int .u64 (l1 n),.int .u64 (l2 n),.int .u64 (l3 n)],.int .i64 k] w fun e w'=>e = .returned (.agg #[.int .u64 (l0 (de n k)),.int .u64 (l1 (de n k)),.int .u64 (l2 (de n k)),.int .u64 (l3 (de n k))])∧Below w.heap.size w w':=by
 have hx0:=aU n;have hx1:=aV n;have hx2:=aW n;have hx3:=bj n
 have en:=du hn
 have s0:0≤k%64:=by omega
 have s1:k%64≤63:=by omega
 have z:al 0:=⟨by decide,by decide⟩
 rcases (show k/64=0∨k/64=1∨k/64=2∨k/64=3 by omega) with hq|hq|hq|hq
 ·have hk:=bA 0 s0 (show k=64*(0:Nat)+k%64 by omega)
  obtain ⟨t0,t1,t2,t3,w0,w1,w2,w3,E,f0,f1,f2,f3⟩:=iu hx0 hx1 hx2 hx3 s0 s1
  have U:de n k=num t0 t1 t2 t3:=by
   unfold de
   rw [hk,show (2:Int) ^ (64*0)=1 by decide,←Int.ediv_ediv_of_nonneg (by decide),←E]
   congr 1
   conv=>lhs;rw [←en]
   generalize l0 n=a0 at *; generalize l1 n=a1 at *; generalize l2 n=a2 at *; generalize l3 n=a3 at *
   clear E f0 f1 f2 f3 en
   unfold num al at *
   omega
  obtain ⟨r0,r1,r2,r3⟩:=aZ w0 w1 w2 w3 U
  rw [r0,r1,r2,r3]
  rw [←f0,←f1,←f2,←f3]
  exact zH hx0 hx1 hx2 hx3 k0 k1 s0 s1 hq rfl w
 ·have hk:=bA 1 s0 (show k=64*(1:Nat)+k%64 by omega)
  obtain ⟨t0,t1,t2,t3,w0,w1,w2,w3,E,f0,f1,f2,f3⟩:=iu hx1 hx2 hx3 z s0 s1
  have U:de n k=num t0 t1 t2 t3:=by
   unfold de
   rw [hk,show (2:Int) ^ (64*1)=18446744073709551616 by decide,←Int.ediv_ediv_of_nonneg (by decide),←E]
   congr 1
   conv=>lhs;rw [←en]
   generalize l0 n=a0 at *; generalize l1 n=a1 at *; generalize l2 n=a2 at *; generalize l3 n=a3 at *
   clear E f0 f1 f2 f3 en
   unfold num al at *
   omega
  obtain ⟨r0,r1,r2,r3⟩:=aZ w0 w1 w2 w3 U
  rw [r0,r1,r2,r3]
  rw [iw hx3 s0 s1] at f2
  rw [Int.zero_ediv] at f3
  rw [←f0,←f1,←f2,←f3]
  exact zI hx0 hx1 hx2 hx3 k0 k1 s0 s1 hq rfl w
 ·have hk:=bA 2 s0 (show k=64*(2:Nat)+k%64 by omega)
  obtain ⟨t0,t1,t2,t3,w0,w1,w2,w3,E,f0,f1,f2,f3⟩:=iu hx2 hx3 z z s0 s1
  have U:de n k=num t0 t1 t2 t3:=by
   unfold de
   rw [hk,show (2:Int) ^ (64*2)=340282366920938463463374607431768211456 by decide,←Int.ediv_ediv_of_nonneg (by decide),←E]
   congr 1
   conv=>lhs;rw [←en]
   generalize l0 n=a0 at *; generalize l1 n=a1 at *; generalize l2 n=a2 at *; generalize l3 n=a3 at *
   clear E f0 f1 f2 f3 en
   unfold num al at *
   omega
  obtain ⟨r0,r1,r2,r3⟩:=aZ w0 w1 w2 w3 U
  rw [r0,r1,r2,r3]
  rw [iw hx3 s0 s1] at f1
  rw [iw z s0 s1,Int.zero_ediv] at f2
  rw [Int.zero_ediv] at f3
  rw [←f0,←f1,←f2,←f3]
  exact zJ hx0 hx1 hx2 hx3 k0 k1 s0 s1 hq rfl w
 ·have hk:=bA 3 s0 (show k=64*(3:Nat)+k%64 by omega)
  obtain ⟨t0,t1,t2,t3,w0,w1,w2,w3,E,f0,f1,f2,f3⟩:=iu hx3 z z z s0 s1
  have U:de n k=num t0 t1 t2 t3:=by
   unfold de
   rw [hk,show (2:Int) ^ (64*3)=6277101735386680763835789423207666416102355444464034512896 by decide,←Int.ediv_ediv_of_nonneg (by decide),←E]
   congr 1
   conv=>lhs;rw [←en]
   generalize l0 n=a0 at *; generalize l1 n=a1 at *; generalize l2 n=a2 at *; generalize l3 n=a3 at *
   clear E f0 f1 f2 f3 en
   unfold num al at *
   omega
  obtain ⟨r0,r1,r2,r3⟩:=aZ w0 w1 w2 w3 U
  rw [r0,r1,r2,r3]
  rw [iw hx3 s0 s1] at f0
  rw [iw z s0 s1,Int.zero_ediv] at f1
  rw [iw z s0 s1,Int.zero_ediv] at f2
  rw [Int.zero_ediv] at f3
  rw [←f0,←f1,←f2,←f3]
  exact zK hx0 hx1 hx2 hx3 k0 k1 s0 s1 hq rfl w
open Go.RowKit
def kg (n k:Int):Int:=if k≤-256∨256≤k then 0 else if k<0 then de n (-k) else upN n k
def mJ (n k:Int):Int:=if k≤-256∨256≤k then 0 else if k<0 then upN n (-k) else de n k
theorem aq:l0 0=0∧l1 0=0∧l2 0=0∧l3 0=0:=by decide
theorem bC (w:World):(Instr.build 24 #[]).run Tryz.prog w = .ok (.agg #[.int .u64 0,.int .u64 0,.int .u64 0,.int .u64 0]) w:=run_build w 24 _ _ (by kernel_rfl)
theorem xP {n k:Int} (h:k≤-256∨256≤k) (w:World) :
  Rt 107 #[U4 n,.int .i64 k] w (.agg #[.int .u64 (l0 0),.int .u64 (l1 0),.int .u64 (l2 0),.int .u64 (l3 0)]):=by
 obtain ⟨z0,z1,z2,z3⟩:=aq
 ((try delta U4 P9 Rt);rw [z0,z1,z2,z3])
 clear z0 z1 z2 z3
 have hb:=bC
 rcases h with h|h
 ·go_enter Tryz.func107,Tryz.ntmps107
  go_wp2
  simp [bodyPost,results,Tryz.results107,go_sem]
  repeat (first|with_reducible exact Below.refl _ _|with_reducible refine Below.drew ?_|with_reducible refine Below.alloc ?_ (by first|omega|(simp;done)|(simp;omega)) _)
 ·have h':¬k≤-256:=by omega
  go_enter Tryz.func107,Tryz.ntmps107
  go_wp2
  simp [bodyPost,results,Tryz.results107,go_sem]
  repeat (first|with_reducible exact Below.refl _ _|with_reducible refine Below.drew ?_|with_reducible refine Below.alloc ?_ (by first|omega|(simp;done)|(simp;omega)) _)
theorem uW {n k:Int} (hn:Num n) (h0:0≤k) (h1:k≤255) (w:World) :
  Rt 107 #[U4 n,.int .i64 k] w (U4 (de n k)):=by
 go_enter Tryz.func107,Tryz.ntmps107
 go_wp2_with fail
 refine (uV hn h0 h1 _).mono ?_
 rintro e w' ⟨rfl,hw⟩
 have hc:=aj hw
 go_wp2
 simp [bodyPost,results,Tryz.results107,go_sem,hc]
 clear hc
 have hz:=hw.size
 simp at hz
 repeat (first|with_reducible exact Below.refl _ _|with_reducible refine Below.drew ?_|with_reducible refine Below.setCell ?_ (by first|omega|(simp;done)|(simp;omega)) _|with_reducible refine Below.alloc ?_ (by first|omega|(simp;done)|(simp;omega)) _|with_reducible refine Below.trans ?_ (Below.mono hw (by first|omega|(simp;done)|(simp;omega))))
theorem xQ {n k:Int} (hn:Num n) (h0:k<0) (h1 : -255≤k) (w:World) :
  Rt 107 #[U4 n,.int .i64 k] w (U4 (upN n (-k))):=by
 go_enter Tryz.func107,Tryz.ntmps107
 go_wp2_with fail
 refine (zL hn (by omega) (by omega) _).mono ?_
 rintro e w' ⟨rfl,hw⟩
 have hc:=aj hw
 go_wp2
 simp [bodyPost,results,Tryz.results107,go_sem,hc]
 clear hc
 have hz:=hw.size
 simp at hz
 repeat (first|with_reducible exact Below.refl _ _|with_reducible refine Below.drew ?_|with_reducible refine Below.setCell ?_ (by first|omega|(simp;done)|(simp;omega)) _|with_reducible refine Below.alloc ?_ (by first|omega|(simp;done)|(simp;omega)) _|with_reducible refine Below.trans ?_ (Below.mono hw (by first|omega|(simp;done)|(simp;omega))))
theorem xR {n k:Int} (hn:Num n) (w:World) :
  Rt 107 #[U4 n,.int .i64 k] w (U4 (mJ n k)):=by
 unfold mJ
 split
 ·rename_i h;exact xP h w
 ·split
  ·exact xQ hn (by omega) (by omega) w
  ·exact uW hn (by omega) (by omega) w
end Go.Proofs.YtnnnaajgjniiaaaGreatDoor

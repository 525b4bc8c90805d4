import Derived.Test.YtnnnaajgjniiaaaGreatDoorAdd
import Derived.Test.YtnnnaajgjniiaaaGreatDoorTail
import Derived.Test.YtnnnaajgjniiaaaGreatDoorMulNum
set_option maxHeartbeats 4000000
namespace Go.Proofs.YtnnnaajgjniiaaaGreatDoor
open Go.RowKit
theorem qF {n m:Int} (hn:Num n) (hm:Num m) (w:World) :
  Calls Tryz.prog 169 #[.agg #[.int .u64 (l0 n),.int .u64 (l1 n),.int .u64 (l2 n),.int .u64 (l3 n)],.agg #[.int .u64 (l0 m),.int .u64 (l1 m),.int .u64 (l2 m),.int .u64 (l3 m)]] w fun e w' =>
   e = .returned (.tuple #[.agg #[.int .u64 (l0 (hiN n m)),.int .u64 (l1 (hiN n m)),.int .u64 (l2 (hiN n m)),.int .u64 (l3 (hiN n m))],.agg #[.int .u64 (l0 (loN n m)),.int .u64 (l1 (loN n m)),.int .u64 (l2 (loN n m)),.int .u64 (l3 (loN n m))]])∧Below w.heap.size w w':=by
 have z:ai 0:=⟨by decide,by decide⟩
 have en:=fw hn
 have em:=fw hm
 have hx0:=bJ n;have hx1:=bK n;have hx2:=bL n;have hx3:=bO n
 have hy0:=bJ m;have hy1:=bK m;have hy2:=bL m;have hy3:=bO m
 generalize l0 n=x0 at *; generalize l1 n=x1 at *; generalize l2 n=x2 at *; generalize l3 n=x3 at *
 generalize l0 m=y0 at *; generalize l1 m=y1 at *; generalize l2 m=y2 at *; generalize l3 m=y3 at *
 have H00:Hid (∀ w,Calls Tryz.prog 188 #[.int .u64 x0,.int .u64 y0,.int .u64 0,.int .u64 0] w fun e w'=>e = .returned (.tuple #[.int .u64 (maH x0 y0 0 0),.int .u64 (maL x0 y0 0 0)])∧w'=w):=aK hx0 hy0 z z
 have e00:=dD x0 y0 0 0
 have wp00:=bj x0 y0 0 0
 have wc00:=bA hx0 hy0 z z
 generalize maL x0 y0 0 0=p00 at *
 generalize maH x0 y0 0 0=c00 at *
 have H01:Hid (∀ w,Calls Tryz.prog 188 #[.int .u64 x0,.int .u64 y1,.int .u64 0,.int .u64 c00] w fun e w'=>e = .returned (.tuple #[.int .u64 (maH x0 y1 0 c00),.int .u64 (maL x0 y1 0 c00)])∧w'=w):=aK hx0 hy1 z wc00
 have e01:=dD x0 y1 0 c00
 have wp01:=bj x0 y1 0 c00
 have wc01:=bA hx0 hy1 z wc00
 generalize maL x0 y1 0 c00=p01 at *
 generalize maH x0 y1 0 c00=c01 at *
 have H02:Hid (∀ w,Calls Tryz.prog 188 #[.int .u64 x0,.int .u64 y2,.int .u64 0,.int .u64 c01] w fun e w'=>e = .returned (.tuple #[.int .u64 (maH x0 y2 0 c01),.int .u64 (maL x0 y2 0 c01)])∧w'=w):=aK hx0 hy2 z wc01
 have e02:=dD x0 y2 0 c01
 have wp02:=bj x0 y2 0 c01
 have wc02:=bA hx0 hy2 z wc01
 generalize maL x0 y2 0 c01=p02 at *
 generalize maH x0 y2 0 c01=c02 at *
 have H03:Hid (∀ w,Calls Tryz.prog 188 #[.int .u64 x0,.int .u64 y3,.int .u64 0,.int .u64 c02] w fun e w'=>e = .returned (.tuple #[.int .u64 (maH x0 y3 0 c02),.int .u64 (maL x0 y3 0 c02)])∧w'=w):=aK hx0 hy3 z wc02
 have e03:=dD x0 y3 0 c02
 have wp03:=bj x0 y3 0 c02
 have wc03:=bA hx0 hy3 z wc02
 generalize maL x0 y3 0 c02=p03 at *
 generalize maH x0 y3 0 c02=c03 at *
 have H10:Hid (∀ w,Calls Tryz.prog 188 #[.int .u64 x1,.int .u64 y0,.int .u64 p01,.int .u64 0] w fun e w'=>e = .returned (.tuple #[.int .u64 (maH x1 y0 p01 0),.int .u64 (maL x1 y0 p01 0)])∧w'=w):=aK hx1 hy0 wp01 z
 have e10:=dD x1 y0 p01 0
 have wp10:=bj x1 y0 p01 0
 have wc10:=bA hx1 hy0 wp01 z
 generalize maL x1 y0 p01 0=p10 at *
 generalize maH x1 y0 p01 0=c10 at *
 have H11:Hid (∀ w,Calls Tryz.prog 188 #[.int .u64 x1,.int .u64 y1,.int .u64 p02,.int .u64 c10] w fun e w'=>e = .returned (.tuple #[.int .u64 (maH x1 y1 p02 c10),.int .u64 (maL x1 y1 p02 c10)])∧w'=w):=aK hx1 hy1 wp02 wc10
 have e11:=dD x1 y1 p02 c10
 have wp11:=bj x1 y1 p02 c10
 have wc11:=bA hx1 hy1 wp02 wc10
 generalize maL x1 y1 p02 c10=p11 at *
 generalize maH x1 y1 p02 c10=c11 at *
 have H12:Hid (∀ w,Calls Tryz.prog 188 #[.int .u64 x1,.int .u64 y2,.int .u64 p03,.int .u64 c11] w fun e w'=>e = .returned (.tuple #[.int .u64 (maH x1 y2 p03 c11),.int .u64 (maL x1 y2 p03 c11)])∧w'=w):=aK hx1 hy2 wp03 wc11
 have e12:=dD x1 y2 p03 c11
 have wp12:=bj x1 y2 p03 c11
 have wc12:=bA hx1 hy2 wp03 wc11
 generalize maL x1 y2 p03 c11=p12 at *
 generalize maH x1 y2 p03 c11=c12 at *
 have H13:Hid (∀ w,Calls Tryz.prog 188 #[.int .u64 x1,.int .u64 y3,.int .u64 c03,.int .u64 c12] w fun e w'=>e = .returned (.tuple #[.int .u64 (maH x1 y3 c03 c12),.int .u64 (maL x1 y3 c03 c12)])∧w'=w):=aK hx1 hy3 wc03 wc12
 have e13:=dD x1 y3 c03 c12
 have wp13:=bj x1 y3 c03 c12
 have wc13:=bA hx1 hy3 wc03 wc12
 generalize maL x1 y3 c03 c12=p13 at *
 generalize maH x1 y3 c03 c12=c13 at *
 have H20:Hid (∀ w,Calls Tryz.prog 188 #[.int .u64 x2,.int .u64 y0,.int .u64 p11,.int .u64 0] w fun e w'=>e = .returned (.tuple #[.int .u64 (maH x2 y0 p11 0),.int .u64 (maL x2 y0 p11 0)])∧w'=w):=aK hx2 hy0 wp11 z
 have e20:=dD x2 y0 p11 0
 have wp20:=bj x2 y0 p11 0
 have wc20:=bA hx2 hy0 wp11 z
 generalize maL x2 y0 p11 0=p20 at *
 generalize maH x2 y0 p11 0=c20 at *
 have H21:Hid (∀ w,Calls Tryz.prog 188 #[.int .u64 x2,.int .u64 y1,.int .u64 p12,.int .u64 c20] w fun e w'=>e = .returned (.tuple #[.int .u64 (maH x2 y1 p12 c20),.int .u64 (maL x2 y1 p12 c20)])∧w'=w):=aK hx2 hy1 wp12 wc20
 have e21:=dD x2 y1 p12 c20
 have wp21:=bj x2 y1 p12 c20
 have wc21:=bA hx2 hy1 wp12 wc20
 generalize maL x2 y1 p12 c20=p21 at *
 generalize maH x2 y1 p12 c20=c21 at *
 have H22:Hid (∀ w,Calls Tryz.prog 188 #[.int .u64 x2,.int .u64 y2,.int .u64 p13,.int .u64 c21] w fun e w'=>e = .returned (.tuple #[.int .u64 (maH x2 y2 p13 c21),.int .u64 (maL x2 y2 p13 c21)])∧w'=w):=aK hx2 hy2 wp13 wc21
 have e22:=dD x2 y2 p13 c21
 have wp22:=bj x2 y2 p13 c21
 have wc22:=bA hx2 hy2 wp13 wc21
 generalize maL x2 y2 p13 c21=p22 at *
 generalize maH x2 y2 p13 c21=c22 at *
 have H23:Hid (∀ w,Calls Tryz.prog 188 #[.int .u64 x2,.int .u64 y3,.int .u64 c13,.int .u64 c22] w fun e w'=>e = .returned (.tuple #[.int .u64 (maH x2 y3 c13 c22),.int .u64 (maL x2 y3 c13 c22)])∧w'=w):=aK hx2 hy3 wc13 wc22
 have e23:=dD x2 y3 c13 c22
 have wp23:=bj x2 y3 c13 c22
 have wc23:=bA hx2 hy3 wc13 wc22
 generalize maL x2 y3 c13 c22=p23 at *
 generalize maH x2 y3 c13 c22=c23 at *
 have H30:Hid (∀ w,Calls Tryz.prog 188 #[.int .u64 x3,.int .u64 y0,.int .u64 p21,.int .u64 0] w fun e w'=>e = .returned (.tuple #[.int .u64 (maH x3 y0 p21 0),.int .u64 (maL x3 y0 p21 0)])∧w'=w):=aK hx3 hy0 wp21 z
 have e30:=dD x3 y0 p21 0
 have wp30:=bj x3 y0 p21 0
 have wc30:=bA hx3 hy0 wp21 z
 generalize maL x3 y0 p21 0=p30 at *
 generalize maH x3 y0 p21 0=c30 at *
 have H31:Hid (∀ w,Calls Tryz.prog 188 #[.int .u64 x3,.int .u64 y1,.int .u64 p22,.int .u64 c30] w fun e w'=>e = .returned (.tuple #[.int .u64 (maH x3 y1 p22 c30),.int .u64 (maL x3 y1 p22 c30)])∧w'=w):=aK hx3 hy1 wp22 wc30
 have e31:=dD x3 y1 p22 c30
 have wp31:=bj x3 y1 p22 c30
 have wc31:=bA hx3 hy1 wp22 wc30
 generalize maL x3 y1 p22 c30=p31 at *
 generalize maH x3 y1 p22 c30=c31 at *
 have H32:Hid (∀ w,Calls Tryz.prog 188 #[.int .u64 x3,.int .u64 y2,.int .u64 p23,.int .u64 c31] w fun e w'=>e = .returned (.tuple #[.int .u64 (maH x3 y2 p23 c31),.int .u64 (maL x3 y2 p23 c31)])∧w'=w):=aK hx3 hy2 wp23 wc31
 have e32:=dD x3 y2 p23 c31
 have wp32:=bj x3 y2 p23 c31
 have wc32:=bA hx3 hy2 wp23 wc31
 generalize maL x3 y2 p23 c31=p32 at *
 generalize maH x3 y2 p23 c31=c32 at *
 have H33:Hid (∀ w,Calls Tryz.prog 188 #[.int .u64 x3,.int .u64 y3,.int .u64 c23,.int .u64 c32] w fun e w'=>e = .returned (.tuple #[.int .u64 (maH x3 y3 c23 c32),.int .u64 (maL x3 y3 c23 c32)])∧w'=w):=aK hx3 hy3 wc23 wc32
 have e33:=dD x3 y3 c23 c32
 have wp33:=bj x3 y3 c23 c32
 have wc33:=bA hx3 hy3 wc23 wc32
 generalize maL x3 y3 c23 c32=p33 at *
 generalize maH x3 y3 c23 c32=c33 at *
 have E:=tm (jV e00 e01 e02 e03) (jV e10 e11 e12 e13) (jV e20 e21 e22 e23) (jV e30 e31 e32 e33)
 rw [en,em] at E
 obtain ⟨eh,el⟩:=xY (jT wp00 wp10 wp20 wp30) E
 obtain ⟨h0,h1,h2,h3⟩:=bP wp31 wp32 wp33 wc33 eh
 obtain ⟨k0,k1,k2,k3⟩:=bP wp00 wp10 wp20 wp30 el
 rw [h0,h1,h2,h3,k0,k1,k2,k3]
 clear E eh el h0 h1 h2 h3 k0 k1 k2 k3 en em hn hm z hx0 hx1 hx2 hx3 hy0 hy1 hy2 hy3
 clear e00 wp00 wc00 e01 wp01 wc01 e02 wp02 wc02 e03 wp03 wc03 e10 wp10 wc10 e11 wp11 wc11 e12 wp12 wc12 e13 wp13 wc13 e20 wp20 wc20 e21 wp21 wc21 e22 wp22 wc22 e23 wp23 wc23 e30 wp30 wc30 e31 wp31 wc31 e32 wp32 wc32 e33 wp33 wc33
 go_enter Tryz.func169,Tryz.ntmps169
 go_wp2
 refine wp_loop_rounds 5 ?_
 rw [rounds_succ];go_wp2
 refine wp_loop_rounds 5 ?_
 rw [rounds_succ];go_wp2
 refine av 21 (by kernel_rfl) (by kernel_rfl) ?_
 simp only [List.take_succ_cons,List.take_zero,List.drop_succ_cons,List.drop_zero]
 repeat (first|go_big_quiet_skip|(go_big_quiet_want;go_big_quiet_op;first|go_big_quiet_on|(refine ⟨_,H00.out _,?_⟩;go_big_quiet_on)))
 refine wpQuiet_nil ?_
 go_wp2
 rw [rounds_succ];go_wp2
 refine av 21 (by kernel_rfl) (by kernel_rfl) ?_
 simp only [List.take_succ_cons,List.take_zero,List.drop_succ_cons,List.drop_zero]
 repeat (first|go_big_quiet_skip|(go_big_quiet_want;go_big_quiet_op;first|go_big_quiet_on|(refine ⟨_,H01.out _,?_⟩;go_big_quiet_on)))
 refine wpQuiet_nil ?_
 go_wp2
 rw [rounds_succ];go_wp2
 refine av 21 (by kernel_rfl) (by kernel_rfl) ?_
 simp only [List.take_succ_cons,List.take_zero,List.drop_succ_cons,List.drop_zero]
 repeat (first|go_big_quiet_skip|(go_big_quiet_want;go_big_quiet_op;first|go_big_quiet_on|(refine ⟨_,H02.out _,?_⟩;go_big_quiet_on)))
 refine wpQuiet_nil ?_
 go_wp2
 rw [rounds_succ];go_wp2
 refine av 21 (by kernel_rfl) (by kernel_rfl) ?_
 simp only [List.take_succ_cons,List.take_zero,List.drop_succ_cons,List.drop_zero]
 repeat (first|go_big_quiet_skip|(go_big_quiet_want;go_big_quiet_op;first|go_big_quiet_on|(refine ⟨_,H03.out _,?_⟩;go_big_quiet_on)))
 refine wpQuiet_nil ?_
 go_wp2
 rw [rounds_succ];go_wp2
 rw [rounds_succ];go_wp2
 refine wp_loop_rounds 5 ?_
 rw [rounds_succ];go_wp2
 refine av 21 (by kernel_rfl) (by kernel_rfl) ?_
 simp only [List.take_succ_cons,List.take_zero,List.drop_succ_cons,List.drop_zero]
 repeat (first|go_big_quiet_skip|(go_big_quiet_want;go_big_quiet_op;first|go_big_quiet_on|(refine ⟨_,H10.out _,?_⟩;go_big_quiet_on)))
 refine wpQuiet_nil ?_
 go_wp2
 rw [rounds_succ];go_wp2
 refine av 21 (by kernel_rfl) (by kernel_rfl) ?_
 simp only [List.take_succ_cons,List.take_zero,List.drop_succ_cons,List.drop_zero]
 repeat (first|go_big_quiet_skip|(go_big_quiet_want;go_big_quiet_op;first|go_big_quiet_on|(refine ⟨_,H11.out _,?_⟩;go_big_quiet_on)))
 refine wpQuiet_nil ?_
 go_wp2
 rw [rounds_succ];go_wp2
 refine av 21 (by kernel_rfl) (by kernel_rfl) ?_
 simp only [List.take_succ_cons,List.take_zero,List.drop_succ_cons,List.drop_zero]
 repeat (first|go_big_quiet_skip|(go_big_quiet_want;go_big_quiet_op;first|go_big_quiet_on|(refine ⟨_,H12.out _,?_⟩;go_big_quiet_on)))
 refine wpQuiet_nil ?_
 go_wp2
 rw [rounds_succ];go_wp2
 refine av 21 (by kernel_rfl) (by kernel_rfl) ?_
 simp only [List.take_succ_cons,List.take_zero,List.drop_succ_cons,List.drop_zero]
 repeat (first|go_big_quiet_skip|(go_big_quiet_want;go_big_quiet_op;first|go_big_quiet_on|(refine ⟨_,H13.out _,?_⟩;go_big_quiet_on)))
 refine wpQuiet_nil ?_
 go_wp2
 rw [rounds_succ];go_wp2
 rw [rounds_succ];go_wp2
 refine wp_loop_rounds 5 ?_
 rw [rounds_succ];go_wp2
 refine av 21 (by kernel_rfl) (by kernel_rfl) ?_
 simp only [List.take_succ_cons,List.take_zero,List.drop_succ_cons,List.drop_zero]
 repeat (first|go_big_quiet_skip|(go_big_quiet_want;go_big_quiet_op;first|go_big_quiet_on|(refine ⟨_,H20.out _,?_⟩;go_big_quiet_on)))
 refine wpQuiet_nil ?_
 go_wp2
 rw [rounds_succ];go_wp2
 refine av 21 (by kernel_rfl) (by kernel_rfl) ?_
 simp only [List.take_succ_cons,List.take_zero,List.drop_succ_cons,List.drop_zero]
 repeat (first|go_big_quiet_skip|(go_big_quiet_want;go_big_quiet_op;first|go_big_quiet_on|(refine ⟨_,H21.out _,?_⟩;go_big_quiet_on)))
 refine wpQuiet_nil ?_
 go_wp2
 rw [rounds_succ];go_wp2
 refine av 21 (by kernel_rfl) (by kernel_rfl) ?_
 simp only [List.take_succ_cons,List.take_zero,List.drop_succ_cons,List.drop_zero]
 repeat (first|go_big_quiet_skip|(go_big_quiet_want;go_big_quiet_op;first|go_big_quiet_on|(refine ⟨_,H22.out _,?_⟩;go_big_quiet_on)))
 refine wpQuiet_nil ?_
 go_wp2
 rw [rounds_succ];go_wp2
 refine av 21 (by kernel_rfl) (by kernel_rfl) ?_
 simp only [List.take_succ_cons,List.take_zero,List.drop_succ_cons,List.drop_zero]
 repeat (first|go_big_quiet_skip|(go_big_quiet_want;go_big_quiet_op;first|go_big_quiet_on|(refine ⟨_,H23.out _,?_⟩;go_big_quiet_on)))
 refine wpQuiet_nil ?_
 go_wp2
 rw [rounds_succ];go_wp2
 rw [rounds_succ];go_wp2
 refine wp_loop_rounds 5 ?_
 rw [rounds_succ];go_wp2
 refine av 21 (by kernel_rfl) (by kernel_rfl) ?_
 simp only [List.take_succ_cons,List.take_zero,List.drop_succ_cons,List.drop_zero]
 repeat (first|go_big_quiet_skip|(go_big_quiet_want;go_big_quiet_op;first|go_big_quiet_on|(refine ⟨_,H30.out _,?_⟩;go_big_quiet_on)))
 refine wpQuiet_nil ?_
 go_wp2
 rw [rounds_succ];go_wp2
 refine av 21 (by kernel_rfl) (by kernel_rfl) ?_
 simp only [List.take_succ_cons,List.take_zero,List.drop_succ_cons,List.drop_zero]
 repeat (first|go_big_quiet_skip|(go_big_quiet_want;go_big_quiet_op;first|go_big_quiet_on|(refine ⟨_,H31.out _,?_⟩;go_big_quiet_on)))
 refine wpQuiet_nil ?_
 go_wp2
 rw [rounds_succ];go_wp2
 refine av 21 (by kernel_rfl) (by kernel_rfl) ?_
 simp only [List.take_succ_cons,List.take_zero,List.drop_succ_cons,List.drop_zero]
 repeat (first|go_big_quiet_skip|(go_big_quiet_want;go_big_quiet_op;first|go_big_quiet_on|(refine ⟨_,H32.out _,?_⟩;go_big_quiet_on)))
 refine wpQuiet_nil ?_
 go_wp2
 rw [rounds_succ];go_wp2
 refine av 21 (by kernel_rfl) (by kernel_rfl) ?_
 simp only [List.take_succ_cons,List.take_zero,List.drop_succ_cons,List.drop_zero]
 repeat (first|go_big_quiet_skip|(go_big_quiet_want;go_big_quiet_op;first|go_big_quiet_on|(refine ⟨_,H33.out _,?_⟩;go_big_quiet_on)))
 refine wpQuiet_nil ?_
 go_wp2
 rw [rounds_succ];go_wp2
 rw [rounds_succ]
 go_wp2_with (go_at_call 189;refine (rB _ _ _ _ _ _ _ _ _).mono ?_;rintro e w' ⟨rfl,hw⟩;have hc:=al hw)
 have hz:=hw.size
 simp at hz
 simp [bodyPost,results,Tryz.results169,go_sem,hc]
 clear hc
 repeat (first|with_reducible exact Below.refl _ _|with_reducible refine Below.drew ?_|with_reducible refine Below.setCell ?_ (by first|omega|(simp;done)|(simp;omega)) _|with_reducible refine Below.alloc ?_ (by first|omega|(simp;done)|(simp;omega)) _|with_reducible refine Below.trans ?_ (Below.mono hw (by first|omega|(simp;done)|(simp;omega))))
open Go.RowKit
theorem zL {x0 x1 x2 x3 n s:Int} (hx0:ai x0) (hx1:ai x1) (hx2:ai x2) (hx3:ai x3) (_n0:0≤n) (_n1:n≤255) (s0:0≤s) (s1:s≤63) (hq:n/64=0) (hr:n%64=s) (w:World) :
  Calls Tryz.prog 140 #[.agg #[.int .u64 x0,.int .u64 x1,.int .u64 x2,.int .u64 x3],.int .i64 n] w fun e w'=>e = .returned (.agg #[.int .u64 (IntKind.u64.wrap (x0*2 ^ s.toNat)),.int .u64 (bits .or .u64 (IntKind.u64.wrap (x1*2 ^ s.toNat)) (x0/2 ^ (64-s).toNat)),.int .u64 (bits .or .u64 (IntKind.u64.wrap (x2*2 ^ s.toNat)) (x1/2 ^ (64-s).toNat)),.int .u64 (bits .or .u64 (IntKind.u64.wrap (x3*2 ^ s.toNat)) (x2/2 ^ (64-s).toNat))])∧Below w.heap.size w w':=by
 obtain ⟨_,_⟩:=hx0;obtain ⟨_,_⟩:=hx1;obtain ⟨_,_⟩:=hx2;obtain ⟨_,_⟩:=hx3
 go_enter Tryz.func140,Tryz.ntmps140
 go_wp2
 refine wp_loop_rounds 5 ?_
 rw [rounds_succ];go_wp2
 rw [rounds_succ];go_wp2;go_region;go_wp2
 rw [rounds_succ];go_wp2;go_region;go_wp2
 rw [rounds_succ];go_wp2;go_region;go_wp2
 rw [rounds_succ];go_wp2
 simp [bodyPost,results,Tryz.results140,go_sem]
 repeat (first|with_reducible exact Below.refl _ _|with_reducible refine Below.drew ?_|with_reducible refine Below.alloc ?_ (by first|omega|(simp;done)|(simp;omega)) _)
theorem zM {x0 x1 x2 x3 n s:Int} (hx0:ai x0) (hx1:ai x1) (hx2:ai x2) (hx3:ai x3) (_n0:0≤n) (_n1:n≤255) (s0:0≤s) (s1:s≤63) (hq:n/64=1) (hr:n%64=s) (w:World) :
  Calls Tryz.prog 140 #[.agg #[.int .u64 x0,.int .u64 x1,.int .u64 x2,.int .u64 x3],.int .i64 n] w fun e w'=>e = .returned (.agg #[.int .u64 0,.int .u64 (IntKind.u64.wrap (x0*2 ^ s.toNat)),.int .u64 (bits .or .u64 (IntKind.u64.wrap (x1*2 ^ s.toNat)) (x0/2 ^ (64-s).toNat)),.int .u64 (bits .or .u64 (IntKind.u64.wrap (x2*2 ^ s.toNat)) (x1/2 ^ (64-s).toNat))])∧Below w.heap.size w w':=by
 obtain ⟨_,_⟩:=hx0;obtain ⟨_,_⟩:=hx1;obtain ⟨_,_⟩:=hx2;obtain ⟨_,_⟩:=hx3
 go_enter Tryz.func140,Tryz.ntmps140
 go_wp2
 refine wp_loop_rounds 5 ?_
 rw [rounds_succ];go_wp2
 rw [rounds_succ];go_wp2;go_region;go_wp2
 rw [rounds_succ];go_wp2;go_region;go_wp2
 rw [rounds_succ];go_wp2
 simp [bodyPost,results,Tryz.results140,go_sem]
 repeat (first|with_reducible exact Below.refl _ _|with_reducible refine Below.drew ?_|with_reducible refine Below.alloc ?_ (by first|omega|(simp;done)|(simp;omega)) _)
theorem zN {x0 x1 x2 x3 n s:Int} (hx0:ai x0) (hx1:ai x1) (hx2:ai x2) (hx3:ai x3) (_n0:0≤n) (_n1:n≤255) (s0:0≤s) (s1:s≤63) (hq:n/64=2) (hr:n%64=s) (w:World) :
  Calls Tryz.prog 140 #[.agg #[.int .u64 x0,.int .u64 x1,.int .u64 x2,.int .u64 x3],.int .i64 n] w fun e w'=>e = .returned (.agg #[.int .u64 0,.int .u64 0,.int .u64 (IntKind.u64.wrap (x0*2 ^ s.toNat)),.int .u64 (bits .or .u64 (IntKind.u64.wrap (x1*2 ^ s.toNat)) (x0/2 ^ (64-s).toNat))])∧Below w.heap.size w w':=by
 obtain ⟨_,_⟩:=hx0;obtain ⟨_,_⟩:=hx1;obtain ⟨_,_⟩:=hx2;obtain ⟨_,_⟩:=hx3
 go_enter Tryz.func140,Tryz.ntmps140
 go_wp2
 refine wp_loop_rounds 5 ?_
 rw [rounds_succ];go_wp2
 rw [rounds_succ];go_wp2;go_region;go_wp2
 rw [rounds_succ];go_wp2
 simp [bodyPost,results,Tryz.results140,go_sem]
 repeat (first|with_reducible exact Below.refl _ _|with_reducible refine Below.drew ?_|with_reducible refine Below.alloc ?_ (by first|omega|(simp;done)|(simp;omega)) _)
theorem zO {x0 x1 x2 x3 n s:Int} (hx0:ai x0) (hx1:ai x1) (hx2:ai x2) (hx3:ai x3) (_n0:0≤n) (_n1:n≤255) (s0:0≤s) (s1:s≤63) (hq:n/64=3) (hr:n%64=s) (w:World) :
  Calls Tryz.prog 140 #[.agg #[.int .u64 x0,.int .u64 x1,.int .u64 x2,.int .u64 x3],.int .i64 n] w fun e w'=>e = .returned (.agg #[.int .u64 0,.int .u64 0,.int .u64 0,.int .u64 (IntKind.u64.wrap (x0*2 ^ s.toNat))])∧Below w.heap.size w w':=by
 obtain ⟨_,_⟩:=hx0;obtain ⟨_,_⟩:=hx1;obtain ⟨_,_⟩:=hx2;obtain ⟨_,_⟩:=hx3
 go_enter Tryz.func140,Tryz.ntmps140
 go_wp2
 refine wp_loop_rounds 5 ?_
 rw [rounds_succ];go_wp2
 rw [rounds_succ];go_wp2
 simp [bodyPost,results,Tryz.results140,go_sem]
 repeat (first|with_reducible exact Below.refl _ _|with_reducible refine Below.drew ?_|with_reducible refine Below.alloc ?_ (by first|omega|(simp;done)|(simp;omega)) _)
theorem xZ {x0 x1 x2 x3 n s:Int} (hx0:ai x0) (hx1:ai x1) (hx2:ai x2) (hx3:ai x3) (_n0:0≤n) (_n1:n≤255) (s0:0≤s) (s1:s≤63) (hq:n/64=0) (hr:n%64=s) (w:World) :
  Calls Tryz.prog 141 #[.agg #[.int .u64 x0,.int .u64 x1,.int .u64 x2,.int .u64 x3],.int .i64 n] w fun e w'=>e = .returned (.agg #[.int .u64 (bits .or .u64 (x0/2 ^ s.toNat) (IntKind.u64.wrap (x1*2 ^ (64-s).toNat))),.int .u64 (bits .or .u64 (x1/2 ^ s.toNat) (IntKind.u64.wrap (x2*2 ^ (64-s).toNat))),.int .u64 (bits .or .u64 (x2/2 ^ s.toNat) (IntKind.u64.wrap (x3*2 ^ (64-s).toNat))),.int .u64 (x3/2 ^ s.toNat)])∧Below w.heap.size w w':=by
 obtain ⟨_,_⟩:=hx0;obtain ⟨_,_⟩:=hx1;obtain ⟨_,_⟩:=hx2;obtain ⟨_,_⟩:=hx3
 go_enter Tryz.func141,Tryz.ntmps141
 go_wp2
 refine wp_loop_rounds 5 ?_
 rw [rounds_succ];go_wp2
 rw [rounds_succ];go_wp2;go_region;go_wp2
 rw [rounds_succ];go_wp2;go_region;go_wp2
 rw [rounds_succ];go_wp2;go_region;go_wp2
 rw [rounds_succ];go_wp2
 simp [bodyPost,results,Tryz.results141,go_sem]
 repeat (first|with_reducible exact Below.refl _ _|with_reducible refine Below.drew ?_|with_reducible refine Below.alloc ?_ (by first|omega|(simp;done)|(simp;omega)) _)
theorem ya {x0 x1 x2 x3 n s:Int} (hx0:ai x0) (hx1:ai x1) (hx2:ai x2) (hx3:ai x3) (_n0:0≤n) (_n1:n≤255) (s0:0≤s) (s1:s≤63) (hq:n/64=1) (hr:n%64=s) (w:World) :
  Calls Tryz.prog 141 #[.agg #[.int .u64 x0,.int .u64 x1,.int .u64 x2,.int .u64 x3],.int .i64 n] w fun e w'=>e = .returned (.agg #[.int .u64 (bits .or .u64 (x1/2 ^ s.toNat) (IntKind.u64.wrap (x2*2 ^ (64-s).toNat))),.int .u64 (bits .or .u64 (x2/2 ^ s.toNat) (IntKind.u64.wrap (x3*2 ^ (64-s).toNat))),.int .u64 (x3/2 ^ s.toNat),.int .u64 0])∧Below w.heap.size w w':=by
 obtain ⟨_,_⟩:=hx0;obtain ⟨_,_⟩:=hx1;obtain ⟨_,_⟩:=hx2;obtain ⟨_,_⟩:=hx3
 go_enter Tryz.func141,Tryz.ntmps141
 go_wp2
 refine wp_loop_rounds 5 ?_
 rw [rounds_succ];go_wp2
 rw [rounds_succ];go_wp2;go_region;go_wp2
 rw [rounds_succ];go_wp2;go_region;go_wp2
 rw [rounds_succ];go_wp2
 simp [bodyPost,results,Tryz.results141,go_sem]
 repeat (first|with_reducible exact Below.refl _ _|with_reducible refine Below.drew ?_|with_reducible refine Below.alloc ?_ (by first|omega|(simp;done)|(simp;omega)) _)
theorem yb {x0 x1 x2 x3 n s:Int} (hx0:ai x0) (hx1:ai x1) (hx2:ai x2) (hx3:ai x3) (_n0:0≤n) (_n1:n≤255) (s0:0≤s) (s1:s≤63) (hq:n/64=2) (hr:n%64=s) (w:World) :
  Calls Tryz.prog 141 #[.agg #[.int .u64 x0,.int .u64 x1,.int .u64 x2,.int .u64 x3],.int .i64 n] w fun e w'=>e = .returned (.agg #[.int .u64 (bits .or .u64 (x2/2 ^ s.toNat) (IntKind.u64.wrap (x3*2 ^ (64-s).toNat))),.int .u64 (x3/2 ^ s.toNat),.int .u64 0,.int .u64 0])∧Below w.heap.size w w':=by
 obtain ⟨_,_⟩:=hx0;obtain ⟨_,_⟩:=hx1;obtain ⟨_,_⟩:=hx2;obtain ⟨_,_⟩:=hx3
 go_enter Tryz.func141,Tryz.ntmps141
 go_wp2
 refine wp_loop_rounds 5 ?_
 rw [rounds_succ];go_wp2
 rw [rounds_succ];go_wp2;go_region;go_wp2
 rw [rounds_succ];go_wp2
 simp [bodyPost,results,Tryz.results141,go_sem]
 repeat (first|with_reducible exact Below.refl _ _|with_reducible refine Below.drew ?_|with_reducible refine Below.alloc ?_ (by first|omega|(simp;done)|(simp;omega)) _)
theorem yc {x0 x1 x2 x3 n s:Int} (hx0:ai x0) (hx1:ai x1) (hx2:ai x2) (hx3:ai x3) (_n0:0≤n) (_n1:n≤255) (s0:0≤s) (s1:s≤63) (hq:n/64=3) (hr:n%64=s) (w:World) :
  Calls Tryz.prog 141 #[.agg #[.int .u64 x0,.int .u64 x1,.int .u64 x2,.int .u64 x3],.int .i64 n] w fun e w'=>e = .returned (.agg #[.int .u64 (x3/2 ^ s.toNat),.int .u64 0,.int .u64 0,.int .u64 0])∧Below w.heap.size w w':=by
 obtain ⟨_,_⟩:=hx0;obtain ⟨_,_⟩:=hx1;obtain ⟨_,_⟩:=hx2;obtain ⟨_,_⟩:=hx3
 go_enter Tryz.func141,Tryz.ntmps141
 go_wp2
 refine wp_loop_rounds 5 ?_
 rw [rounds_succ];go_wp2
 rw [rounds_succ];go_wp2
 simp [bodyPost,results,Tryz.results141,go_sem]
 repeat (first|with_reducible exact Below.refl _ _|with_reducible refine Below.drew ?_|with_reducible refine Below.alloc ?_ (by first|omega|(simp;done)|(simp;omega)) _)
open Go.RowKit
theorem bH {n s:Int} (q:Nat) (hs:0≤s) (h:n=64*q+s):(2:Int) ^ n.toNat=2 ^ (64*q)*2 ^ s.toNat:=by
 rw [←Int.pow_add];congr 1;omega
theorem gi {x s:Int} (hx:ai x) (s0:0≤s) (s1:s≤63):bits .or .u64 (x/2 ^ s.toNat) (IntKind.u64.wrap (0*2 ^ (64-s).toNat))=x/2 ^ s.toNat:=by
 rw [jW hx ⟨by decide,by decide⟩ s0 s1,Int.zero_mul,IntKind.wrap_u64]
 omega
theorem yd {n k:Int} (hn:Num n) (k0:0≤k) (k1:k≤255) (w:World) :
  Calls Tryz.prog 140 #[.agg #[.int .u64 (l0 n),.int .u64 (l1 n),.int .u64 (l2 n),.int .u64 (l3 n)],.int .i64 k] w fun e w'=>e = .returned (.agg #[.int .u64 (l0 (upN n k)),.int .u64 (l1 (upN n k)),.int .u64 (l2 (upN n k)),.int .u64 (l3 (upN n k))])∧Below w.heap.size w w':=by
 have hx0:=bJ n;have hx1:=bK n;have hx2:=bL n;have hx3:=bO n
 have en:=fw hn
 have s0:0≤k%64:=by omega
 have s1:k%64≤63:=by omega
 obtain ⟨t0,t1,t2,t3,t4,w0,w1,w2,w3,w4,E,f0,f1,f2,f3,f4⟩:=wt hx0 hx1 hx2 hx3 s0 s1
 rcases (show k/64=0∨k/64=1∨k/64=2∨k/64=3 by omega) with hq|hq|hq|hq
 ·have hk:=bH 0 s0 (show k=64*(0:Nat)+k%64 by omega)
  have U:upN n k=num t0 t1 t2 t3:=by
   unfold upN
   rw [hk,show (2:Int) ^ (64*0)=1 by decide,Int.mul_comm 1,←Int.mul_assoc,←en,E]
   unfold num ai at *
   omega
  obtain ⟨r0,r1,r2,r3⟩:=bP w0 w1 w2 w3 U
  rw [r0,r1,r2,r3]
  rw [←f0,←f1,←f2,←f3]
  exact zL hx0 hx1 hx2 hx3 k0 k1 s0 s1 hq rfl w
 ·have hk:=bH 1 s0 (show k=64*(1:Nat)+k%64 by omega)
  have U:upN n k=num 0 t0 t1 t2:=by
   unfold upN
   rw [hk,show (2:Int) ^ (64*1)=18446744073709551616 by decide,Int.mul_comm 18446744073709551616,←Int.mul_assoc,←en,E]
   unfold num ai at *
   omega
  obtain ⟨r0,r1,r2,r3⟩:=bP ⟨by decide,by decide⟩ w0 w1 w2 U
  rw [r0,r1,r2,r3]
  rw [←f0,←f1,←f2]
  exact zM hx0 hx1 hx2 hx3 k0 k1 s0 s1 hq rfl w
 ·have hk:=bH 2 s0 (show k=64*(2:Nat)+k%64 by omega)
  have U:upN n k=num 0 0 t0 t1:=by
   unfold upN
   rw [hk,show (2:Int) ^ (64*2)=340282366920938463463374607431768211456 by decide,Int.mul_comm 340282366920938463463374607431768211456,←Int.mul_assoc,←en,E]
   unfold num ai at *
   omega
  obtain ⟨r0,r1,r2,r3⟩:=bP ⟨by decide,by decide⟩ ⟨by decide,by decide⟩ w0 w1 U
  rw [r0,r1,r2,r3]
  rw [←f0,←f1]
  exact zN hx0 hx1 hx2 hx3 k0 k1 s0 s1 hq rfl w
 ·have hk:=bH 3 s0 (show k=64*(3:Nat)+k%64 by omega)
  have U:upN n k=num 0 0 0 t0:=by
   unfold upN
   rw [hk,show (2:Int) ^ (64*3)=6277101735386680763835789423207666416102355444464034512896 by decide,Int.mul_comm 6277101735386680763835789423207666416102355444464034512896,←Int.mul_assoc,←en,E]
   unfold num ai at *
   omega
  obtain ⟨r0,r1,r2,r3⟩:=bP ⟨by decide,by decide⟩ ⟨by decide,by decide⟩ ⟨by decide,by decide⟩ w0 U
  rw [r0,r1,r2,r3]
  rw [←f0]
  exact zO hx0 hx1 hx2 hx3 k0 k1 s0 s1 hq rfl w
theorem ts {n k:Int} (hn:Num n) (k0:0≤k) (k1:k≤255) (w:World) :
  Calls Tryz.prog 141 #[.agg #[.int .u64 (l0 n),.int .u64 (l1 n),.int .u64 (l2 n),.int .u64 (l3 n)],.int .i64 k] w fun e w'=>e = .returned (.agg #[.int .u64 (l0 (dl n k)),.int .u64 (l1 (dl n k)),.int .u64 (l2 (dl n k)),.int .u64 (l3 (dl n k))])∧Below w.heap.size w w':=by
 have hx0:=bJ n;have hx1:=bK n;have hx2:=bL n;have hx3:=bO n
 have en:=fw hn
 have s0:0≤k%64:=by omega
 have s1:k%64≤63:=by omega
 have z:ai 0:=⟨by decide,by decide⟩
 rcases (show k/64=0∨k/64=1∨k/64=2∨k/64=3 by omega) with hq|hq|hq|hq
 ·have hk:=bH 0 s0 (show k=64*(0:Nat)+k%64 by omega)
  obtain ⟨t0,t1,t2,t3,w0,w1,w2,w3,E,f0,f1,f2,f3⟩:=gh hx0 hx1 hx2 hx3 s0 s1
  have U:dl n k=num t0 t1 t2 t3:=by
   unfold dl
   rw [hk,show (2:Int) ^ (64*0)=1 by decide,←Int.ediv_ediv_of_nonneg (by decide),←E]
   congr 1
   conv=>lhs;rw [←en]
   generalize l0 n=a0 at *; generalize l1 n=a1 at *; generalize l2 n=a2 at *; generalize l3 n=a3 at *
   clear E f0 f1 f2 f3 en
   unfold num ai at *
   omega
  obtain ⟨r0,r1,r2,r3⟩:=bP w0 w1 w2 w3 U
  rw [r0,r1,r2,r3]
  rw [←f0,←f1,←f2,←f3]
  exact xZ hx0 hx1 hx2 hx3 k0 k1 s0 s1 hq rfl w
 ·have hk:=bH 1 s0 (show k=64*(1:Nat)+k%64 by omega)
  obtain ⟨t0,t1,t2,t3,w0,w1,w2,w3,E,f0,f1,f2,f3⟩:=gh hx1 hx2 hx3 z s0 s1
  have U:dl n k=num t0 t1 t2 t3:=by
   unfold dl
   rw [hk,show (2:Int) ^ (64*1)=18446744073709551616 by decide,←Int.ediv_ediv_of_nonneg (by decide),←E]
   congr 1
   conv=>lhs;rw [←en]
   generalize l0 n=a0 at *; generalize l1 n=a1 at *; generalize l2 n=a2 at *; generalize l3 n=a3 at *
   clear E f0 f1 f2 f3 en
   unfold num ai at *
   omega
  obtain ⟨r0,r1,r2,r3⟩:=bP w0 w1 w2 w3 U
  rw [r0,r1,r2,r3]
  rw [gi hx3 s0 s1] at f2
  rw [Int.zero_ediv] at f3
  rw [←f0,←f1,←f2,←f3]
  exact ya hx0 hx1 hx2 hx3 k0 k1 s0 s1 hq rfl w
 ·have hk:=bH 2 s0 (show k=64*(2:Nat)+k%64 by omega)
  obtain ⟨t0,t1,t2,t3,w0,w1,w2,w3,E,f0,f1,f2,f3⟩:=gh hx2 hx3 z z s0 s1
  have U:dl n k=num t0 t1 t2 t3:=by
   unfold dl
   rw [hk,show (2:Int) ^ (64*2)=340282366920938463463374607431768211456 by decide,←Int.ediv_ediv_of_nonneg (by decide),←E]
   congr 1
   conv=>lhs;rw [←en]
   generalize l0 n=a0 at *; generalize l1 n=a1 at *; generalize l2 n=a2 at *; generalize l3 n=a3 at *
   clear E f0 f1 f2 f3 en
   unfold num ai at *
   omega
  obtain ⟨r0,r1,r2,r3⟩:=bP w0 w1 w2 w3 U
  rw [r0,r1,r2,r3]
  rw [gi hx3 s0 s1] at f1
  rw [gi z s0 s1,Int.zero_ediv] at f2
  rw [Int.zero_ediv] at f3
  rw [←f0,←f1,←f2,←f3]
  exact yb hx0 hx1 hx2 hx3 k0 k1 s0 s1 hq rfl w
 ·have hk:=bH 3 s0 (show k=64*(3:Nat)+k%64 by omega)
  obtain ⟨t0,t1,t2,t3,w0,w1,w2,w3,E,f0,f1,f2,f3⟩:=gh hx3 z z z s0 s1
  have U:dl n k=num t0 t1 t2 t3:=by
   unfold dl
   rw [hk,show (2:Int) ^ (64*3)=6277101735386680763835789423207666416102355444464034512896 by decide,←Int.ediv_ediv_of_nonneg (by decide),←E]
   congr 1
   conv=>lhs;rw [←en]
   generalize l0 n=a0 at *; generalize l1 n=a1 at *; generalize l2 n=a2 at *; generalize l3 n=a3 at *
   clear E f0 f1 f2 f3 en
   unfold num ai at *
   omega
  obtain ⟨r0,r1,r2,r3⟩:=bP w0 w1 w2 w3 U
  rw [r0,r1,r2,r3]
  rw [gi hx3 s0 s1] at f0
  rw [gi z s0 s1,Int.zero_ediv] at f1
  rw [gi z s0 s1,Int.zero_ediv] at f2
  rw [Int.zero_ediv] at f3
  rw [←f0,←f1,←f2,←f3]
  exact yc hx0 hx1 hx2 hx3 k0 k1 s0 s1 hq rfl w
open Go.RowKit
def mQ (n k:Int):Int:=if k≤-256∨256≤k then 0 else if k<0 then upN n (-k) else dl n k
theorem ap:l0 0=0∧l1 0=0∧l2 0=0∧l3 0=0:=by decide
theorem bE (w:World):(Instr.build 24 #[]).run Tryz.prog w = .ok (.agg #[.int .u64 0,.int .u64 0,.int .u64 0,.int .u64 0]) w:=run_build w 24 _ _ (by kernel_rfl)
theorem wu {n k:Int} (h:k≤-256∨256≤k) (w:World) :
  Calls Tryz.prog 107 #[.agg #[.int .u64 (l0 n),.int .u64 (l1 n),.int .u64 (l2 n),.int .u64 (l3 n)],.int .i64 k] w fun e w'=>e = .returned (.agg #[.int .u64 (l0 0),.int .u64 (l1 0),.int .u64 (l2 0),.int .u64 (l3 0)])∧Below w.heap.size w w':=by
 obtain ⟨z0,z1,z2,z3⟩:=ap
 rw [z0,z1,z2,z3]
 clear z0 z1 z2 z3
 have hb:=bE
 rcases h with h|h
 ·go_enter Tryz.func107,Tryz.ntmps107
  go_wp2
  simp [bodyPost,results,Tryz.results107,go_sem]
  repeat (first|with_reducible exact Below.refl _ _|with_reducible refine Below.drew ?_|with_reducible refine Below.alloc ?_ (by first|omega|(simp;done)|(simp;omega)) _)
 ·have h':¬k≤-256:=by omega
  go_enter Tryz.func107,Tryz.ntmps107
  go_wp2
  simp [bodyPost,results,Tryz.results107,go_sem]
  repeat (first|with_reducible exact Below.refl _ _|with_reducible refine Below.drew ?_|with_reducible refine Below.alloc ?_ (by first|omega|(simp;done)|(simp;omega)) _)
theorem tw {n k:Int} (hn:Num n) (h0:0≤k) (h1:k≤255) (w:World) :
  Calls Tryz.prog 107 #[.agg #[.int .u64 (l0 n),.int .u64 (l1 n),.int .u64 (l2 n),.int .u64 (l3 n)],.int .i64 k] w fun e w'=>e = .returned (.agg #[.int .u64 (l0 (dl n k)),.int .u64 (l1 (dl n k)),.int .u64 (l2 (dl n k)),.int .u64 (l3 (dl n k))])∧Below w.heap.size w w':=by
 go_enter Tryz.func107,Tryz.ntmps107
 go_wp2_with fail
 refine (ts hn h0 h1 _).mono ?_
 rintro e w' ⟨rfl,hw⟩
 have hc:=al hw
 go_wp2
 simp [bodyPost,results,Tryz.results107,go_sem,hc]
 clear hc
 have hz:=hw.size
 simp at hz
 repeat (first|with_reducible exact Below.refl _ _|with_reducible refine Below.drew ?_|with_reducible refine Below.setCell ?_ (by first|omega|(simp;done)|(simp;omega)) _|with_reducible refine Below.alloc ?_ (by first|omega|(simp;done)|(simp;omega)) _|with_reducible refine Below.trans ?_ (Below.mono hw (by first|omega|(simp;done)|(simp;omega))))
theorem wv {n k:Int} (hn:Num n) (h0:k<0) (h1 : -255≤k) (w:World) :
  Calls Tryz.prog 107 #[.agg #[.int .u64 (l0 n),.int .u64 (l1 n),.int .u64 (l2 n),.int .u64 (l3 n)],.int .i64 k] w fun e w'=>e = .returned (.agg #[.int .u64 (l0 (upN n (-k))),.int .u64 (l1 (upN n (-k))),.int .u64 (l2 (upN n (-k))),.int .u64 (l3 (upN n (-k)))])∧Below w.heap.size w w':=by
 go_enter Tryz.func107,Tryz.ntmps107
 go_wp2_with fail
 refine (yd hn (by omega) (by omega) _).mono ?_
 rintro e w' ⟨rfl,hw⟩
 have hc:=al hw
 go_wp2
 simp [bodyPost,results,Tryz.results107,go_sem,hc]
 clear hc
 have hz:=hw.size
 simp at hz
 repeat (first|with_reducible exact Below.refl _ _|with_reducible refine Below.drew ?_|with_reducible refine Below.setCell ?_ (by first|omega|(simp;done)|(simp;omega)) _|with_reducible refine Below.alloc ?_ (by first|omega|(simp;done)|(simp;omega)) _|with_reducible refine Below.trans ?_ (Below.mono hw (by first|omega|(simp;done)|(simp;omega))))
theorem qG {n k:Int} (hn:Num n) (w:World) :
  Calls Tryz.prog 107 #[.agg #[.int .u64 (l0 n),.int .u64 (l1 n),.int .u64 (l2 n),.int .u64 (l3 n)],.int .i64 k] w fun e w'=>e = .returned (.agg #[.int .u64 (l0 (mQ n k)),.int .u64 (l1 (mQ n k)),.int .u64 (l2 (mQ n k)),.int .u64 (l3 (mQ n k))])∧Below w.heap.size w w':=by
 unfold mQ
 split
 ·rename_i h;exact wu h w
 ·split
  ·exact wv hn (by omega) (by omega) w
  ·exact tw hn (by omega) (by omega) w
end Go.Proofs.YtnnnaajgjniiaaaGreatDoor

import Derived.Test.YtjoandmehahfgaaGreatDoorRows
import Derived.Test.YtjoandmehahfgaaGreatDoorNum
import Derived.WalkKit
import Derived.WalkSpells
import Derived.WalkLawsBesides
import Derived.Laws.Externs
import Derived.Shelf.Spec.BitsCarry
import Derived.Lib.Mul64
import Derived.Laws.Bits64b
set_option maxHeartbeats 1000000
namespace Go.Proofs.YtjoandmehahfgaaGreatDoor
open Go.RowKit
theorem uE (x y c:Nat) (hc:c≤1) (w:World) :
  (callFunc 124 #[.int .u64 x,.int .u64 y,.int .u64 c]).run Tryz.prog w =
   .ok (.value (.tuple #[.int .u64 (((x+y+c)%18446744073709551616:Nat):Int),.int .u64 (((x+y+c)/18446744073709551616:Nat):Int)])) w:=by
 rw [run_callFunc_extern Tryz.func124 (by kernel_rfl) (by kernel_rfl) (by kernel_rfl) (e:=add64Entry) (by kernel_rfl),run_add64 x y c (by omega) (by omega) (by omega) (by omega)]
 simp only [Result.andThen]
 congr 5<;>omega
theorem uF (x y b:Nat) (hb:b≤1) (w:World) :
  (callFunc 127 #[.int .u64 x,.int .u64 y,.int .u64 b]).run Tryz.prog w =
   .ok (.value (.tuple #[.int .u64 (((x+18446744073709551616-y-b)%18446744073709551616:Nat):Int),.int .u64 ((if x<y+b then 1 else 0:Nat):Int)])) w:=by
 rw [run_callFunc_extern Tryz.func127 (by kernel_rfl) (by kernel_rfl) (by kernel_rfl) (e:=Go.Proofs.sub64Entry) (by kernel_rfl),Go.Proofs.run_sub64 x y b hb]
 rfl
theorem oH {x y c:Int} (hx:aj x) (hy:aj y) (hc:0≤c∧c≤1) (w:World):(callFunc 124 #[.int .u64 x,.int .u64 y,.int .u64 c]).run Tryz.prog w =
  .ok (.value (.tuple #[.int .u64 (dv x y c),.int .u64 (cY x y c)])) w:=by
 obtain ⟨x,rfl⟩:=Int.eq_ofNat_of_zero_le hx.1
 obtain ⟨y,rfl⟩:=Int.eq_ofNat_of_zero_le hy.1
 obtain ⟨c,rfl⟩:=Int.eq_ofNat_of_zero_le hc.1
 refine (uE x y c (by omega) w).trans ?_
 unfold dv cY
 congr 5<;>omega
theorem tP {x y b:Int} (hx:aj x) (hy:aj y) (hb:0≤b∧b≤1) (w:World):(callFunc 127 #[.int .u64 x,.int .u64 y,.int .u64 b]).run Tryz.prog w =
  .ok (.value (.tuple #[.int .u64 (eB x y b),.int .u64 (di x y b)])) w:=by
 obtain ⟨hx0,hx1⟩:=hx;obtain ⟨hy0,hy1⟩:=hy;obtain ⟨hb0,hb1⟩:=hb
 obtain ⟨x,rfl⟩:=Int.eq_ofNat_of_zero_le hx0
 obtain ⟨y,rfl⟩:=Int.eq_ofNat_of_zero_le hy0
 obtain ⟨b,rfl⟩:=Int.eq_ofNat_of_zero_le hb0
 have e1:(((x+18446744073709551616-y-b)%18446744073709551616:Nat):Int)=eB x y b:=by unfold eB;omega
 have e2:((if x<y+b then 1 else 0:Nat):Int)=di (x:Int) y b:=by unfold di;split<;>split<;>omega
 rw [←e1,←e2]
 exact uF x y b (by omega) w
theorem wQ {a:Nat} (h:a<18446744073709551616):bits .and .u64 (a:Int) 4294967295=((a%4294967296:Nat):Int):=by
 refine (bits_and_u64_nat a 4294967295 h (by decide)).trans ?_
 exact congrArg Int.ofNat (Nat.and_two_pow_sub_one_eq_mod a 32)
theorem BT (a:Nat):(a:Int)/4294967296=((a/4294967296:Nat):Int):=by omega
theorem ij {a:Nat} (h:a<18446744073709551616):IntKind.u64.wrap (a:Int)=(a:Int):=by rw [IntKind.wrap_u64];omega
theorem Dh (a:Nat):IntKind.u64.wrap (a:Int)=((a%18446744073709551616:Nat):Int):=by rw [IntKind.wrap_u64];omega
theorem Di (x y:Nat) (hx:x<18446744073709551616) (hy:y<18446744073709551616) (w:World) :
  Calls Tryz.prog 142 #[.int .u64 x,.int .u64 y] w fun e w'=>e = .returned (.tuple #[.int .u64 ((x*y/18446744073709551616:Nat):Int),.int .u64 ((x*y%18446744073709551616:Nat):Int)])∧w'=w:=by
 obtain ⟨s1,s2,s3,s4⟩:=Lib.mul64_hi x y hx hy
 have top:x*y/18446744073709551616<18446744073709551616:=by
  have:=Nat.mul_lt_mul'' hx hy
  omega
 obtain ⟨t1,t2,t3⟩:x/4294967296*(y/4294967296)<18446744073709551616∧x/4294967296*(y%4294967296)<18446744073709551616∧x%4294967296*(y/4294967296)<18446744073709551616:=by
  have q1:=Lib.half_mul_le (a:=x/4294967296) (b:=y/4294967296) (by omega) (by omega)
  have q2:=Lib.half_mul_le (a:=x/4294967296) (b:=y%4294967296) (by omega) (by omega)
  have q3:=Lib.half_mul_le (a:=x%4294967296) (b:=y/4294967296) (by omega) (by omega)
  exact ⟨by omega,by omega,by omega⟩
 have t5:=s4 ▸ top
 have t4:=Nat.lt_of_le_of_lt (Nat.le_add_right _ _) t5
 go_enter Tryz.func142,Tryz.ntmps142
 go_wp2
 simp only [wQ hx,wQ hy,BT,←Int.natCast_mul,←Int.natCast_add,ij s1,ij t2,ij s2,wQ s2,ij t3,ij s3,ij t1,ij t4,ij t5,Dh (x*y)]
 rw [s4]
 go_ret2
 exact ⟨rfl,rfl⟩
theorem uG {x y:Int} (hx:aj x) (hy:aj y) (w:World) :
  Calls Tryz.prog 142 #[.int .u64 x,.int .u64 y] w fun e w'=>e = .returned (.tuple #[.int .u64 (rU x y),.int .u64 (jL x y)])∧w'=w:=by
 obtain ⟨hx0,hx1⟩:=hx;obtain ⟨hy0,hy1⟩:=hy
 obtain ⟨x,rfl⟩:=Int.eq_ofNat_of_zero_le hx0
 obtain ⟨y,rfl⟩:=Int.eq_ofNat_of_zero_le hy0
 refine (Di x y (by omega) (by omega) w).mono ?_
 rintro e w' ⟨rfl,rfl⟩
 refine ⟨?_,rfl⟩
 unfold rU jL
 rw [Int.natCast_ediv,Int.natCast_emod,Int.natCast_mul]
 rfl
theorem aT {a b c d:Int} (ha:aj a) (hb:aj b) (hc:aj c) (hd:aj d) (w:World) :
  Calls Tryz.prog 134 #[.int .u64 a,.int .u64 b,.int .u64 c,.int .u64 d] w fun e w'=>e = .returned (.tuple #[.int .u64 (maH a b c d),.int .u64 (maL a b c d)])∧w'=w:=by
 obtain ⟨h0,h1,h2,h3,h4⟩:=pu ha hb hc hd
 rw [←h3,←h4]
 clear h3 h4
 have z:(0:Int)≤0∧(0:Int)≤1:=by decide
 obtain ⟨k1,k2⟩:=ii (oG a b) hc z
 obtain ⟨k3,k4⟩:=ii (eH (jL a b) c 0) hd z
 have g1:=oH (oG a b) hc z
 have g2:=oH (eH (jL a b) c 0) hd z
 clear z
 go_enter Tryz.func134,Tryz.ntmps134
 go_wp2_with (go_at_call 142;refine (uG ha hb _).mono ?_;rintro e w' ⟨rfl,rfl⟩)
 go_ret2
 exact ⟨rfl,rfl⟩
end Go.Proofs.YtjoandmehahfgaaGreatDoor

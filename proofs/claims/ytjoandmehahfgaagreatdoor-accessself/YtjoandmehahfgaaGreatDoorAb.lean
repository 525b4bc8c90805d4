import Derived.Test.YtjoandmehahfgaaGreatDoorRows
import Derived.Test.YtjoandmehahfgaaGreatDoorNum
import Derived.WalkKit
namespace Go.Proofs.YtjoandmehahfgaaGreatDoor
open Go.RowKit
abbrev U4 (x:Int):Value:=.agg #[.int .u64 (l0 x),.int .u64 (l1 x),.int .u64 (l2 x),.int .u64 (l3 x)]
abbrev P9 (x y:Int) (i:Bool):Value:=.agg #[.int .u64 (l0 x),.int .u64 (l1 x),.int .u64 (l2 x),.int .u64 (l3 x),.int .u64 (l0 y),.int .u64 (l1 y),.int .u64 (l2 y),.int .u64 (l3 y),.bool i]
abbrev Rt (f:FuncId) (a:Array Value) (w:World) (v:Value):Prop:=Calls Tryz.prog f a w fun e w'=>e = .returned v∧Below w.heap.size w w'
open Go.RowKit
def nxO:Nat→Option Code→Option Code
 | 0,c=>c
 | n+1,some (.seq _ b)=>nxO n (some b)
 | _+1,_=>none
def d6 (P:Program) (f:Func) (n:Nat) (Q:Exit→Act→World→Prop) (a:Act) (w:World):Prop:=∀ c,nxO n f.body=some c→c.wp P Q a w
theorem d6.intro {P:Program} {f:Func} {n:Nat} {Q:Exit→Act→World→Prop} {a:Act} {w:World} {c:Code} (h:nxO n f.body=some c) (k:c.wp P Q a w):d6 P f n Q a w:=fun c' h'=>by
 rw [h] at h'
 cases h'
 exact k
theorem d6.out {P:Program} {f:Func} {n:Nat} {Q:Exit→Act→World→Prop} {a:Act} {w:World} {c:Code} (k:d6 P f n Q a w) (h:nxO n f.body=some c):c.wp P Q a w:=k c h
end Go.Proofs.YtjoandmehahfgaaGreatDoor

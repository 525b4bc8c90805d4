import Derived.Test.YtnnnaajgjniiaaaGreatDoorRows
import Derived.WalkKit
namespace Go.Proofs.YtnnnaajgjniiaaaGreatDoor
open Go.RowKit
def nxO:Nat→Option Code→Option Code
 | 0,c=>c
 | n+1,some (.seq _ b)=>nxO n (some b)
 | _+1,_=>none
def ga (P:Program) (f:Func) (n:Nat) (Q:Exit→Act→World→Prop) (a:Act) (w:World):Prop:=∀ c,nxO n f.body=some c→c.wp P Q a w
theorem ga.intro {P:Program} {f:Func} {n:Nat} {Q:Exit→Act→World→Prop} {a:Act} {w:World} {c:Code} (h:nxO n f.body=some c) (k:c.wp P Q a w):ga P f n Q a w:=fun c' h'=>by
 rw [h] at h'
 cases h'
 exact k
theorem ga.out {P:Program} {f:Func} {n:Nat} {Q:Exit→Act→World→Prop} {a:Act} {w:World} {c:Code} (k:ga P f n Q a w) (h:nxO n f.body=some c):c.wp P Q a w:=k c h
end Go.Proofs.YtnnnaajgjniiaaaGreatDoor

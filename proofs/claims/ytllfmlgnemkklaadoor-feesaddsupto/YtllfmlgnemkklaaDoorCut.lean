import Derived.Test.YtllfmlgnemkklaaDoorRows
import Derived.WalkKit
/- The statements of a function from the n-th on, as a piece of their own. -/
namespace Go.Proofs.YtllfmlgnemkklaaDoor
open Go.RowKit

/-- The code behind the first n statements. -/
def nxO : Nat → Option Code → Option Code
  | 0, c => c
  | n + 1, some (.seq _ b) => nxO n (some b)
  | _ + 1, _ => none
/-- What holds behind those statements. -/
def WpFrom (P : Program) (f : Func) (n : Nat) (Q : Exit → Act → World → Prop) (a : Act) (w : World) : Prop := ∀ c, nxO n f.body = some c → c.wp P Q a w
theorem WpFrom.intro {P : Program} {f : Func} {n : Nat} {Q : Exit → Act → World → Prop} {a : Act} {w : World} {c : Code} (h : nxO n f.body = some c) (k : c.wp P Q a w) : WpFrom P f n Q a w := fun c' h' => by
  rw [h] at h'
  cases h'
  exact k
theorem WpFrom.out {P : Program} {f : Func} {n : Nat} {Q : Exit → Act → World → Prop} {a : Act} {w : World} {c : Code} (k : WpFrom P f n Q a w) (h : nxO n f.body = some c) : c.wp P Q a w := k c h
end Go.Proofs.YtllfmlgnemkklaaDoor

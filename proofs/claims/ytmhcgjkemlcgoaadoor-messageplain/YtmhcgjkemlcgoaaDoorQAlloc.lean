import Derived.StillTail
import Derived.BigQuiet
import Derived.Lib.QuietBelow
import Derived.Test.YtmhcgjkemlcgoaaDoorOut
/- A region that draws its order: its first m operations are quiet, operation m makes a block and may come at any time, behind it the order is forced. -/
namespace Go.Proofs.YtmhcgjkemlcgoaaDoor
open Go.RowKit Go.Sort

section
variable {P : Program} {ops : Array Oper}

/-- The worlds that callees may leave of V. -/
def Gr (V : World) : World → Prop := fun w' => ∃ p : Regrown, w' = grow (redrawn V p.d) p.os
/-- One operation of the head. -/
def quietB (ops : Array Oper) (n sz i : Nat) : Bool :=
  match ops[i]? with
  | some o => (match o.dst with | some d => decide (d < sz) | none => false) && o.after.all (fun e => !Region.binds .any e || decide (e.on < i)) &&
      (List.range n).all fun j => j == i || (match ops[j]? with
        | some oj => (oj.dst != o.dst) && (match oj.dst with | some d => !(o.looksAt ops).contains d || Region.waitsFor .any ops i j | none => true)
        | none => false)
  | none => false
/-- The operations from m on, below n, make blocks, in slots of their own. -/
def freshB (ops : Array Oper) (m n sz : Nat) : Bool :=
  (List.range n).all fun k => decide (k < m) || (match ops[k]? with
    | some o => o.guard.isNone && o.after.isEmpty && (match o.dst with | some d => decide (d < sz) | none => false) &&
        (List.range n).all fun j => j == k || (match ops[j]? with | some oj => (oj.dst != o.dst) | none => false)
    | none => false)
/-- What is known of the head. -/
structure Hd (P : Program) (ops : Array Oper) (m n sz : Nat) (a A : Act) (D : World → Prop) : Prop where
  mn : m ≤ n
  ex0 : ∃ V, D V
  q : ∀ i, i < m → quietB ops n sz i = true
  z : freshB ops m n sz = true
  size : a.tmps.size = sz
  walk : ∀ V, D V → ∃ L : List Oper, L.length = m ∧ (∀ i, i < m → L[i]? = ops[i]?) ∧ wpQuiet P ops (Gr V) (fun a' => a' = A) L a

section
variable {m n sz : Nat} {a A : Act} {W : World} {D : World → Prop}

end
end

end Go.Proofs.YtmhcgjkemlcgoaaDoor

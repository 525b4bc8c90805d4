import Derived.Test.YtllfmlgnemkklaaDoorTxZ
import Derived.Deep.LoopGhost
/- Layer 15: Draft of the program, whole. -/
namespace Go.Proofs.YtllfmlgnemkklaaDoor
open Go.RowKit Go.Sort
open tq
theorem tq.KsG.keepZ {W W' : World} {a : Option Addr} {b o c : Nat} {L : List (List Int)} (h : KsG W a b o c L) (B : Below W.heap.size W W') : KsG W' a b o c L :=
  ⟨h.1, h.2.1, fun i hi => ⟨(h.2.2 i hi).1, fun j v hv => cell_keep B ((h.2.2 i hi).2 j v hv)⟩⟩
theorem tq.UsG.keepZ {W W' : World} {a : Option Addr} {b o c : Nat} {L : List Aun} (h : UsG W a b o c L) (B : Below W.heap.size W W') : UsG W' a b o c L :=
  ⟨h.1, h.2.1, fun i hi => ⟨(h.2.2 i hi).1, fun j v hv => cell_keep B ((h.2.2 i hi).2 j v hv)⟩⟩
end Go.Proofs.YtllfmlgnemkklaaDoor

/- Layer 15, the document: none, zero, stands, Row. -/
namespace Go.Proofs.YtllfmlgnemkklaaDoor
open Go.RowKit Go.Sort
open tq
/-- Is the field zero? -/
def zeroT (t : Txv) : Nat → Bool
  | 0 => decide (t.ch = 0)
  | 1 => decide (t.no = 0)
  | 2 => decide (t.pr = 0)
  | 3 => decide (t.ti = 0)
  | 4 => decide (t.ca = 0)
  | 5 => decide (t.gas = 0)
  | 6 => (!t.cr && decide (t.to = List.replicate 20 0))
  | 7 => decide (t.va = 0)
  | 8 => decide (t.Dl.length = 0)
  | 9 => decide (t.El.length = 0)
  | 10 => decide (t.bc = 0)
  | 11 => decide (t.Hsl.length = 0)
  | 12 => decide (t.Ul.length = 0)
  | _ => true
end Go.Proofs.YtllfmlgnemkklaaDoor

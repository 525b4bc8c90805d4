import Derived.Test.YtlpmphldmfefkaaDoorTxZ
/- Layer 15: Draft of the program, whole. -/
namespace Go.Proofs.YtlpmphldmfefkaaDoor
open Go.RowKit Go.Sort
open tq
theorem tq.KsG.keepZ {W W' : World} {a : Option Addr} {b o c : Nat} {L : List (List Int)} (h : KsG W a b o c L) (B : Below W.heap.size W W') : KsG W' a b o c L :=
  ⟨h.1, h.2.1, fun i hi => ⟨(h.2.2 i hi).1, fun j v hv => cell_keep B ((h.2.2 i hi).2 j v hv)⟩⟩
theorem tq.UsG.keepZ {W W' : World} {a : Option Addr} {b o c : Nat} {L : List Aun} (h : UsG W a b o c L) (B : Below W.heap.size W W') : UsG W' a b o c L :=
  ⟨h.1, h.2.1, fun i hi => ⟨(h.2.2 i hi).1, fun j v hv => cell_keep B ((h.2.2 i hi).2 j v hv)⟩⟩
end Go.Proofs.YtlpmphldmfefkaaDoor

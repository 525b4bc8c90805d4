import Derived.Test.YtjoandmehahfgaaGreatDoorRowB
import Derived.Deep.LoopGhost
import Derived.OwnWalk
import Derived.Laws.CopyOwn
namespace Go.Proofs.YtjoandmehahfgaaGreatDoor
open Go.RowKit
theorem dE:(Tryz.prog.info? 5).map (fun i=>(i.zero,i.size,i.bytes))=some (some (.int .u8 0),1,1):=by kernel_rfl
theorem Av {W:World} {base g n:Nat} {e:TypeId} {xs:List Value} (h:W.ownsRow base e 1 (.slice (some ⟨g,0,none⟩) n n) n xs):W.heap[g]?=some (.cells xs.toArray e (0,0)):=by
 rcases h.2 with ⟨h',_⟩|⟨g',cap',cur,h',_,hg,_,_,hs,ht⟩
 ·simp at h'
 ·simp only [Value.slice.injEq,Option.some.injEq,Addr.mk.injEq,and_true,true_and] at h'
  obtain ⟨rfl,rfl⟩:=h'
  rw [List.take_of_length_le (by rw [Array.length_toList,hs];exact Nat.le_refl _)] at ht
  rw [hg,←ht]
end Go.Proofs.YtjoandmehahfgaaGreatDoor

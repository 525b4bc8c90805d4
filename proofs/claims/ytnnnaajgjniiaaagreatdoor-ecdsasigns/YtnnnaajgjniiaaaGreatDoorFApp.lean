import Derived.Test.YtnnnaajgjniiaaaGreatDoorFList
import Derived.Maps.AppendAt
import Derived.Laws.OwnMore
namespace Go.Proofs.YtnnnaajgjniiaaaGreatDoor
open Go.RowKit Go.Sort
def eY:List Int→List Value
 | []=>[]
 | n :: L=>.int .u64 (l0 n) :: .int .u64 (l1 n) :: .int .u64 (l2 n) :: .int .u64 (l3 n) :: eY L
theorem mF:∀ (L:List Int) (n:Int),eY L++[.int .u64 (l0 n),.int .u64 (l1 n),.int .u64 (l2 n),.int .u64 (l3 n)]=eY (L++[n])
 | [],_=>rfl
 | _ :: L,n=>by simp only [eY,List.cons_append,mF L n]
theorem qp:∀ (L:List Int) (i:Nat),i<L.length→(eY L)[i*4]?=some (.int .u64 (l0 (L.getD i 0)))∧(eY L)[i*4+1]?=some (.int .u64 (l1 (L.getD i 0)))∧(eY L)[i*4+2]?=some (.int .u64 (l2 (L.getD i 0)))∧(eY L)[i*4+3]?=some (.int .u64 (l3 (L.getD i 0)))
 | _ :: _,0,_=>⟨rfl,rfl,rfl,rfl⟩
 | n :: L,i+1,h=>by
  have ih:=qp L i (by simpa using h)
  have e:∀ d,(eY (n :: L))[(i+1)*4+d]?=(eY L)[i*4+d]?:=fun d=>by
   rw [show (i+1)*4+d=i*4+d+1+1+1+1 by omega];rfl
  have e0:=e 0
  simp only [Nat.add_zero] at e0
  rw [e0,e 1,e 2,e 3]
  exact ih
def ik (B:Nat) (W:World) (v:Value) (L:List Int):Prop:=W.ownsRow B 24 4 v L.length (eY L)
theorem ik.row {B:Nat} {W:World} {v:Value} {L:List Int} (h:ik B W v L):W.ownsRow B 24 4 v L.length (eY L):=h
theorem ik.none (B:Nat) (W:World):ik B W (.slice none 0 0) []:=⟨rfl,.inl ⟨rfl,rfl⟩⟩
theorem ik.lies {B:Nat} {W:World} {v:Value} {L:List Int} (h:ik B W v L):∃ a g c,v = .slice a L.length c∧At4 a g 0 L∧Nms W g 0 L∧(L≠[]→B≤g):=by
 obtain ⟨h1,h2⟩:=h
 rcases h2 with ⟨rfl,h0⟩|⟨g,cap,cur,rfl,hB,hc,hle,h63,hs,ht⟩
 ·have e:L=[]:=List.length_eq_zero_iff.1 h0
  subst e
  exact ⟨_,0,0,rfl,.inl rfl,fun i hi=>absurd hi (Nat.not_lt_zero _),fun h=>absurd rfl h⟩
 ·refine ⟨_,g,cap,rfl,.inr rfl,fun i hi=>?_,fun _=>hB⟩
  have hcell:∀ k,k<L.length*4→W.cell? ⟨g,k,Option.none⟩=(eY L)[k]?:=fun k hk=>World.ownsRow.cellAt ⟨h1,.inr ⟨g,cap,cur,rfl,hB,hc,hle,h63,hs,ht⟩⟩ k hk
  obtain ⟨a0,a1,a2,a3⟩:=qp L i hi
  simp only [Nat.zero_add]
  rw [hcell _ (by omega),hcell _ (by omega),hcell _ (by omega),hcell _ (by omega)]
  exact ⟨a0,a1,a2,a3⟩
open Go.RowKit Go.Sort
theorem mG (W:World) (a b c d:Value) (t:TypeId) {s:Nat} (e:s=W.heap.size):∀ j x,[a,b,c,d][j]?=some x→(W.alloc (.cells #[a,b,c,d] t)).cell? ((⟨s,0,none⟩:Addr).add j)=some x:=fun j x h=>by
 subst e
 rw [Addr.add_lit,Nat.zero_add,World.cell?_alloc_mark]
 simpa using h
theorem ik.keep {B:Nat} {W W':World} {v:Value} {L:List Int} (h:ik B W v L) (hb:Below W.heap.size W W'):ik B W' v L :=
 World.ownsRow.kept h ⟨hb.os,hb.tape,hb.output,hb.size,fun k hk _=>hb.block k hk⟩ (row:=Option.none) (by cases v.ownBlock<;>simp)
theorem getD_in {L:List Int} {i:Nat} (h:i<L.length):L.getD i 0=L[i]:=by
 rw [List.getD,List.getElem?_eq_getElem h];rfl
theorem qr (y:Int):∀ u∈[Value.int .u64 (l0 y),.int .u64 (l1 y),.int .u64 (l2 y),.int .u64 (l3 y)],u.oneCell'=true:=fun u hu=>by
 simp at hu
 rcases hu with rfl|rfl|rfl|rfl<;>rfl
end Go.Proofs.YtnnnaajgjniiaaaGreatDoor

import Derived.Test.YtjoandmehahfgaaGreatDoorRowB
import Derived.Test.YtjoandmehahfgaaGreatDoorMul2
import Derived.Laws.Cover3
import Derived.Great.Walk
set_option maxRecDepth 100000
set_option maxHeartbeats 4000000
namespace Go.Proofs.YtjoandmehahfgaaGreatDoor
open Go.RowKit Go.Sort
theorem dR {W:World} {M:List Value} {t:TypeId}:(W.alloc (.cells M.toArray t)).rangeAt W.heap.size 0 M:=fun j v hv=>by
 rw [Nat.zero_add,World.cell?_alloc_mark]
 simpa using hv
theorem sa {W:World} {b o:Nat} {M:List Value} (h:W.rangeAt b o M) (k:Nat):W.rangeAt b (o+k) (M.drop k):=fun j v hv=>by
 rw [List.getElem?_drop] at hv
 have:=h (k+j) v hv
 rwa [←Nat.add_assoc] at this
theorem aE {W W':World} {n b o:Nat} {M:List Value} (h:W.rangeAt b o M) (hb:Below n W W') (hl:b<n):W'.rangeAt b o M:=fun j v hv=>by
 rw [hb.cell (p:=⟨b,o+j,none⟩) hl];exact h j v hv
theorem bB {W:World} {b:Nat} {cs:Array Value} {t:TypeId} (e:b=W.heap.size) {n:Nat} (hn:n=cs.size):(W.alloc (.cells cs t)).there b 0 n:=by
 subst e hn
 intro j hj
 rw [Nat.zero_add,World.cell?_alloc_mark,World.frozen?_alloc_mark]
 refine ⟨by simp [hj],?_⟩
 simp
theorem aN {P:Program} {ops:Array Oper} {Q:Exit→Act→World→Prop} {l:List Oper} {a:Act} {w:World} (I:World→Prop) (h:I w) (k:∀ W,I W→wpList P ops Q l a W):wpList P ops Q l a w:=k w h
theorem b9 {w W:World} {n b:Nat} {D:List Value} (B:Below n w W) (hb:n≤b) (ht:W.there b 0 D.length):Below n w (W.setCells b 0 D)∧(W.setCells b 0 D).rangeAt b 0 D:=⟨below_setCells hb D 0 W B,World.rangeAt_setCells_same _ _ _ _ ht⟩
theorem sb {M:List Value} (k:M.length=32) (hc:∀ v∈M,v.oneCell'=true) (w:World) :
  Calls Tryz.prog 16 #[.agg M.toArray] w fun e w'=>e = .returned (.agg (M.drop 12).toArray)∧Below w.heap.size w w':=by
 obtain ⟨D,eD⟩:∃ D,D=M.drop 12:=⟨_,rfl⟩
 rw [←eD]
 have kD:D.length=20:=by rw [eD,List.length_drop,k]
 have oc:D.toArray.all (·.oneCell')=true:=all_oneCell_toArray fun v hv=>hc v (by rw [eD] at hv;exact List.mem_of_mem_drop hv)
 have ra:∀ o,((w.alloc (.cells M.toArray 47)).alloc o).rangeAt w.heap.size 12 D:=fun o=>by
  have h:=sa (dR (W:=w) (M:=M) (t:=47)) 12
  rw [Nat.zero_add,←eD] at h
  exact World.rangeAt_alloc h o
 have sz:D.toArray.size=20:=by simp [kD]
 have KD:Hid (D.length=20):=kD
 clear kD eD hc k
 have hat:∀ w1,(Instr.arrayAt 26 (.slice (some ⟨w.heap.size,12,none⟩) 20 20)).run Tryz.prog w1 = .ok (.pointer (some ⟨w.heap.size,12,none⟩)) w1:=fun w1=>run_arrayAt w1 26 _ 20 _ 20 _ Tryz.underlying26 (Nat.le_refl _)
 go_enter Tryz.func16,Tryz.ntmps16
 go_wp2_with (first|refine wpList_load_mid rfl 26 _ rfl w.heap.size 12 rfl D _ (ra _) Tryz.underlying26 rfl (by rw [KD.out];kernel_rfl) ?_|((refine wpList_store_mid rfl 26 _ _ rfl (w.heap.size+1) 0 D.toArray rfl rfl (bB (by simp) (by rw [sz];rfl)) (by rw [sz];kernel_rfl) oc ?_);(refine aN (fun W=>Below w.heap.size w W∧W.rangeAt (w.heap.size+1) 0 D) (b9 (((Below.refl _ _).alloc (Nat.le_refl _) _).alloc (by simp) _) (by omega) (bB (by simp) (by rw [KD.out];rfl))) ?_);(rintro W ⟨B,hR⟩)))
 have ld:=run_loadVar_mid (P:=Tryz.prog) W (w.heap.size+1) 0 26 D _ hR Tryz.underlying26 rfl (by rw [KD.out];kernel_rfl)
 refine bodyPost_ret (v:=.agg D.toArray) ?_ rfl ⟨rfl,B⟩
 simp [results,Tryz.results16,Act.put,asAddr,ld]
open Go.RowKit Go.Sort
def lY (X Y:List Int):Nat→Nat→Bool
 | _,0=>true
 | s,m+1=>X.getD s 0==Y.getD s 0&&lY X Y (s+1) m
theorem xj {X:List Int} {i:Nat} (h:i<X.length) (w:World):(part 5 (X.map (Value.int .u8)).toArray (i*1)).run Tryz.prog w = .ok (.int .u8 (X.getD i 0)) w:=by
 have ta:=Tryz.isAgg5
 rw [Nat.mul_one]
 simp [Go.part,go_sem,ta,h]
theorem qr {X Y:List Int} (w:World):∀ (m s:Nat),s+m≤X.length→s+m≤Y.length →
  (forIn (m:=Sem) (List.range' s m) ((none:Option Bool),()) fun i _=>do
   let x ←part 5 (X.map (Value.int .u8)).toArray (i*1)
   let y ←part 5 (Y.map (Value.int .u8)).toArray (i*1)
   let b ←Op.equalIn 9999 5 x y
   if (!b)=true then pure (ForInStep.done (some false,())) else pure (ForInStep.yield (none,()))).run Tryz.prog w = .ok (if lY X Y s m=true then (none,()) else (some false,())) w
 | 0,s,_,_=>by simp [lY]
 | m+1,s,h1,h2=>by
  have tu:=Tryz.underlying5
  rw [List.range'_succ,List.forIn_cons]
  simp only [Sem.run_bind,xj (show s<X.length by omega),xj (show s<Y.length by omega),Result.andThen_ok]
  rw [show (9999:Nat)=9998+1 from rfl,run_equalIn_int _ _ _ _ _ _ _ tu]
  simp only [Result.andThen_ok]
  rw [lY]
  have ih:=qr (X:=X) (Y:=Y) w m (s+1) (by omega) (by omega)
  generalize X.getD s 0=a at *
  generalize Y.getD s 0=b at *
  by_cases e:a=b
  ·subst e
   simp only [beq_self_eq_true,Bool.not_true,Bool.false_eq_true,if_false,Sem.run_pure,Result.andThen_ok,Bool.true_and]
   exact ih
  ·have ne:(a==b)=false:=beq_eq_false_iff_ne.2 e
   simp only [ne,Bool.not_false,if_true,Sem.run_pure,Result.andThen_ok,Bool.false_and,Bool.false_eq_true,if_false]
theorem oK {X Y:List Int}:∀ (m s:Nat),lY X Y s m=true↔∀ i,s≤i→i<s+m→X.getD i 0=Y.getD i 0
 | 0,s=>by simp [lY];intro i h1 h2;omega
 | m+1,s=>by
  rw [lY,Bool.and_eq_true,oK m (s+1)]
  constructor
  ·rintro ⟨h1,h2⟩ i h3 h4
   by_cases e:i=s
   ·subst e;exact eq_of_beq h1
   ·exact h2 i (by omega) (by omega)
  ·intro h
   exact ⟨by rw [h s (Nat.le_refl _) (by omega)];exact beq_self_eq_true _,fun i h1 h2=>h i (by omega) (by omega)⟩
theorem xk {X Y:List Int} {n:Nat} (hx:X.length=n) (hy:Y.length=n):lY X Y 0 n=decide (X=Y):=by
 have h:=oK (X:=X) (Y:=Y) n 0
 by_cases e:X=Y
 ·subst e
  rw [decide_eq_true rfl]
  exact h.2 fun _ _ _=>rfl
 ·rw [decide_eq_false e]
  apply Bool.eq_false_iff.2
  intro ht
  exact e (Cf (by rw [hx,hy]) fun t h1=>h.1 ht t (Nat.zero_le _) (by omega))
theorem tT {X Y:List Int} (hx:X.length=20) (hy:Y.length=20) (w:World):(Op.equalIn 10000 26 (.agg (X.map (Value.int .u8)).toArray) (.agg (Y.map (Value.int .u8)).toArray)).run Tryz.prog w = .ok (decide (X=Y)) w:=by
 rw [show (10000:Nat)=9999+1 from rfl,Op.equalIn]
 have tz:(sizeOf 5).run Tryz.prog w = .ok 1 w:=by have:=Tryz.sizeOf5;simp [go_sem,this]
 simp only [Sem.run_bind,run_underlying Tryz.underlying26,Result.andThen_ok,tz]
 simp only [Std.Legacy.Range.forIn_eq_forIn_range',Std.Legacy.Range.size,Nat.sub_zero,Nat.add_sub_cancel,Nat.div_one]
 have h:=qr (X:=X) (Y:=Y) w 20 0 (by omega) (by omega)
 rw [h,xk hx hy]
 by_cases e:X=Y<;>simp [e]
end Go.Proofs.YtjoandmehahfgaaGreatDoor

import Derived.Test.YtjoandmehahfgaaGreatDoorAb
import Derived.Test.YtjoandmehahfgaaGreatDoorSBase
import Derived.Test.YtjoandmehahfgaaGreatDoorTail
set_option maxRecDepth 100000
set_option maxHeartbeats 4000000
namespace Go.Proofs.YtjoandmehahfgaaGreatDoor.S
open Go.RowKit Go.Sort
theorem aV {P:Program} {ops:Array Oper} {rest:List Oper} {a:Act} {w:World} {Q:Exit→Act→World→Prop} {n:Nat} {ty tt:TypeId} {x:Operand} {pos:String} {after:Array Edge} (b o:Nat) (cs:List Value) (d:TypeDesc) (hc:w.rangeAt b o cs)
  (hu:P.underlying ty=some d) (hd:d.isRow=true) (hi:(P.info? ty).map (·.size)=some cs.length) (hx:a.eval x = .pointer (some ⟨b,o,none⟩))
  (h:wpList P ops Q rest (a.put (some n) (.agg cs.toArray)) w):wpList P ops Q (⟨some n,.load ty x,tt,pos,after,none⟩ :: rest) a w :=
 wpList_load_mid rfl ty x rfl b o hx cs d hc hu hd hi h
theorem aw {P:Program} {ops:Array Oper} {rest:List Oper} {a:Act} {w:World} {Q:Exit→Act→World→Prop} {ty tt:TypeId} {x y:Operand} {pos:String} {after:Array Edge} (b o:Nat) (cells:Array Value)
  (ht:w.there b o cells.size) (hi:(P.info? ty).map (·.size)=some cells.size) (h1:cells.all (·.oneCell')=true) (hx:a.eval x = .pointer (some ⟨b,o,none⟩)) (hy:a.eval y = .agg cells)
  (h:wpList P ops Q rest (a.put none undef) (w.setCells b o cells.toList)):wpList P ops Q (⟨none,.store ty x y,tt,pos,after,none⟩ :: rest) a w :=
 wpList_store_mid rfl ty x y rfl b o cells hx hy ht hi h1 h
theorem hold {p:Prop} (h:Hid p):p:=h.out
theorem cG (x y:BitVec 32):(U x+U y)%4294967296=U (x+y):=by rw [←IntKind.wrap_u32',DQ]
theorem CV (x:BitVec 32) (n:Nat):U x*2 ^ n%4294967296=U (x <<< n):=by rw [←IntKind.wrap_u32',BN]
theorem Bb (x:BitVec 32) (n:Nat):bits .or .u32 (U x*2 ^ (32-n)%4294967296) (U x/2 ^ n)=U (dB x n):=by rw [←IntKind.wrap_u32',CQ]
theorem Es {k:Nat} (h:k<32):bits .and .u64 (k:Int) 31=k:=by
 rw [show (31:Int)=((31:Nat):Int) by rfl,u64_and_nat _ _ (by omega) (by omega),show (31:Nat)=2 ^ 5-1 by rfl,Nat.and_two_pow_sub_one_eq_mod,Nat.mod_eq_of_lt (by omega)]
theorem CX {k:Nat} (h0:0<k) (h:k<32):bits .and .u64 (IntKind.u64.wrap (-(k:Int))) 31=((32-k:Nat):Int):=by
 have e:IntKind.u64.wrap (-(k:Int))=((18446744073709551616-k:Nat):Int):=by rw [IntKind.wrap_u64];omega
 rw [e,show (31:Int)=((31:Nat):Int) by rfl,u64_and_nat _ _ (by omega) (by omega),show (31:Nat)=2 ^ 5-1 by rfl,Nat.and_two_pow_sub_one_eq_mod]
 congr 1
 omega
theorem dS (x:BitVec 32) {k:Nat} (h0:0<k) (hk:k<32) (w:World) :
  Calls Tryz.prog 147 #[.int .u32 (U x),.int .i64 (-(k:Int))] w fun e w'=>e = .returned (.int .u32 (U (dB x k)))∧w'=w:=by
 have a:=CX h0 hk
 have r:=Bb x k
 have b0:(k:Int)<32:=by omega
 have e1:(32-((32-k:Nat):Int)).toNat=k:=by omega
 have u0:=rz x;have u1:=rA x
 have e2:((32-k:Nat):Int)≤32:=by omega
 go_enter Tryz.func147,Tryz.ntmps147
 go_wp2
 go_ret
 exact ⟨rfl,rfl⟩
theorem je (x:BitVec 32) {k:Nat} (h0:0<k) (hk:k<32) (w:World) :
  Calls Tryz.prog 146 #[.int .u32 (U x),.int .i64 (k:Int)] w fun e w'=>e = .returned (.int .u32 (U (dB x k)))∧w'=w:=by
 have b0:(k:Int)<32:=by omega
 go_enter Tryz.func146,Tryz.ntmps146
 go_wp2_with fail
 refine (dS x h0 hk _).mono ?_
 rintro e w1 ⟨rfl,rfl⟩
 go_wp2
 go_ret
 exact ⟨rfl,rfl⟩
theorem mJ (x:BitVec 32) {k:Nat} {k':Int} (e:k'=(k:Int)) (h0:0<k) (hk:k<32) (w:World) :
  Rt 146 #[.int .u32 (U x),.int .i64 k'] w (.int .u32 (U (dB x k))):=by
 subst e
 exact (je x h0 hk w).mono fun _ _ ⟨h1,h2⟩=>⟨h1,by rw [h2];exact Below.refl _ _⟩
theorem Bc (x:BitVec 32) (w:World):Rt 146 #[.int .u32 (U x),.int .i64 7] w (.int .u32 (U (dB x 7))):=mJ x (k:=7) rfl (by decide) (by decide) w
theorem yQ (x:BitVec 32) (w:World):Rt 146 #[.int .u32 (U x),.int .i64 18] w (.int .u32 (U (dB x 18))):=mJ x (k:=18) rfl (by decide) (by decide) w
theorem yR (x:BitVec 32) (w:World):Rt 146 #[.int .u32 (U x),.int .i64 17] w (.int .u32 (U (dB x 17))):=mJ x (k:=17) rfl (by decide) (by decide) w
theorem yS (x:BitVec 32) (w:World):Rt 146 #[.int .u32 (U x),.int .i64 19] w (.int .u32 (U (dB x 19))):=mJ x (k:=19) rfl (by decide) (by decide) w
theorem pf (x:BitVec 32) {i j k:Nat} (i0:0<i) (i1:i<32) (j0:0<j) (j1:j<32) (k0:0<k) (k1:k<32) (w:World) :
  Calls Tryz.prog 144 #[.int .u32 (U x),.int .i64 (i:Int),.int .i64 (j:Int),.int .i64 (k:Int)] w fun e w'=>e = .returned (.int .u32 (U (tri x i j k)))∧w'=w:=by
 have x1:=jq (dB x i) (dB x j)
 have x2:=jq (dB x i ^^^ dB x j) (dB x k)
 go_enter Tryz.func144,Tryz.ntmps144
 go_wp2_with fail
 refine (je x i0 i1 _).mono ?_
 rintro e w1 ⟨rfl,rfl⟩
 go_wp2_with fail
 refine (je x j0 j1 _).mono ?_
 rintro e w1 ⟨rfl,rfl⟩
 go_wp2_with fail
 refine (je x k0 k1 _).mono ?_
 rintro e w1 ⟨rfl,rfl⟩
 go_wp2
 go_ret
 exact ⟨rfl,rfl⟩
def Sch (W:World) (b:Nat) (L:List (BitVec 32)):Prop:=L.length=64∧Wds W b 0 L∧ai W b 64
theorem Sch.lt {W:World} {b:Nat} {L:List (BitVec 32)} (h:Sch W b L):b<W.heap.size:=h.2.1.lt (by rw [h.1];decide)
theorem Sch.keep {W w1:World} {b:Nat} {L:List (BitVec 32)} (h:Sch W b L) (hb:Below W.heap.size W w1):Sch w1 b L:=⟨h.1,h.2.1.keep hb,h.2.2.keep hb h.lt⟩
theorem Sch.drew {W:World} {b:Nat} {L:List (BitVec 32)} (h:Sch W b L):Sch W.drew b L:=h
theorem Sch.set {W:World} {b i:Nat} {L:List (BitVec 32)} (h:Sch W b L) (hi:i<64) (v:BitVec 32):Sch (W.setCell ⟨b,i,none⟩ (.int .u32 (U v))) b (L.set i v):=by
 have k:=h.2.1.set i (by rw [h.1];exact hi) v
 rw [Nat.zero_add] at k
 exact ⟨by rw [List.length_set];exact h.1,k,h.2.2.set _ _⟩
theorem Sch.other {W:World} {b b' i:Nat} {L:List (BitVec 32)} (h:Sch W b L) (ne:b'≠b) (v:Value):Sch (W.setCell ⟨b',i,none⟩ v) b L:=⟨h.1,h.2.1.other ne v,h.2.2.set _ _⟩
theorem Sch.at {W:World} {b i:Nat} {L:List (BitVec 32)} (h:Sch W b L) (hi:i<64):W.cell? ⟨b,i,none⟩=some (.int .u32 (U (L.getD i 0))):=by
 have k:=h.2.1 i (by rw [h.1];exact hi)
 rwa [Nat.zero_add] at k
theorem Sch.there {W:World} {b:Nat} {L:List (BitVec 32)} (h:Sch W b L):W.there b 0 64:=h.2.1.there h.2.2.lse h.1
theorem Sch.stored {W:World} {b:Nat} {L M:List (BitVec 32)} (h:Sch W b L) (hl:M.length=64):Sch (W.setCells b 0 (aW M)) b M :=
 ⟨hl,Wds.stored (by rw [hl];exact h.there),h.2.2.setCells _ _ _⟩
theorem Sch.new {W:World} {b:Nat} {L:List (BitVec 32)} (hl:L.length=64) (t:TypeId) (e:b=W.heap.size):Sch (W.alloc (.cells (aW L).toArray t)) b L:=⟨hl,Wds.new L t e,ai.new _ _ _ e⟩
theorem zeros64:(aW (List.replicate 64 0)).toArray=#[.int .u32 0,.int .u32 0,.int .u32 0,.int .u32 0,.int .u32 0,.int .u32 0,.int .u32 0,.int .u32 0,.int .u32 0,.int .u32 0,.int .u32 0,.int .u32 0,.int .u32 0,.int .u32 0,.int .u32 0,.int .u32 0,.int .u32 0,.int .u32 0,.int .u32 0,.int .u32 0,.int .u32 0,.int .u32 0,.int .u32 0,.int .u32 0,.int .u32 0,.int .u32 0,.int .u32 0,.int .u32 0,.int .u32 0,.int .u32 0,.int .u32 0,.int .u32 0,.int .u32 0,.int .u32 0,.int .u32 0,.int .u32 0,.int .u32 0,.int .u32 0,.int .u32 0,.int .u32 0,.int .u32 0,.int .u32 0,.int .u32 0,.int .u32 0,.int .u32 0,.int .u32 0,.int .u32 0,.int .u32 0,.int .u32 0,.int .u32 0,.int .u32 0,.int .u32 0,.int .u32 0,.int .u32 0,.int .u32 0,.int .u32 0,.int .u32 0,.int .u32 0,.int .u32 0,.int .u32 0,.int .u32 0,.int .u32 0,.int .u32 0,.int .u32 0]:=by
 have h:U 0#32=0:=tc
 simp [aW,List.replicate,h]
theorem Sch.zeros {W:World} {b:Nat} (t:TypeId) (e:b=W.heap.size):Sch (W.alloc (.cells #[.int .u32 0,.int .u32 0,.int .u32 0,.int .u32 0,.int .u32 0,.int .u32 0,.int .u32 0,.int .u32 0,.int .u32 0,.int .u32 0,.int .u32 0,.int .u32 0,.int .u32 0,.int .u32 0,.int .u32 0,.int .u32 0,.int .u32 0,.int .u32 0,.int .u32 0,.int .u32 0,.int .u32 0,.int .u32 0,.int .u32 0,.int .u32 0,.int .u32 0,.int .u32 0,.int .u32 0,.int .u32 0,.int .u32 0,.int .u32 0,.int .u32 0,.int .u32 0,.int .u32 0,.int .u32 0,.int .u32 0,.int .u32 0,.int .u32 0,.int .u32 0,.int .u32 0,.int .u32 0,.int .u32 0,.int .u32 0,.int .u32 0,.int .u32 0,.int .u32 0,.int .u32 0,.int .u32 0,.int .u32 0,.int .u32 0,.int .u32 0,.int .u32 0,.int .u32 0,.int .u32 0,.int .u32 0,.int .u32 0,.int .u32 0,.int .u32 0,.int .u32 0,.int .u32 0,.int .u32 0,.int .u32 0,.int .u32 0,.int .u32 0,.int .u32 0] t)) b (List.replicate 64 0):=by
 rw [←zeros64]
 exact Sch.new (by simp) _ e
theorem te {bd od cd:Nat} {B:List (BitVec 8)} (hl:B.length=64) (w:World) (hB:Byo w bd od B) :
    Rt 143 #[.slice (some ⟨bd,od,none⟩) 64 cd] w (.agg (aW (cR B)).toArray):=by
  go_enter Tryz.func143,Tryz.ntmps143
  go_wp2_with fail
  refine ah (fun W=>Below w.heap.size w W∧Sch W (w.heap.size+1) (puts B 0)∧Sch W w.heap.size (List.replicate 64 0)) ⟨?_,Sch.zeros _ (by simp),(Sch.zeros _ rfl).keep ((Below.refl _ _).alloc (Nat.le_refl _) _)⟩ ?_
  · repeat (first|with_reducible exact Below.refl _ _|with_reducible refine Below.alloc ?_ (by first|omega|(simp;done)|(simp;omega)) _)
  rintro W ⟨b0,hA,hR⟩
  have NN:Hid (w.heap.size+1≠w.heap.size∧w.heap.size≤w.heap.size+1):=⟨by omega,by omega⟩
  have HB:Hid (Byo w bd od B∧B.length=64):=⟨hB,hl⟩
  clear hB hl
  generalize w.heap.size+1=ba at *
  go_loopg [11] 64 (fun k iv wr=>∃ i:Nat,k=64-i∧i≤64∧iv = .int .i64 i∧Below w.heap.size w wr∧Sch wr ba (puts B i)∧Sch wr w.heap.size (List.replicate 64 0))
  case atStart=>exact ⟨0,rfl,by decide,rfl,b0,hA,hR⟩
  case round =>
    clear b0 hA hR
    obtain ⟨i,hk,hi,rfl,hf⟩:=hrel
    have HK:Hid (gk=64-i):=hk
    have HF:Hid (Below w.heap.size w wr∧Sch wr ba (puts B i)∧Sch wr w.heap.size (List.replicate 64 0)):=hf
    clear hk hf
    by_cases h8:i=64
    · subst h8
      go_wp2_with fail
      obtain ⟨A,kA⟩:∃ A,A=puts B 64:=⟨_,rfl⟩
      have KA:Hid (fi A 48=cR B):=by rw [kA];exact rfl
      rw [←kA] at HF
      clear kA
      go_loopg [6] 48 (fun k iv wr=>∃ n:Nat,k=48-n∧n≤48∧iv = .int .i64 ((16+n:Nat):Int)∧Below w.heap.size w wr∧Sch wr ba (fi A n)∧Sch wr w.heap.size (List.replicate 64 0))
      case atStart=>exact ⟨0,rfl,by decide,rfl,HF.out⟩
      case round =>
        clear HF
        obtain ⟨n,hk,hn,rfl,hf⟩:=hrel
        have HK2:Hid (gk=48-n):=hk
        have HF:Hid (Below w.heap.size w wr∧Sch wr ba (fi A n)∧Sch wr w.heap.size (List.replicate 64 0)):=hf
        clear hk hf
        by_cases h9:n=48
        · subst h9
          rw [show ((16+48:Nat):Int)=64 from rfl]
          rw [KA.out] at HF
          have rb:=HF.out.2.1.2.1.range
          have sz:((aW (cR B)).toArray).size=64:=by simp [bO,fF]
          have tr:wr.there w.heap.size 0 ((aW (cR B)).toArray).size:=by rw [sz];exact HF.out.2.2.there
          have oc:=iL (cR B)
          have HM:Hid ((aW (cR B)).length=64):=by rw [bO];exact fF B
          obtain ⟨N,kN⟩:∃ N,aW (cR B)=N:=⟨_,rfl⟩
          rw [kN] at rb sz tr oc HM
          have EN:Hid (aW (cR B)=N):=kN
          clear kN
          have il:(Tryz.prog.info? 180).map (·.size)=some 64:=by kernel_rfl
          have il2:(Tryz.prog.info? 180).map (·.size)=some N.length:=by rw [HM.out];exact il
          have il3:(Tryz.prog.info? 180).map (·.size)=some N.toArray.size:=by rw [sz];exact il
          go_wp2_with (first
            | ((with_reducible refine aV (ty:=180) ba 0 N _ rb Tryz.underlying180 ?_ il2 ?_ ?_);rfl;rfl;simp only [Act.put,List.setIfInBounds_toArray,List.set_cons_succ,List.set_cons_zero])
            | ((with_reducible refine aw (ty:=180) w.heap.size 0 N.toArray tr il3 oc ?_ ?_ ?_);rfl;rfl))
          have ld:=run_loadVar_mid (P:=Tryz.prog) (wr.setCells w.heap.size 0 N) w.heap.size 0 180 N _ (World.rangeAt_setCells_same _ _ _ _ (by simpa using tr)) Tryz.underlying180 rfl (by rw [HM.out];exact il)
          refine bodyPost_ret (v:=.agg N.toArray) ?_ rfl ⟨by rw [EN.out],below_setCells (Nat.le_refl _) N 0 wr HF.out.1⟩
          simp [results,Tryz.results143,Act.put,asAddr,ld]
        · obtain ⟨t,et⟩:∃ t,t=16+n:=⟨_,rfl⟩
          have NX:Hid (fi A (n+1)=(fi A n).set t (yO (fi A n) t)):=by rw [et];exact rfl
          have ET:Hid (t=16+n∧n<48):=⟨et,by omega⟩
          rw [←et]
          have t1:(t:Int)<64:=by omega
          have t0:(16:Int)≤t:=by omega
          have e15:((t:Int)-15).toNat=t-15:=by omega
          have e2:((t:Int)-2).toNat=t-2:=by omega
          have e7:((t:Int)-7).toNat=t-7:=by omega
          have e16:((t:Int)-16).toNat=t-16:=by omega
          have c15:=HF.out.2.1.at (i:=t-15) (by omega)
          have c2:=HF.out.2.1.at (i:=t-2) (by omega)
          have c7:=HF.out.2.1.at (i:=t-7) (by omega)
          have c16:=HF.out.2.1.at (i:=t-16) (by omega)
          clear et h9 hn
          rw [yO] at NX
          obtain ⟨x15,k15⟩:∃ x,(fi A n).getD (t-15) 0=x:=⟨_,rfl⟩
          obtain ⟨x2,k2⟩:∃ x,(fi A n).getD (t-2) 0=x:=⟨_,rfl⟩
          obtain ⟨x7,k7⟩:∃ x,(fi A n).getD (t-7) 0=x:=⟨_,rfl⟩
          obtain ⟨x16,k16⟩:∃ x,(fi A n).getD (t-16) 0=x:=⟨_,rfl⟩
          rw [k15,k2,k7,k16] at NX
          rw [k15] at c15
          have X2:Hid ((fi A n).getD (t-2) 0=x2):=k2
          have X7:Hid ((fi A n).getD (t-7) 0=x7∧(fi A n).getD (t-16) 0=x16):=⟨k7,k16⟩
          clear k15 k2 k7 k16
          clear c7 c16 c2
          have h15:=fun d os=>cell_regrown c15 d os
          clear c15
          have a1:=jq (dB x15 7) (dB x15 18)
          have a2:bits .xor .u32 (U (dB x15 7 ^^^ dB x15 18)) (U x15/8)=U (sml x15 7 18 3):=by
            have h:=yM x15 3
            rw [show (2:Int) ^ 3=8 by decide] at h
            rw [h]
            exact jq _ _
          have u0:=rz x15;have u1:=rA x15
          go_wp2_with fail
          refine wp_region_quiet_below (by kernel_rfl) (by kernel_rfl) ?_
          repeat
            first
              | go_big_quiet_skip
              | (go_big_quiet_want;go_big_quiet_op;go_big_quiet_on)
              | (go_big_quiet_want
                 go_big_quiet_op
                 apply Exists.intro
                 refine ⟨fun p=>?_,?_⟩
                 · (go_at_call 146;first|(with_reducible exact Calls.regrown_of (Bc x15 _))|(with_reducible exact Calls.regrown_of (yQ x15 _)))
                 go_big_quiet_on)
          refine wpQuiet_nil ?_
          rintro w1 ⟨p,rfl⟩
          have hb:=below_regrown wr p.d p.os
          generalize grow (redrawn wr p.d) p.os=w1 at *
          have H1:Hid (Below w.heap.size w w1∧Sch w1 ba (fi A n)∧Sch w1 w.heap.size (List.replicate 64 0)):=⟨HF.out.1.trans (hb.mono HF.out.1.size),HF.out.2.1.keep hb,HF.out.2.2.keep hb⟩
          clear hb h15 a1 a2 u0 u1 HF
          have c2:=H1.out.2.1.at (i:=t-2) (by omega)
          rw [X2.out] at c2
          have h2:=fun d os=>cell_regrown c2 d os
          clear c2
          generalize sml x15 7 18 3=s0 at *
          have a1:=jq (dB x2 17) (dB x2 19)
          have a2:bits .xor .u32 (U (dB x2 17 ^^^ dB x2 19)) (U x2/1024)=U (sml x2 17 19 10):=by
            have h:=yM x2 10
            rw [show (2:Int) ^ 10=1024 by decide] at h
            rw [h]
            exact jq _ _
          have u0:=rz x2;have u1:=rA x2
          go_wp2_with fail
          refine wp_region_quiet_below (by kernel_rfl) (by kernel_rfl) ?_
          repeat
            first
              | go_big_quiet_skip
              | (go_big_quiet_want;go_big_quiet_op;go_big_quiet_on)
              | (go_big_quiet_want
                 go_big_quiet_op
                 apply Exists.intro
                 refine ⟨fun p=>?_,?_⟩
                 · (go_at_call 146;first|(with_reducible exact Calls.regrown_of (yR x2 _))|(with_reducible exact Calls.regrown_of (yS x2 _)))
                 go_big_quiet_on)
          refine wpQuiet_nil ?_
          rintro w2 ⟨p,rfl⟩
          have hb:=below_regrown w1 p.d p.os
          generalize grow (redrawn w1 p.d) p.os=w2 at *
          have H2:Hid (Below w.heap.size w w2∧Sch w2 ba (fi A n)∧Sch w2 w.heap.size (List.replicate 64 0)):=⟨H1.out.1.trans (hb.mono H1.out.1.size),H1.out.2.1.keep hb,H1.out.2.2.keep hb⟩
          clear hb h2 a1 a2 u0 u1 H1
          generalize sml x2 17 19 10=s1 at *
          have c7:=H2.out.2.1.at (i:=t-7) (by omega)
          have c16:=H2.out.2.1.at (i:=t-16) (by omega)
          have ct:=H2.out.2.1.at (i:=t) (by omega)
          have ft:=H2.out.2.1.2.2 t (by omega)
          rw [X7.out.1] at c7
          rw [X7.out.2] at c16
          generalize (fi A n).getD t 0=xt at *
          have b1:=cG s1 x7
          have b2:=cG (s1+x7) s0
          have b3:=cG (s1+x7+s0) x16
          have v0:=rz s1;have v1:=rA s1;have v2:=rz x7;have v3:=rA x7;have v4:=rz s0;have v5:=rA s0;have v6:=rz x16;have v7:=rA x16
          have KN:Hid (fi A (n+1)=(fi A n).set t (s1+x7+s0+x16)):=NX.out
          go_wp2_with fail
          refine aB 15 (by kernel_rfl) (by kernel_rfl) ?_
          simp only [List.take_succ_cons,List.take_zero,List.drop_succ_cons,List.drop_zero]
          repeat (first|go_big_quiet_skip|(go_big_quiet_want;go_big_quiet_op;go_big_quiet_on))
          refine wpQuiet_nil ?_
          go_wp2
          go_roundg (48-(n+1))
          case measure=>have:=HK2.out;have:=ET.out;omega
          case rel =>
            refine ⟨n+1,rfl,by have:=ET.out;omega,?_,H2.out.1.drew.setCell NN.out.2 _,?_,H2.out.2.2.drew.other NN.out.1 _⟩
            · have h:(t:Int)+1=((16+(n+1):Nat):Int):=by have:=ET.out;omega
              rw [h]
            · rw [KN.out]
              exact H2.out.2.1.drew.set (by omega) _
    · have hi':(i:Int)<64:=by omega
      have e1:((i:Int)/4).toNat=i/4:=by omega
      have g0:=HF.out.2.1.at (i:=i/4) (by omega)
      have f0:=HF.out.2.1.2.2 (i/4) (by omega)
      have gb:wr.cell? ⟨bd,od+i,none⟩=some (.int .u8 (Y (B.getD i 0))):=by
        have h:=HB.out.1 i (by rw [HB.out.2];omega)
        rw [HF.out.1.cell (p:=⟨bd,od+i,none⟩) (World.block_lt_of_cell? w _ h)];exact h
      have NX:Hid (puts B (i+1)=(puts B i).set (i/4) ((puts B i).getD (i/4) 0 <<< 8 ||| wide (B.getD i 0))):=rfl
      generalize (puts B i).getD (i/4) 0=z at *
      generalize B.getD i 0=y at *
      have y0:=Y_lo y;have y1:=Y_hi y
      have v1:bits .or .u32 (U z*256%4294967296) (Y y)=U (z <<< 8 ||| wide y):=by
        have h:=CV z 8
        rw [show (2:Int) ^ 8=256 by decide] at h
        rw [h,CJ,DN]
      go_wp2
      go_roundg (64-(i+1))
      case measure=>have:=HK.out;omega
      case rel =>
        refine ⟨i+1,rfl,by omega,by go_num,HF.out.1.setCell NN.out.2 _,?_,HF.out.2.2.other NN.out.1 _⟩
        rw [NX.out]
        exact HF.out.2.1.set (by omega) _
open Go.RowKit Go.Sort
theorem mg {S:List (BitVec 32)} (h:S.length=8):∃ a b c d e f g h,S=[a,b,c,d,e,f,g,h]:=by
 match S,h with
 | [a,b,c,d,e,f,g,h],_=>exact ⟨a,b,c,d,e,f,g,h,rfl⟩
def E8 (W:World) (b:Nat) (S:List (BitVec 32)):Prop:=S.length=8∧Wds W b 0 S∧ai W b 8
theorem E8.lt {W:World} {b:Nat} {L:List (BitVec 32)} (h:E8 W b L):b<W.heap.size:=h.2.1.lt (by rw [h.1];decide)
theorem E8.keep {W w1:World} {b:Nat} {L:List (BitVec 32)} (h:E8 W b L) (hb:Below W.heap.size W w1):E8 w1 b L:=⟨h.1,h.2.1.keep hb,h.2.2.keep hb h.lt⟩
theorem E8.otherCells {W:World} {b b' o:Nat} {L:List (BitVec 32)} (h:E8 W b L) (ne:b'≠b) (cs:List Value):E8 (W.setCells b' o cs) b L:=⟨h.1,h.2.1.otherCells ne cs,h.2.2.setCells _ _ _⟩
theorem E8.at {W:World} {b i:Nat} {L:List (BitVec 32)} (h:E8 W b L) (hi:i<8):W.cell? ⟨b,i,none⟩=some (.int .u32 (U (L.getD i 0))):=by
 have k:=h.2.1 i (by rw [h.1];exact hi)
 rwa [Nat.zero_add] at k
theorem E8.there {W:World} {b:Nat} {L:List (BitVec 32)} (h:E8 W b L):W.there b 0 8:=h.2.1.there h.2.2.lse h.1
theorem E8.new {W:World} {b:Nat} {L:List (BitVec 32)} (hl:L.length=8) (t:TypeId) (e:b=W.heap.size):E8 (W.alloc (.cells (aW L).toArray t)) b L:=⟨hl,Wds.new L t e,ai.new _ _ _ e⟩
theorem E8.zeros {W:World} {b:Nat} (t:TypeId) (e:b=W.heap.size):E8 (W.alloc (.cells #[.int .u32 0,.int .u32 0,.int .u32 0,.int .u32 0,.int .u32 0,.int .u32 0,.int .u32 0,.int .u32 0] t)) b (List.replicate 8 0):=by
 have h:U 0#32=0:=tc
 have z:(aW (List.replicate 8 0)).toArray=#[.int .u32 0,.int .u32 0,.int .u32 0,.int .u32 0,.int .u32 0,.int .u32 0,.int .u32 0,.int .u32 0]:=by simp [aW,List.replicate,h]
 rw [←z]
 exact E8.new (by simp) _ e
theorem tg {X:List (BitVec 32)} {i:Nat} (hl:X.length=64) (h:i<64) (w:World):(Instr.index 180 (.agg (aW X).toArray) (.int .i64 (i:Int))).run Tryz.prog w = .ok (.int .u32 (U (X.getD i 0))) w:=by
 have tu:=Tryz.underlying180
 have ta:=Tryz.isAgg146
 have g:(aW X)[i]?=some (.int .u32 (U (X[i]?.getD 0#32))):=by simp [aW,show i<X.length by omega]
 have tz:(sizeOf 146).run Tryz.prog w = .ok 1 w:=by have:=Tryz.sizeOf146;simp [go_sem,this]
 have h1:(i:Int)<64:=by omega
 simp only [Instr.index,asIntOf,Sem.run_bind,Sem.run_pure,Result.andThen_ok,run_underlying tu]
 simp [h1,tz,Go.part,go_sem,ta,g]
theorem Bd (x:BitVec 32) (w:World):Calls Tryz.prog 144 #[.int .u32 (U x),.int .i64 6,.int .i64 11,.int .i64 25] w fun e w'=>e = .returned (.int .u32 (U (tri x 6 11 25)))∧Below w.heap.size w w' :=
 (pf x (i:=6) (j:=11) (k:=25) (by decide) (by decide) (by decide) (by decide) (by decide) (by decide) w).mono fun _ _ ⟨h1,h2⟩=>⟨h1,by rw [h2];exact Below.refl _ _⟩
theorem Be (x:BitVec 32) (w:World):Calls Tryz.prog 144 #[.int .u32 (U x),.int .i64 2,.int .i64 13,.int .i64 22] w fun e w'=>e = .returned (.int .u32 (U (tri x 2 13 22)))∧w'=w :=
 pf x (i:=2) (j:=13) (k:=22) (by decide) (by decide) (by decide) (by decide) (by decide) (by decide) w
theorem yT {bd od cd:Nat} {S:List (BitVec 32)} {B:List (BitVec 8)} (hs:S.length=8) (hl:B.length=64) (w:World) (hB:Byo w bd od B) (hk:Wds w 5 0 kN) :
    Calls Tryz.prog 140 #[.agg (aW S).toArray,.slice (some ⟨bd,od,none⟩) 64 cd] w fun e w'=>e = .returned (.tuple #[.agg (aW (jr S B)).toArray,.int .i64 0])∧Below w.heap.size w w':=by
  obtain ⟨s0,s1,s2,s3,s4,s5,s6,s7,rfl⟩:=mg hs
  have HC:Hid (jr [s0,s1,s2,s3,s4,s5,s6,s7] B=DT [s0,s1,s2,s3,s4,s5,s6,s7] (fU kN (cR B) ⟨s0,s1,s2,s3,s4,s5,s6,s7⟩ 64)):=rfl
  have ew:(aW [s0,s1,s2,s3,s4,s5,s6,s7]).toArray=#[.int .u32 (U s0),.int .u32 (U s1),.int .u32 (U s2),.int .u32 (U s3),.int .u32 (U s4),.int .u32 (U s5),.int .u32 (U s6),.int .u32 (U s7)]:=rfl
  rw [ew]
  have HB:Hid (Byo w bd od B∧B.length=64∧Wds w 5 0 kN):=⟨hB,hl,hk⟩
  clear hB hl hk ew hs
  go_enter Tryz.func140,Tryz.ntmps140
  go_wp2_with fail
  refine aa (fun W=>Below w.heap.size w W∧E8 W w.heap.size [s0,s1,s2,s3,s4,s5,s6,s7]∧E8 W (w.heap.size+1) (List.replicate 8 0)) ⟨?_,(E8.new rfl _ rfl).keep ((Below.refl _ _).alloc (Nat.le_refl _) _),E8.zeros _ (by simp)⟩ ?_
  · repeat (first|with_reducible exact Below.refl _ _|with_reducible refine Below.alloc ?_ (by first|omega|(simp;done)|(simp;omega)) _)
  rintro W ⟨b0,hA,hR⟩
  refine (te HB.out.2.1 _ (HB.out.1.keep b0)).mono ?_
  rintro e W2 ⟨rfl,hb⟩
  have H2:Hid (Below w.heap.size w W2∧E8 W2 w.heap.size [s0,s1,s2,s3,s4,s5,s6,s7]∧E8 W2 (w.heap.size+1) (List.replicate 8 0)):=⟨b0.trans (hb.mono b0.size),hA.keep hb,hR.keep hb⟩
  clear hb b0 hA hR
  obtain ⟨L,kL⟩:∃ L,cR B=L:=⟨_,rfl⟩
  have LL:Hid (L.length=64∧(aW L).length=64):=⟨by rw [←kL];exact fF B,by rw [bO,←kL];exact fF B⟩
  rw [kL] at HC ⊢
  clear kL W
  have sz:((aW L).toArray).size=64:=by simp [LL.out.2]
  have oc:=iL L
  have il:(Tryz.prog.info? 180).map (·.size)=some ((aW L).toArray).size:=by rw [sz];kernel_rfl
  go_wp2_with ((with_reducible refine aw (ty:=180) W2.heap.size 0 (aW L).toArray ?_ il oc ?_ ?_ ?_);rw [sz];exact (Sch.zeros _ rfl).there;rfl;rfl;refine aF (fun W=>Below w.heap.size w W∧E8 W w.heap.size [s0,s1,s2,s3,s4,s5,s6,s7]∧E8 W (w.heap.size+1) (List.replicate 8 0)∧Sch W W2.heap.size L) ⟨below_setCells H2.out.1.size _ 0 _ (H2.out.1.alloc H2.out.1.size _),(H2.out.2.1.keep ((Below.refl _ _).alloc (Nat.le_refl _) _)).otherCells (by have:=H2.out.2.1.lt;omega) _,(H2.out.2.2.keep ((Below.refl _ _).alloc (Nat.le_refl _) _)).otherCells (by have:=H2.out.2.2.lt;omega) _,(Sch.zeros _ rfl).stored LL.out.1⟩ ?_;intro W3 h3;have H3:Hid (Below w.heap.size w W3∧E8 W3 w.heap.size [s0,s1,s2,s3,s4,s5,s6,s7]∧E8 W3 (w.heap.size+1) (List.replicate 8 0)∧Sch W3 W2.heap.size L):=h3;have g0:=h3.2.1.at (i:=0) (by decide);have g1:=h3.2.1.at (i:=1) (by decide);have g2:=h3.2.1.at (i:=2) (by decide);have g3:=h3.2.1.at (i:=3) (by decide);have g4:=h3.2.1.at (i:=4) (by decide);have g5:=h3.2.1.at (i:=5) (by decide);have g6:=h3.2.1.at (i:=6) (by decide);have g7:=h3.2.1.at (i:=7) (by decide);simp only [List.getD_cons_zero,List.getD_cons_succ] at g0 g1 g2 g3 g4 g5 g6 g7;clear h3)
  generalize hw:W2.heap.size=bw at *
  have BW:Hid (w.heap.size+1<bw):=by have h:w.heap.size+1<bw:=(by rw [←hw];exact H2.out.2.2.lt);exact h
  clear hw H2
  have r0:=fun d os=>cell_regrown g0 d os
  have r1:=fun d os=>cell_regrown g1 d os
  have r2:=fun d os=>cell_regrown g2 d os
  have r3:=fun d os=>cell_regrown g3 d os
  have r4:=fun d os=>cell_regrown g4 d os
  have r5:=fun d os=>cell_regrown g5 d os
  have r6:=fun d os=>cell_regrown g6 d os
  have r7:=fun d os=>cell_regrown g7 d os
  clear g0 g1 g2 g3 g4 g5 g6 g7 sz oc il
  simp only [Act.put]
  refine wp_region_quiet_below (by kernel_rfl) (by kernel_rfl) ?_
  repeat (first|go_big_quiet_skip|(go_big_quiet_want;go_big_quiet_op;go_big_quiet_on))
  refine wpQuiet_nil ?_
  rintro W4 ⟨p,rfl⟩
  have hb:=below_regrown W3 p.d p.os
  generalize grow (redrawn W3 p.d) p.os=W4 at *
  have H4:Hid (Below w.heap.size w W4∧E8 W4 w.heap.size [s0,s1,s2,s3,s4,s5,s6,s7]∧E8 W4 (w.heap.size+1) (List.replicate 8 0)∧Sch W4 bw L):=⟨H3.out.1.trans (hb.mono H3.out.1.size),H3.out.2.1.keep hb,H3.out.2.2.1.keep hb,H3.out.2.2.2.keep hb⟩
  clear hb H3 r0 r1 r2 r3 r4 r5 r6 r7 W3
  have rb:=H4.out.2.2.2.2.1.range
  have il2:(Tryz.prog.info? 180).map (·.size)=some (aW L).length:=by rw [LL.out.2];kernel_rfl
  go_wp2_with ((with_reducible refine aV (ty:=180) bw 0 (aW L) _ rb Tryz.underlying180 ?_ il2 ?_ ?_);rfl;rfl;simp only [Act.put,List.setIfInBounds_toArray,List.set_cons_succ,List.set_cons_zero])
  obtain ⟨R,kR⟩:∃ R:Nat→St,R=fU kN L ⟨s0,s1,s2,s3,s4,s5,s6,s7⟩:=⟨_,rfl⟩
  have RS:Hid (R 0=⟨s0,s1,s2,s3,s4,s5,s6,s7⟩∧∀ t,R (t+1)=rnd (R t) (kN.getD t 0) (L.getD t 0)):=by rw [kR];exact ⟨rfl,fun _=>rfl⟩
  rw [←kR] at HC
  clear kR rb il2
  go_loopg [7,8,9,10,11,12,13,14,42] 64 (fun n va vb vc vd ve vf vg vh iv wr=>∃ t:Nat,n=64-t∧t≤64∧iv = .int .i64 t∧va = .int .u32 (U (R t).a)∧vb = .int .u32 (U (R t).b)∧vc = .int .u32 (U (R t).c)∧vd = .int .u32 (U (R t).d)∧ve = .int .u32 (U (R t).e)∧vf = .int .u32 (U (R t).f)∧vg = .int .u32 (U (R t).g)∧vh = .int .u32 (U (R t).h)∧Below w.heap.size w wr∧E8 wr w.heap.size [s0,s1,s2,s3,s4,s5,s6,s7]∧E8 wr (w.heap.size+1) (List.replicate 8 0))
  case atStart =>
    refine ⟨0,rfl,by decide,rfl,?_,?_,?_,?_,?_,?_,?_,?_,H4.out.1,H4.out.2.1,H4.out.2.2.1⟩<;>rw [RS.out.1]
  case round =>
    clear H4
    obtain ⟨t,hk,ht,rfl,rfl,rfl,rfl,rfl,rfl,rfl,rfl,rfl,hf⟩:=hrel
    have HK:Hid (gk=64-t):=hk
    have HF:Hid (Below w.heap.size w wr∧E8 wr w.heap.size [s0,s1,s2,s3,s4,s5,s6,s7]∧E8 wr (w.heap.size+1) (List.replicate 8 0)):=hf
    clear hk hf
    by_cases h8:t=64
    · subst h8
      have g0:=HF.out.2.1.at (i:=0) (by decide)
      have g1:=HF.out.2.1.at (i:=1) (by decide)
      have g2:=HF.out.2.1.at (i:=2) (by decide)
      have g3:=HF.out.2.1.at (i:=3) (by decide)
      have g4:=HF.out.2.1.at (i:=4) (by decide)
      have g5:=HF.out.2.1.at (i:=5) (by decide)
      have g6:=HF.out.2.1.at (i:=6) (by decide)
      have g7:=HF.out.2.1.at (i:=7) (by decide)
      simp only [List.getD_cons_zero,List.getD_cons_succ] at g0 g1 g2 g3 g4 g5 g6 g7
      obtain ⟨q,kq⟩:∃ q,R 64=q:=⟨_,rfl⟩
      rw [kq] at HC ⊢
      clear kq
      obtain ⟨a,b,c,d,e,f,g,h⟩:=q
      simp only
      have a0:=cG s0 a
      have a1:=cG s1 b
      have a2:=cG s2 c
      have a3:=cG s3 d
      have a4:=cG s4 e
      have a5:=cG s5 f
      have a6:=cG s6 g
      have a7:=cG s7 h
      obtain ⟨M,kM⟩:∃ M:List (BitVec 32),M=[s0+a,s1+b,s2+c,s3+d,s4+e,s5+f,s6+g,s7+h]:=⟨_,rfl⟩
      have EM:Hid (jr [s0,s1,s2,s3,s4,s5,s6,s7] B=M):=by rw [HC.out,kM];exact rfl
      have lM:Hid (M.length=8∧(aW M).length=8):=by rw [kM];exact ⟨rfl,rfl⟩
      have sz:((aW M).toArray).size=8:=by simp [lM.out.2]
      have eM:(aW M).toArray=#[.int .u32 (U (s0+a)),.int .u32 (U (s1+b)),.int .u32 (U (s2+c)),.int .u32 (U (s3+d)),.int .u32 (U (s4+e)),.int .u32 (U (s5+f)),.int .u32 (U (s6+g)),.int .u32 (U (s7+h))]:=by rw [kM];rfl
      have HM:Hid ((aW M).toArray=#[.int .u32 (U (s0+a)),.int .u32 (U (s1+b)),.int .u32 (U (s2+c)),.int .u32 (U (s3+d)),.int .u32 (U (s4+e)),.int .u32 (U (s5+f)),.int .u32 (U (s6+g)),.int .u32 (U (s7+h))]):=eM
      have oc:=iL M
      have il:(Tryz.prog.info? 147).map (·.size)=some ((aW M).toArray).size:=by rw [sz];kernel_rfl
      have tr:wr.there (w.heap.size+1) 0 ((aW M).toArray).size:=by rw [sz];exact HF.out.2.2.there
      clear kM eM HC sz
      go_wp2_with ((with_reducible refine aw (ty:=147) (w.heap.size+1) 0 (aW M).toArray tr il oc ?_ ?_ ?_);rfl;rw [HM.out];rfl)
      have ld:=run_loadVar_mid (P:=Tryz.prog) (wr.setCells (w.heap.size+1) 0 (aW M)) (w.heap.size+1) 0 147 (aW M) _ (World.rangeAt_setCells_same _ _ _ _ (by simpa using tr)) Tryz.underlying147 rfl (by rw [lM.out.2];kernel_rfl)
      refine bodyPost_ret (v:=.tuple #[.agg (aW M).toArray,.int .i64 0]) ?_ rfl ⟨by rw [EM.out],below_setCells (by omega) (aW M) 0 wr HF.out.1⟩
      simp [results,Tryz.results140,asAddr,ld]
    · have ht':(t:Int)<64:=by omega
      have pw:=fun w=>tg (X:=L) (i:=t) LL.out.1 (by omega) w
      have gk0:wr.cell? ⟨5,t,none⟩=some (.int .u32 (U (kN.getD t 0))):=by
        have h:=HB.out.2.2 t (by show t<64;omega)
        rw [Nat.zero_add] at h
        rw [HF.out.1.cell (p:=⟨5,t,none⟩) (World.block_lt_of_cell? w _ h)];exact h
      have RN:Hid (R (t+1)=rnd (R t) (kN.getD t 0) (L.getD t 0)):=RS.out.2 t
      generalize kN.getD t 0=k at *
      generalize L.getD t 0=x at *
      obtain ⟨q,kq⟩:∃ q,R t=q:=⟨_,rfl⟩
      rw [kq] at RN ⊢
      clear kq
      obtain ⟨a,b,c,d,e,f,g,h⟩:=q
      simp only
      have gk:=fun d os=>cell_regrown gk0 d os
      have a1:=cG h (tri e 6 11 25)
      have n1:=rB e f
      have n2:bits .xor .u32 (if IntKind.u32.signed=true then -1 else IntKind.u32.max) (U e)=U (~~~e):=by rw [if_neg (by decide)];exact DP e
      have n3:=rB (~~~e) g
      have n4:bits .xor .u32 (U (e &&& f)) (U (~~~e &&& g))=U (chs e f g):=jq _ _
      have a2:=cG (h+tri e 6 11 25) (chs e f g)
      have a3:=cG (h+tri e 6 11 25+chs e f g) k
      have a4:(U (h+tri e 6 11 25+chs e f g+k)+U x)%4294967296=U (AZ ⟨a,b,c,d,e,f,g,h⟩ k x):=cG _ _
      go_wp2_with fail
      refine wp_region_quiet_below (by kernel_rfl) (by kernel_rfl) ?_
      repeat
        first
          | go_big_quiet_skip
          | (go_big_quiet_want;go_big_quiet_op;go_big_quiet_on)
          | (go_big_quiet_want
             go_big_quiet_op
             apply Exists.intro
             refine ⟨fun p=>?_,?_⟩
             · (go_at_call 144;with_reducible exact Calls.regrown_of (Bd e _))
             go_big_quiet_on)
      refine wpQuiet_nil ?_
      rintro w1 ⟨p,rfl⟩
      have hb:=below_regrown wr p.d p.os
      generalize grow (redrawn wr p.d) p.os=w1 at *
      have H1:Hid (Below w.heap.size w w1∧E8 w1 w.heap.size [s0,s1,s2,s3,s4,s5,s6,s7]∧E8 w1 (w.heap.size+1) (List.replicate 8 0)):=⟨HF.out.1.trans (hb.mono HF.out.1.size),HF.out.2.1.keep hb,HF.out.2.2.keep hb⟩
      clear hb HF gk gk0 a1 n1 n2 n3 n4 a2 a3 pw
      rw [a4]
      clear a4
      obtain ⟨T1,k1⟩:∃ T,AZ ⟨a,b,c,d,e,f,g,h⟩ k x=T:=⟨_,rfl⟩
      rw [k1]
      go_wp2_with fail
      refine (Be a _).mono ?_
      rintro e' w2 ⟨rfl,rfl⟩
      have n1:=rB a b
      have n2:=rB a c
      have n3:=rB b c
      have n4:=jq (a &&& b) (a &&& c)
      have n5:bits .xor .u32 (U ((a &&& b) ^^^ (a &&& c))) (U (b &&& c))=U (maj a b c):=jq _ _
      have m1:(U (tri a 2 13 22)+U (maj a b c))%4294967296=U (CR ⟨a,b,c,d,e,f,g,h⟩):=cG _ _
      obtain ⟨T2,k2⟩:∃ T,CR ⟨a,b,c,d,e,f,g,h⟩=T:=⟨_,rfl⟩
      rw [k2] at m1
      have m2:=cG d T1
      have m3:=cG T1 T2
      have RR:Hid (R (t+1)=⟨T1+T2,a,b,c,d+T1,e,f,g⟩):=by rw [RN.out,rnd,k1,k2];exact rfl
      have M23:Hid ((U d+U T1)%4294967296=U (d+T1)∧(U T1+U T2)%4294967296=U (T1+T2)):=⟨m2,m3⟩
      clear k1 k2 RN
      go_wp2
      go_roundg (64-(t+1))
      case measure=>have:=HK.out;omega
      case rel =>
        refine ⟨t+1,rfl,by omega,by go_num,?_,?_,?_,?_,?_,?_,?_,?_,H1.out⟩<;>rw [RR.out]<;>first|rfl|rw [M23.out.1]|rw [M23.out.2]
open Go.RowKit Go.Sort
structure Hs (W:World) (b:Nat) (S:List (BitVec 32)) (K:List (BitVec 8)) (T:Nat):Prop where
 sl:S.length=8
 kl:K.length=64
 st:Wds W b 0 S
 bk:Byo W b 8 K
 tk:W.cell? ⟨b,72,none⟩=some (.int .i64 (T:Int))
 ls:ai W b 73
section
variable {W:World} {b:Nat} {S:List (BitVec 32)} {K:List (BitVec 8)} {T:Nat}
theorem Hs.lt (h:Hs W b S K T):b<W.heap.size:=World.block_lt_of_cell? W _ h.tk
theorem Hs.keep {w1:World} (h:Hs W b S K T) (hb:Below W.heap.size W w1):Hs w1 b S K T:=⟨h.sl,h.kl,h.st.keep hb,h.bk.keep hb,cell_keep hb h.tk,h.ls.keep hb h.lt⟩
theorem Hs.drew (h:Hs W b S K T):Hs W.drew b S K T:=⟨h.sl,h.kl,h.st,h.bk,h.tk,h.ls⟩
theorem Hs.thereS (h:Hs W b S K T):W.there b 0 8:=h.st.there (fun i hi=>by rw [Nat.zero_add];exact h.ls i (by omega)) h.sl
theorem Hs.thereK (h:Hs W b S K T):W.there b 8 64:=fun j hj=>⟨by rw [h.bk j (by rw [h.kl];exact hj)];rfl,h.ls (8+j) (by omega)⟩
theorem Hs.setS (h:Hs W b S K T) {M:List (BitVec 32)} (hl:M.length=8):Hs (W.setCells b 0 (aW M)) b M K T:=by
 refine ⟨hl,h.kl,Wds.stored (by rw [hl];exact h.thereS),fun j hj=>?_,?_,h.ls.setCells _ _ _⟩
 ·rw [World.cell?_setCells_out _ _ _ _ _ (fun _ _=>.inr (by rw [bO,hl];show 0+8≤8+j;omega))];exact h.bk j hj
 ·rw [World.cell?_setCells_out _ _ _ _ _ (fun _ _=>.inr (by rw [bO,hl];show 0+8≤72;omega))];exact h.tk
theorem Hs.setK (h:Hs W b S K T) {M:List (BitVec 8)} (hl:M.length=64):Hs (W.setCells b 8 (byts M)) b S M T:=by
 refine ⟨h.sl,hl,fun j hj=>?_,fun j hj=>?_,?_,h.ls.setCells _ _ _⟩
 ·rw [World.cell?_setCells_out _ _ _ _ _ (fun _ _=>.inl (by have:=h.sl;show 0+j<8;omega))];exact h.st j hj
 ·exact World.rangeAt_setCells_same W b 8 (byts M) (by rw [byts_len,hl];exact h.thereK) j (.int .u8 (Y (M.getD j 0))) (by simp [byts,List.getD,hj])
 ·rw [World.cell?_setCells_out _ _ _ _ _ (fun _ _=>.inr (by rw [byts_len,hl];show 8+64≤72;omega))];exact h.tk
theorem Hs.setT (h:Hs W b S K T) (T':Nat):Hs (W.setCell ⟨b,72,none⟩ (.int .i64 (T':Int))) b S K T':=by
 refine ⟨h.sl,h.kl,fun j hj=>?_,fun j hj=>?_,World.cell?_setCell_same _ _ _ h.tk,h.ls.set _ _⟩
 ·rw [World.cell?_setCell_other _ _ _ _ (by have:=h.sl;intro e;have:=congrArg Addr.off e;simp at this;omega)];exact h.st j hj
 ·rw [World.cell?_setCell_other _ _ _ _ (by have:=h.kl;intro e;have:=congrArg Addr.off e;simp at this;omega)];exact h.bk j hj
end
theorem wk (w:World) (hh:Wds w 4 0 hN) :
  Calls Tryz.prog 139 #[] w fun e w'=>e = .returned (.agg (aW hN).toArray)∧Below w.heap.size w w':=by
 have rb:=hh.range
 have il2:(Tryz.prog.info? 147).map (·.size)=some (aW hN).length:=by rw [bO];kernel_rfl
 have sz:((aW hN).toArray).size=8:=by simp [bO,hN]
 have il3:(Tryz.prog.info? 147).map (·.size)=some ((aW hN).toArray).size:=by rw [sz];kernel_rfl
 have oc:=iL hN
 have LN:Hid ((aW hN).length=8):=by rw [bO];exact rfl
 obtain ⟨N,kN⟩:∃ N,aW hN=N:=⟨_,rfl⟩
 rw [kN] at rb il2 sz il3 oc LN
 have EN:Hid (aW hN=N):=kN
 clear kN
 have rb2:=fun o=>(show (w.alloc o).rangeAt 4 0 N from fun j v hv=>cell_keep ((Below.refl _ _).alloc (Nat.le_refl _) o) (rb j v hv))
 go_enter Tryz.func139,Tryz.ntmps139
 go_wp2_with (first
  | ((with_reducible refine aV (ty:=147) 4 0 N _ (rb2 _) Tryz.underlying147 ?_ il2 ?_ ?_);rfl;rfl;simp only [Act.put,List.setIfInBounds_toArray,List.set_cons_succ,List.set_cons_zero])
  | ((with_reducible refine aw (ty:=147) w.heap.size 0 N.toArray ?_ il3 oc ?_ ?_ ?_);rw [sz];exact (E8.zeros _ rfl).there;rfl;rfl))
 have tr:(w.alloc (.cells #[.int .u32 0,.int .u32 0,.int .u32 0,.int .u32 0,.int .u32 0,.int .u32 0,.int .u32 0,.int .u32 0] 147)).there w.heap.size 0 N.length:=by rw [LN.out];exact (E8.zeros _ rfl).there
 have ld:=run_loadVar_mid (P:=Tryz.prog) ((w.alloc (.cells #[.int .u32 0,.int .u32 0,.int .u32 0,.int .u32 0,.int .u32 0,.int .u32 0,.int .u32 0,.int .u32 0] 147)).setCells w.heap.size 0 N) w.heap.size 0 147 N _ (World.rangeAt_setCells_same _ _ _ _ tr) Tryz.underlying147 rfl il2
 refine bodyPost_ret (v:=.agg N.toArray) ?_ rfl ⟨by rw [EN.out],below_setCells (Nat.le_refl _) N 0 _ ((Below.refl _ _).alloc (Nat.le_refl _) _)⟩
 simp [results,Tryz.results139,Act.put,asAddr,ld]
theorem n9 {K:Act→World→Prop} {Q:Exit→Act→World→Prop} {x:Exit} {a:Act} {w:World} (S:World→Prop) (h:S w) (k:∀ W,S W→Exit.then K Q x a W):Exit.then K Q x a w:=k w h
theorem iO:(byts (List.replicate 64 0)).toArray=#[.int .u8 0,.int .u8 0,.int .u8 0,.int .u8 0,.int .u8 0,.int .u8 0,.int .u8 0,.int .u8 0,.int .u8 0,.int .u8 0,.int .u8 0,.int .u8 0,.int .u8 0,.int .u8 0,.int .u8 0,.int .u8 0,.int .u8 0,.int .u8 0,.int .u8 0,.int .u8 0,.int .u8 0,.int .u8 0,.int .u8 0,.int .u8 0,.int .u8 0,.int .u8 0,.int .u8 0,.int .u8 0,.int .u8 0,.int .u8 0,.int .u8 0,.int .u8 0,.int .u8 0,.int .u8 0,.int .u8 0,.int .u8 0,.int .u8 0,.int .u8 0,.int .u8 0,.int .u8 0,.int .u8 0,.int .u8 0,.int .u8 0,.int .u8 0,.int .u8 0,.int .u8 0,.int .u8 0,.int .u8 0,.int .u8 0,.int .u8 0,.int .u8 0,.int .u8 0,.int .u8 0,.int .u8 0,.int .u8 0,.int .u8 0,.int .u8 0,.int .u8 0,.int .u8 0,.int .u8 0,.int .u8 0,.int .u8 0,.int .u8 0,.int .u8 0]:=by
 have h:Y 0#8=0:=Y_zero
 simp [byts,List.replicate,h]
def yb (s0 s1 s2 s3 s4 s5 s6 s7:BitVec 32):List (BitVec 32):=[s0,s1,s2,s3,s4,s5,s6,s7]
theorem yU {b T:Nat} {S:List (BitVec 32)} {K:List (BitVec 8)} (w:World) (hH:Hs w b S K T) (hk:Wds w 5 0 kN) :
  Calls Tryz.prog 140 #[.agg (aW S).toArray,.slice (some ⟨b,8,none⟩) 64 64] w fun e w'=>e = .returned (.tuple #[.agg (aW (jr S K)).toArray,.int .i64 0])∧Below w.heap.size w w':=yT hH.sl hH.kl w hH.bk hk
theorem wl {b T:Nat} {S:List (BitVec 32)} {K:List (BitVec 8)} (hT:T<1073741824) (nf:4≠b) (ns:5≠b) (w:World) (hH:Hs w b S K T) (hf:Wds w 4 0 hN) (hk:Wds w 5 0 kN) :
  Calls Tryz.prog 130 #[.pointer (some ⟨b,0,none⟩)] w fun e w'=>e = .returned (.tuple #[])∧Hs w' b (jr (if T=64 then hN else S) K) (List.replicate 64 0) T∧Off b w w':=by
 have HH:Hid (Hs w b S K T∧Wds w 4 0 hN∧Wds w 5 0 kN∧4≠b∧5≠b):=⟨hH,hf,hk,nf,ns⟩
 have gt:=hH.tk
 have hT':(T:Int)<1073741824:=by omega
 have sz:((byts (List.replicate 64 0)).toArray).size=64:=by simp [byts_len]
 have oc:=one_byts (List.replicate 64 0)
 have il:(Tryz.prog.info? 143).map (·.size)=some ((byts (List.replicate 64 0)).toArray).size:=by rw [sz];kernel_rfl
 have HZ:Hid (byts (List.replicate 64 0)=(#[.int .u8 0,.int .u8 0,.int .u8 0,.int .u8 0,.int .u8 0,.int .u8 0,.int .u8 0,.int .u8 0,.int .u8 0,.int .u8 0,.int .u8 0,.int .u8 0,.int .u8 0,.int .u8 0,.int .u8 0,.int .u8 0,.int .u8 0,.int .u8 0,.int .u8 0,.int .u8 0,.int .u8 0,.int .u8 0,.int .u8 0,.int .u8 0,.int .u8 0,.int .u8 0,.int .u8 0,.int .u8 0,.int .u8 0,.int .u8 0,.int .u8 0,.int .u8 0,.int .u8 0,.int .u8 0,.int .u8 0,.int .u8 0,.int .u8 0,.int .u8 0,.int .u8 0,.int .u8 0,.int .u8 0,.int .u8 0,.int .u8 0,.int .u8 0,.int .u8 0,.int .u8 0,.int .u8 0,.int .u8 0,.int .u8 0,.int .u8 0,.int .u8 0,.int .u8 0,.int .u8 0,.int .u8 0,.int .u8 0,.int .u8 0,.int .u8 0,.int .u8 0,.int .u8 0,.int .u8 0,.int .u8 0,.int .u8 0,.int .u8 0,.int .u8 0]:Array Value).toList):=by rw [←iO];exact rfl
 rw [iO] at oc il
 clear hH hf hk nf ns hT
 go_enter Tryz.func130,Tryz.ntmps130
 by_cases h64:T=64
 ·have d1:((T:Int)==64)=true:=beq_iff_eq.2 (by omega)
  have HT:Hid (T=64):=h64
  rw [if_pos h64]
  clear h64
  go_wp2_with fail
  refine (wk _ HH.out.2.1).mono ?_
  rintro e w1 ⟨rfl,hb⟩
  have H1:Hid (Below w.heap.size w w1∧Hs w1 b S K T):=⟨hb,HH.out.1.keep hb⟩
  clear hb
  have oh:=iL hN
  have sh:((aW hN).toArray).size=8:=by simp [bO,hN]
  have ih:(Tryz.prog.info? 147).map (·.size)=some ((aW hN).toArray).size:=by rw [sh];kernel_rfl
  have th:w1.there b 0 (aW hN).toArray.size:=by rw [sh];exact H1.out.2.thereS
  go_wp2_with ((with_reducible refine aw (ty:=147) b 0 _ th ih oh ?_ ?_ ?_);rfl;rfl;refine aF (fun W=>Hs W b hN K T∧Off b w W∧Wds W 5 0 kN) ⟨H1.out.2.setS rfl,(Off.of_below H1.out.1).setCells _,(HH.out.2.2.1.keep H1.out.1).otherCells HH.out.2.2.2.2.symm _⟩ ?_;intro w2 h2;have FF:Hid (Hs w2 b hN K T∧Off b w w2∧Wds w2 5 0 kN):=h2;clear h2)
  simp only [Act.put]
  clear oh sh ih th gt
  obtain ⟨s0,s1,s2,s3,s4,s5,s6,s7,eS⟩:=mg FF.out.1.sl
  obtain ⟨m0,m1,m2,m3,m4,m5,m6,m7,eM⟩:=mg (pc (hN) K)
  have EM:Hid (jr (hN) K=[m0,m1,m2,m3,m4,m5,m6,m7]):=eM
  have CC:Hid (∀ W,W=w2.drew→Calls Tryz.prog 140 #[.agg #[.int .u32 (U s0),.int .u32 (U s1),.int .u32 (U s2),.int .u32 (U s3),.int .u32 (U s4),.int .u32 (U s5),.int .u32 (U s6),.int .u32 (U s7)],.slice (some ⟨b,8,none⟩) 64 64] W fun e w'=>e = .returned (.tuple #[.agg #[.int .u32 (U m0),.int .u32 (U m1),.int .u32 (U m2),.int .u32 (U m3),.int .u32 (U m4),.int .u32 (U m5),.int .u32 (U m6),.int .u32 (U m7)],.int .i64 0])∧Below w2.heap.size w2 w'):=by
   rintro W rfl
   have h:=yU w2.drew FF.out.1.drew FF.out.2.2
   rw [eM,eS] at h
   exact h.mono fun _ _ ⟨h1,h2⟩=>⟨h1,(Below.refl _ _).drew.trans h2⟩
  have FS:Hid (Hs w2 b [s0,s1,s2,s3,s4,s5,s6,s7] K T):=by rw [←eS];exact FF.out.1
  clear eM eS
  have c0:w2.cell? ⟨b,0,none⟩=some (.int .u32 (U s0)):=FS.out.st 0 (by show 0<8;decide)
  have f0:=FS.out.ls 0 (by decide)
  have c1:w2.cell? ⟨b,1,none⟩=some (.int .u32 (U s1)):=FS.out.st 1 (by show 1<8;decide)
  have f1:=FS.out.ls 1 (by decide)
  have c2:w2.cell? ⟨b,2,none⟩=some (.int .u32 (U s2)):=FS.out.st 2 (by show 2<8;decide)
  have f2:=FS.out.ls 2 (by decide)
  have c3:w2.cell? ⟨b,3,none⟩=some (.int .u32 (U s3)):=FS.out.st 3 (by show 3<8;decide)
  have f3:=FS.out.ls 3 (by decide)
  have c4:w2.cell? ⟨b,4,none⟩=some (.int .u32 (U s4)):=FS.out.st 4 (by show 4<8;decide)
  have f4:=FS.out.ls 4 (by decide)
  have c5:w2.cell? ⟨b,5,none⟩=some (.int .u32 (U s5)):=FS.out.st 5 (by show 5<8;decide)
  have f5:=FS.out.ls 5 (by decide)
  have c6:w2.cell? ⟨b,6,none⟩=some (.int .u32 (U s6)):=FS.out.st 6 (by show 6<8;decide)
  have f6:=FS.out.ls 6 (by decide)
  have c7:w2.cell? ⟨b,7,none⟩=some (.int .u32 (U s7)):=FS.out.st 7 (by show 7<8;decide)
  have f7:=FS.out.ls 7 (by decide)
  go_region_with (go_at_call 140;refine (CC.out _ rfl).mono ?_;rintro e wc ⟨rfl,hb⟩;have HC:Hid (Below w2.heap.size w2 wc∧Hs wc b [s0,s1,s2,s3,s4,s5,s6,s7] K T):=⟨hb,FS.out.keep hb⟩;clear hb c0 c1 c2 c3 c4 c5 c6 c7 f0 f1 f2 f3 f4 f5 f6 f7;have c0:wc.cell? ⟨b,0,none⟩=some (.int .u32 (U s0)):=HC.out.2.st 0 (by show 0<8;decide);have f0:=HC.out.2.ls 0 (by decide);have c1:wc.cell? ⟨b,1,none⟩=some (.int .u32 (U s1)):=HC.out.2.st 1 (by show 1<8;decide);have f1:=HC.out.2.ls 1 (by decide);have c2:wc.cell? ⟨b,2,none⟩=some (.int .u32 (U s2)):=HC.out.2.st 2 (by show 2<8;decide);have f2:=HC.out.2.ls 2 (by decide);have c3:wc.cell? ⟨b,3,none⟩=some (.int .u32 (U s3)):=HC.out.2.st 3 (by show 3<8;decide);have f3:=HC.out.2.ls 3 (by decide);have c4:wc.cell? ⟨b,4,none⟩=some (.int .u32 (U s4)):=HC.out.2.st 4 (by show 4<8;decide);have f4:=HC.out.2.ls 4 (by decide);have c5:wc.cell? ⟨b,5,none⟩=some (.int .u32 (U s5)):=HC.out.2.st 5 (by show 5<8;decide);have f5:=HC.out.2.ls 5 (by decide);have c6:wc.cell? ⟨b,6,none⟩=some (.int .u32 (U s6)):=HC.out.2.st 6 (by show 6<8;decide);have f6:=HC.out.2.ls 6 (by decide);have c7:wc.cell? ⟨b,7,none⟩=some (.int .u32 (U s7)):=HC.out.2.st 7 (by show 7<8;decide);have f7:=HC.out.2.ls 7 (by decide))
  all_goals
   refine n9 (fun W=>Hs W b [m0,m1,m2,m3,m4,m5,m6,m7] K T∧Off b w W) ⟨HC.out.2.setS (M:=[m0,m1,m2,m3,m4,m5,m6,m7]) rfl,(FF.out.2.1.trans (.of_below HC.out.1)).setCells (o:=0) (aW [m0,m1,m2,m3,m4,m5,m6,m7])⟩ ?_
   rintro wd ⟨hs,ho⟩
   have HD:Hid (Hs wd b [m0,m1,m2,m3,m4,m5,m6,m7] K T∧Off b w wd):=⟨hs,ho⟩
   have tr:wd.there b 8 (byts (List.replicate 64 0)).toArray.size:=by rw [sz];exact hs.thereK
   clear hs ho c0 c1 c2 c3 c4 c5 c6 c7 f0 f1 f2 f3 f4 f5 f6 f7
   rw [iO] at tr
   go_wp2_with ((with_reducible refine aw (ty:=143) b 8 _ tr il oc ?_ ?_ ?_);rfl;rfl)
   all_goals go_end0
   all_goals refine ⟨rfl,?_,?_⟩
   ·have h:=HD.out.1.setK (M:=List.replicate 64 0) (by simp)
    rw [HZ.out] at h
    rw [EM.out]
    exact h
   ·exact HD.out.2.setCells _
 ·have d1:((T:Int)==64)=false:=beq_eq_false_iff_ne.2 (by omega)
  rw [if_neg h64]
  go_wp2_with fail
  have FF:Hid (Hs w b S K T∧Off b w w∧Wds w 5 0 kN):=⟨HH.out.1,Off.refl _ _,HH.out.2.2.1⟩
  clear gt
  obtain ⟨s0,s1,s2,s3,s4,s5,s6,s7,eS⟩:=mg FF.out.1.sl
  obtain ⟨m0,m1,m2,m3,m4,m5,m6,m7,eM⟩:=mg (pc (S) K)
  have EM:Hid (jr (S) K=[m0,m1,m2,m3,m4,m5,m6,m7]):=eM
  have CC:Hid (∀ W,W=w.drew→Calls Tryz.prog 140 #[.agg #[.int .u32 (U s0),.int .u32 (U s1),.int .u32 (U s2),.int .u32 (U s3),.int .u32 (U s4),.int .u32 (U s5),.int .u32 (U s6),.int .u32 (U s7)],.slice (some ⟨b,8,none⟩) 64 64] W fun e w'=>e = .returned (.tuple #[.agg #[.int .u32 (U m0),.int .u32 (U m1),.int .u32 (U m2),.int .u32 (U m3),.int .u32 (U m4),.int .u32 (U m5),.int .u32 (U m6),.int .u32 (U m7)],.int .i64 0])∧Below w.heap.size w w'):=by
   rintro W rfl
   have h:=yU w.drew FF.out.1.drew FF.out.2.2
   rw [eM,eS] at h
   exact h.mono fun _ _ ⟨h1,h2⟩=>⟨h1,(Below.refl _ _).drew.trans h2⟩
  have FS:Hid (Hs w b [s0,s1,s2,s3,s4,s5,s6,s7] K T):=by rw [←eS];exact FF.out.1
  clear eM eS
  have c0:w.cell? ⟨b,0,none⟩=some (.int .u32 (U s0)):=FS.out.st 0 (by show 0<8;decide)
  have f0:=FS.out.ls 0 (by decide)
  have c1:w.cell? ⟨b,1,none⟩=some (.int .u32 (U s1)):=FS.out.st 1 (by show 1<8;decide)
  have f1:=FS.out.ls 1 (by decide)
  have c2:w.cell? ⟨b,2,none⟩=some (.int .u32 (U s2)):=FS.out.st 2 (by show 2<8;decide)
  have f2:=FS.out.ls 2 (by decide)
  have c3:w.cell? ⟨b,3,none⟩=some (.int .u32 (U s3)):=FS.out.st 3 (by show 3<8;decide)
  have f3:=FS.out.ls 3 (by decide)
  have c4:w.cell? ⟨b,4,none⟩=some (.int .u32 (U s4)):=FS.out.st 4 (by show 4<8;decide)
  have f4:=FS.out.ls 4 (by decide)
  have c5:w.cell? ⟨b,5,none⟩=some (.int .u32 (U s5)):=FS.out.st 5 (by show 5<8;decide)
  have f5:=FS.out.ls 5 (by decide)
  have c6:w.cell? ⟨b,6,none⟩=some (.int .u32 (U s6)):=FS.out.st 6 (by show 6<8;decide)
  have f6:=FS.out.ls 6 (by decide)
  have c7:w.cell? ⟨b,7,none⟩=some (.int .u32 (U s7)):=FS.out.st 7 (by show 7<8;decide)
  have f7:=FS.out.ls 7 (by decide)
  go_region_with (go_at_call 140;refine (CC.out _ rfl).mono ?_;rintro e wc ⟨rfl,hb⟩;have HC:Hid (Below w.heap.size w wc∧Hs wc b [s0,s1,s2,s3,s4,s5,s6,s7] K T):=⟨hb,FS.out.keep hb⟩;clear hb c0 c1 c2 c3 c4 c5 c6 c7 f0 f1 f2 f3 f4 f5 f6 f7;have c0:wc.cell? ⟨b,0,none⟩=some (.int .u32 (U s0)):=HC.out.2.st 0 (by show 0<8;decide);have f0:=HC.out.2.ls 0 (by decide);have c1:wc.cell? ⟨b,1,none⟩=some (.int .u32 (U s1)):=HC.out.2.st 1 (by show 1<8;decide);have f1:=HC.out.2.ls 1 (by decide);have c2:wc.cell? ⟨b,2,none⟩=some (.int .u32 (U s2)):=HC.out.2.st 2 (by show 2<8;decide);have f2:=HC.out.2.ls 2 (by decide);have c3:wc.cell? ⟨b,3,none⟩=some (.int .u32 (U s3)):=HC.out.2.st 3 (by show 3<8;decide);have f3:=HC.out.2.ls 3 (by decide);have c4:wc.cell? ⟨b,4,none⟩=some (.int .u32 (U s4)):=HC.out.2.st 4 (by show 4<8;decide);have f4:=HC.out.2.ls 4 (by decide);have c5:wc.cell? ⟨b,5,none⟩=some (.int .u32 (U s5)):=HC.out.2.st 5 (by show 5<8;decide);have f5:=HC.out.2.ls 5 (by decide);have c6:wc.cell? ⟨b,6,none⟩=some (.int .u32 (U s6)):=HC.out.2.st 6 (by show 6<8;decide);have f6:=HC.out.2.ls 6 (by decide);have c7:wc.cell? ⟨b,7,none⟩=some (.int .u32 (U s7)):=HC.out.2.st 7 (by show 7<8;decide);have f7:=HC.out.2.ls 7 (by decide))
  all_goals
   refine n9 (fun W=>Hs W b [m0,m1,m2,m3,m4,m5,m6,m7] K T∧Off b w W) ⟨HC.out.2.setS (M:=[m0,m1,m2,m3,m4,m5,m6,m7]) rfl,(FF.out.2.1.trans (.of_below HC.out.1)).setCells (o:=0) (aW [m0,m1,m2,m3,m4,m5,m6,m7])⟩ ?_
   rintro wd ⟨hs,ho⟩
   have HD:Hid (Hs wd b [m0,m1,m2,m3,m4,m5,m6,m7] K T∧Off b w wd):=⟨hs,ho⟩
   have tr:wd.there b 8 (byts (List.replicate 64 0)).toArray.size:=by rw [sz];exact hs.thereK
   clear hs ho c0 c1 c2 c3 c4 c5 c6 c7 f0 f1 f2 f3 f4 f5 f6 f7
   rw [iO] at tr
   go_wp2_with ((with_reducible refine aw (ty:=143) b 8 _ tr il oc ?_ ?_ ?_);rfl;rfl)
   all_goals go_end0
   all_goals refine ⟨rfl,?_,?_⟩
   ·have h:=HD.out.1.setK (M:=List.replicate 64 0) (by simp)
    rw [HZ.out] at h
    rw [EM.out]
    exact h
   ·exact HD.out.2.setCells _
end Go.Proofs.YtjoandmehahfgaaGreatDoor.S

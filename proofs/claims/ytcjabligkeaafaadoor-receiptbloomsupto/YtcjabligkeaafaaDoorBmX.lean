import Derived.Test.YtcjabligkeaafaaDoorBmD
import Derived.Test.YtcjabligkeaafaaDoorBmN
import Derived.Test.YtcjabligkeaafaaDoorBmC
import Derived.Laws.IdiomStrings
/- Count, Within, Union, Bits. -/
namespace Go.Proofs.YtcjabligkeaafaaDoor.S
open Go.RowKit Go.Sort

/-- Filters in a row. -/
def Fls (W : World) (b o : Nat) (FS : List (List (BitVec 8))) : Prop := ∀ k, k < FS.length → (FS.getD k zF).length = 256 ∧ W.rangeAt b (o + k * 256) (byts (FS.getD k zF))
theorem Fls.keep {W w1 : World} {b o : Nat} {FS : List (List (BitVec 8))} (h : Fls W b o FS) (hb : Below W.heap.size W w1) : Fls w1 b o FS := fun k hk => ⟨(h k hk).1, fun j v hv => cell_keep hb ((h k hk).2 j v hv)⟩
/-- All bits of all of them. -/
def orA (A : List (BitVec 8)) (FS : List (List (BitVec 8))) : List (BitVec 8) := FS.foldl orF A
theorem orA_len : ∀ (FS : List (List (BitVec 8))) {A : List (BitVec 8)}, A.length = 256 → (∀ k, k < FS.length → (FS.getD k zF).length = 256) → (orA A FS).length = 256
  | [], _, h, _ => h
  | F :: FS, A, h, hf => orA_len FS (orF_len h (hf 0 (by simp))) fun k hk => hf (k + 1) (by simpa using hk)
theorem orA_next {FS : List (List (BitVec 8))} {i : Nat} (h : i < FS.length) (A : List (BitVec 8)) : orA A (FS.take (i + 1)) = orF (orA A (FS.take i)) (FS.getD i zF) := by
  have e : FS.take (i + 1) = FS.take i ++ [FS.getD i zF] := by rw [List.take_add_one, List.getElem?_eq_getElem h, List.getD, List.getElem?_eq_getElem h]; rfl
  rw [e, orA, orA, List.foldl_append]; rfl
/-- The first i bytes are joined. -/
def orT (A F : List (BitVec 8)) (i : Nat) : List (BitVec 8) := (orF A F).take i ++ A.drop i
theorem orT_at {A F : List (BitVec 8)} (hA : A.length = 256) (hF : F.length = 256) {i : Nat} (hi : i < 256) : (orT A F i).getD i 0 = A.getD i 0 := by
  have l : ((orF A F).take i).length = i := by rw [List.length_take, orF_len hA hF]; omega
  rw [orT, List.getD, List.getElem?_append_right (by omega), l, Nat.sub_self, List.getElem?_drop, Nat.add_zero, ← List.getD]
theorem orT_set {A F : List (BitVec 8)} (hA : A.length = 256) (hF : F.length = 256) {i : Nat} (hi : i < 256) : (orT A F i).set i (A.getD i 0 ||| F.getD i 0) = orT A F (i + 1) := by
  have l : ((orF A F).take i).length = i := by rw [List.length_take, orF_len hA hF]; omega
  have lo := orF_len hA hF
  have g := orF_getD hA hF hi
  rw [orT, orT, List.set_append_right _ _ (by omega), l, Nat.sub_self, List.drop_eq_getElem_cons (by omega : i < A.length), List.set_cons_zero, List.take_add_one, List.getElem?_eq_getElem (by omega : i < (orF A F).length), List.append_assoc, ← g, List.getD, List.getElem?_eq_getElem (by omega : i < (orF A F).length)]
  rfl
theorem orT_0 (A F : List (BitVec 8)) : orT A F 0 = A := by simp [orT]
theorem orT_all {A F : List (BitVec 8)} (hA : A.length = 256) (hF : F.length = 256) : orT A F 256 = orF A F := by
  rw [orT, List.take_of_length_le (by rw [orF_len hA hF]; exact Nat.le_refl _), List.drop_of_length_le (by omega), List.append_nil]

set_option maxRecDepth 100000 in
set_option maxHeartbeats 8000000 in
theorem union_any {a : Option Addr} {bp op cp : Nat} {FS : List (List (BitVec 8))} (hn : FS.length < 1099511627776) (ha : FS = [] ∨ a = some ⟨bp, op, none⟩) (w : World) (hL : Fls w bp op FS) :
    Calls Tryd.prog 5 #[.slice a FS.length cp] w fun e w' => e = .returned (.agg (byts (orA zF FS)).toArray) ∧ Below w.heap.size w w' := by
  have HH : Hid ((FS = [] ∨ a = some ⟨bp, op, none⟩) ∧ (∀ k, k < FS.length → (FS.getD k zF).length = 256)) := ⟨ha, fun k hk => (hL k hk).1⟩
  have KL : Hid (∀ W, Below w.heap.size w W → Fls W bp op FS) := fun W B => hL.keep B
  have n1 : (FS.length : Int) < 1099511627776 := by omega
  have LA : Hid (∀ i, (orA zF (FS.take i)).length = 256) := fun i => orA_len _ zF_len fun k hk => by
    rw [List.length_take] at hk
    have e : (FS.take i).getD k zF = FS.getD k zF := by rw [List.getD, List.getElem?_take, if_pos (by omega), ← List.getD]
    rw [e]; exact (hL k (by omega)).1
  clear hn ha hL
  go_enter Tryd.func5, Tryd.ntmps5
  go_wp2_with (refine wpList_alloc_zero rfl 28 rfl _ zero_bloom ?_)
  refine wp_world (fun W => Below w.heap.size w W ∧ Blm W w.heap.size zF ∧ Blm W (w.heap.size + 1) zF) ⟨((Below.refl _ _).alloc (Nat.le_refl _) _).alloc (by simp) _, (Blm.new zF_len _ rfl).alloc _, Blm.new zF_len _ (by simp)⟩ ?_
  rintro W ⟨B, hR, hF⟩
  have o1 : w.heap.size ≤ w.heap.size + 1 := by omega
  have c1 : w.heap.size ≠ w.heap.size + 1 := by omega
  generalize w.heap.size + 1 = bf at *
  go_loopg [10] FS.length (fun k iv wr => ∃ i : Nat, k = FS.length - i ∧ i ≤ FS.length ∧ iv = .int .i64 i ∧ Below w.heap.size w wr ∧ Blm wr w.heap.size zF ∧ Blm wr bf (orA zF (FS.take i)))
  case atStart => exact ⟨0, rfl, Nat.zero_le _, rfl, B, hR, hF⟩
  case round =>
    clear B hR hF
    obtain ⟨i, hk, hi, rfl, B, hR, hF⟩ := hrel
    have HK : Hid (gk = FS.length - i) := hk
    have SR : Hid (Below w.heap.size w wr ∧ Blm wr w.heap.size zF ∧ Blm wr bf (orA zF (FS.take i))) := ⟨B, hR, hF⟩
    clear hk B hR hF
    by_cases h8 : i = FS.length
    · subst h8
      have hS := SR.out.2.2
      rw [List.take_length] at hS
      have rb := hS.range
      have ic := size_bloom hS.1
      have ia := size_bloomA hS.1
      have oc := one_byts (orA zF FS)
      obtain ⟨N, hN⟩ : ∃ N, N = byts (orA zF FS) := ⟨_, rfl⟩
      have HN : Hid (N = byts (orA zF FS) ∧ N.length = 256) := ⟨hN, by rw [hN, byts_len]; exact hS.1⟩
      rw [← hN] at rb ic ia oc
      have sz : N.toArray.size = 256 := by simp [HN.out.2]
      have tr : wr.there w.heap.size 0 N.toArray.size := by rw [sz]; exact SR.out.2.1.there
      have B' := SR.out.1
      clear SR hN hS
      go_wp2_with (first | refine wpList_load_mid rfl 28 _ rfl bf 0 rfl N _ rb Tryd.underlying28 rfl ic ?_ | refine wpList_store_mid rfl 28 _ _ rfl w.heap.size 0 _ rfl rfl tr ia oc ?_)
      have ld := run_loadVar_mid (P := Tryd.prog) (wr.setCells w.heap.size 0 N) w.heap.size 0 28 N _ (World.rangeAt_setCells_same _ _ _ _ (by simpa using tr)) Tryd.underlying28 rfl ic
      refine bodyPost_ret (v := .agg N.toArray) ?_ rfl ⟨by rw [HN.out.1], below_setCells (Nat.le_refl _) N 0 wr B'⟩
      simp [results, Tryd.results5, Act.put, asAddr, ld]
    · have hlt : i < FS.length := by omega
      have hlt' : (i : Int) < (FS.length : Int) := by omega
      obtain rfl : a = some ⟨bp, op, none⟩ := by
        rcases HH.out.1 with e | e
        · rw [e] at hlt; simp at hlt
        · exact e
      obtain ⟨l0, r0⟩ := KL.out wr SR.out.1 i hlt
      have NX : Hid (orA zF (FS.take (i + 1)) = orF (orA zF (FS.take i)) (FS.getD i zF)) := orA_next hlt zF
      have LL : Hid ((FS.getD i zF).length = 256 ∧ (orA zF (FS.take i)).length = 256) := ⟨l0, LA.out i⟩
      have ic := size_bloom l0
      have ia := size_bloomA l0
      have oc := one_byts (FS.getD i zF)
      have sz : (byts (FS.getD i zF)).toArray.size = 256 := by rw [List.size_toArray, byts_len, l0]
      clear l0 h8
      generalize FS.getD i zF = F at *
      generalize orA zF (FS.take i) = A at *
      have TH : ∀ t, (wr.alloc (.cells (byts zF).toArray t)).there wr.heap.size 0 (byts F).toArray.size := fun t => by rw [sz]; exact (Blm.new zF_len t rfl).there
      have W4 : ∀ t, Hid (Below w.heap.size w ((wr.alloc (.cells (byts zF).toArray t)).setCells wr.heap.size 0 (byts F)) ∧ Blm ((wr.alloc (.cells (byts zF).toArray t)).setCells wr.heap.size 0 (byts F)) w.heap.size zF ∧ Blm ((wr.alloc (.cells (byts zF).toArray t)).setCells wr.heap.size 0 (byts F)) bf A ∧ Blm ((wr.alloc (.cells (byts zF).toArray t)).setCells wr.heap.size 0 (byts F)) wr.heap.size F) := fun t => ⟨below_setCells SR.out.1.size _ 0 _ (SR.out.1.alloc SR.out.1.size _), (SR.out.2.1.alloc _).otherCells (Nat.ne_of_gt SR.out.2.1.lt) _, (SR.out.2.2.alloc _).otherCells (Nat.ne_of_gt SR.out.2.2.lt) _, (Blm.new zF_len t rfl).stored LL.out.1⟩
      have e256 : ((i : Int) * 256).toNat = i * 256 := by omega
      go_wp2_with (first | refine wpList_load_mid rfl 28 _ rfl bp (op + i * 256) rfl (byts F) _ r0 Tryd.underlying28 rfl ic ?_ | refine wpList_alloc_zero rfl 28 rfl _ zero_bloom ?_ | (refine wpList_store_mid rfl 28 _ _ rfl wr.heap.size 0 _ rfl rfl (TH _) ia oc ?_; refine wpList_world (fun W => Below w.heap.size w W ∧ Blm W w.heap.size zF ∧ Blm W bf A ∧ Blm W wr.heap.size F) (W4 _).out ?_; clear W4 TH; rintro W4 ⟨B4, Z4, A4, F4⟩; have S4 : Hid (Below w.heap.size w W4 ∧ Blm W4 w.heap.size zF ∧ Blm W4 bf A) := ⟨B4, Z4, A4⟩; have r4 := F4.range; clear B4 Z4 A4 F4 r0) | refine wpList_load_mid rfl 28 _ rfl wr.heap.size 0 rfl (byts F) _ r4 Tryd.underlying28 rfl ic ?_)
      have IX : Hid (∀ i : Nat, i < 256 → ∀ w, (Instr.index 28 (.agg (byts F).toArray) (.int .i64 (i : Int))).run Tryd.prog w = .ok (.int .u8 (Y (F.getD i 0))) w) := fun i hi w => index_bloom LL.out.1 hi w
      clear r4 ic ia oc sz SR
      generalize wr.heap.size = bs at *
      generalize (byts F).toArray = FV at *
      clear e256
      have HLT : Hid (i < FS.length ∧ i ≤ FS.length) := ⟨hlt, hi⟩
      go_loopg [15] 256 (fun k jv wq => ∃ j : Nat, k = 256 - j ∧ j ≤ 256 ∧ jv = .int .i64 j ∧ Below w.heap.size w wq ∧ Blm wq w.heap.size zF ∧ Blm wq bf (orT A F j))
      case atStart => exact ⟨0, rfl, by decide, rfl, S4.out.1, S4.out.2.1, by rw [orT_0]; exact S4.out.2.2⟩
      case round =>
        clear S4
        obtain ⟨j, hk, hj, rfl, B, hR, hF⟩ := hrel
        have HJ : Hid (gk = 256 - j) := hk
        have SQ : Hid (Below w.heap.size w wr ∧ Blm wr w.heap.size zF ∧ Blm wr bf (orT A F j)) := ⟨B, hR, hF⟩
        clear hk B hR hF
        by_cases h8 : j = 256
        · subst h8
          have N6 : Hid (Below w.heap.size w wr ∧ Blm wr w.heap.size zF ∧ Blm wr bf (orA zF (FS.take (i + 1)))) := ⟨SQ.out.1, SQ.out.2.1, by rw [NX.out, ← orT_all LL.out.2 LL.out.1]; exact SQ.out.2.2⟩
          clear SQ
          go_wp2
          go_roundg (FS.length - (i + 1))
          case measure => have := HK.out; have := HLT.out; omega
          case rel => exact ⟨i + 1, rfl, by have := HLT.out; omega, by go_num, N6.out⟩
        · have hl2 : (j : Int) < 256 := by omega
          have ix := IX.out j (by omega)
          have g1 := SQ.out.2.2.2.1 j (by omega)
          have f1 := SQ.out.2.2.2.2 j (by omega)
          rw [orT_at LL.out.2 LL.out.1 (by omega)] at g1
          have NY : Hid (Below w.heap.size w (wr.setCell ⟨bf, j, none⟩ (.int .u8 (bits .or .u8 (Y (A.getD j 0)) (Y (F.getD j 0))))) ∧ Blm (wr.setCell ⟨bf, j, none⟩ (.int .u8 (bits .or .u8 (Y (A.getD j 0)) (Y (F.getD j 0))))) w.heap.size zF ∧ Blm (wr.setCell ⟨bf, j, none⟩ (.int .u8 (bits .or .u8 (Y (A.getD j 0)) (Y (F.getD j 0))))) bf (orT A F (j + 1))) := by
            rw [Y_or, ← orT_set LL.out.2 LL.out.1 (by omega)]
            exact ⟨SQ.out.1.setCell o1 _, SQ.out.2.1.other (Ne.symm c1) _, SQ.out.2.2.set j (by omega) _⟩
          clear SQ h8
          generalize Y (A.getD j 0) = x at *
          generalize Y (F.getD j 0) = y at *
          go_wp2
          go_roundg (256 - (j + 1))
          case measure => have := HJ.out; omega
          case rel => exact ⟨j + 1, rfl, by omega, by go_num, NY.out⟩
end Go.Proofs.YtcjabligkeaafaaDoor.S

import Derived.Test.YtkbkbbilhmmifaaDoorSRBad
import Derived.Test.YtkbkbbilhmmifaaDoorSRLent
import Derived.Test.YtkbkbbilhmmifaaDoorSHsr
/- ShaBlocks. -/
namespace Go.Proofs.YtkbkbbilhmmifaaDoor
open Go.RowKit Go.Sort

def flipB (X : List (BitVec 8)) : List (BitVec 8) := X.map fun x => x ^^^ 255
theorem flipB_len (X : List (BitVec 8)) : (flipB X).length = X.length := by simp [flipB]
/-- The first i of X turned. -/
def flipTo (X Z : List (BitVec 8)) (i : Nat) : List (BitVec 8) := flipB (X.take i) ++ (X.drop i ++ Z)
theorem flipTo_len {X Z : List (BitVec 8)} {i : Nat} (h : i ≤ X.length) : (flipTo X Z i).length = X.length + Z.length := by
  simp [flipTo, flipB_len]; omega
theorem flipTo_step {X Z : List (BitVec 8)} {i : Nat} (h : i < X.length) : (flipTo X Z i).getD i 0 = X.getD i 0 ∧ (flipTo X Z i).set i (X.getD i 0 ^^^ 255) = flipTo X Z (i + 1) := by
  have l1 : (flipB (X.take i)).length = i := by rw [flipB_len, List.length_take]; omega
  have e1 : X.drop i = X.getD i 0 :: X.drop (i + 1) := by
    rw [List.drop_eq_getElem_cons h, List.getD, List.getElem?_eq_getElem h]; rfl
  have e2 : X.take (i + 1) = X.take i ++ [X.getD i 0] := by
    rw [List.take_add_one, List.getElem?_eq_getElem h, List.getD, List.getElem?_eq_getElem h]; rfl
  constructor
  · rw [flipTo, List.getD, List.getElem?_append_right (by omega), l1, Nat.sub_self, e1]; rfl
  · rw [flipTo, flipTo, List.set_append_right _ _ (by omega), l1, Nat.sub_self, e1, e2]
    simp [flipB]

set_option maxHeartbeats 4000000 in
theorem turn_any {g c : Nat} {X Z : List (BitVec 8)} (hl : X.length < 1073741824) (w : World) (hG : Gb w g (X ++ Z)) :
    Calls Tryd.prog 13 #[.slice (some ⟨g, 0, none⟩) X.length c] w fun e w' => e = .returned (.tuple #[]) ∧ Gb w' g (flipB X ++ Z) ∧ Off g w w' := by
  have hl' : (X.length : Int) < 1073741824 := by omega
  have HL : Hid (X.length < 1073741824 ∧ Gb w g (X ++ Z)) := ⟨hl, hG⟩
  have y255 : Y 255 = 255 := by rw [Y_eq]; rfl
  clear hl hG
  go_enter Tryd.func13, Tryd.ntmps13
  go_wp2_with fail
  go_loopg [2] X.length (fun k iv wr => ∃ i : Nat, k = X.length - i ∧ i ≤ X.length ∧ iv = .int .i64 i ∧ Gb wr g (flipTo X Z i) ∧ Off g w wr)
  case atStart => exact ⟨0, rfl, Nat.zero_le _, rfl, by show Gb w g (flipB (X.take 0) ++ (X.drop 0 ++ Z)); simpa [flipB] using HL.out.2, Off.refl _ _⟩
  case round =>
    obtain ⟨i, hk, hi, rfl, hG, hO⟩ := hrel
    have HK : Hid (gk = X.length - i) := hk
    have HF : Hid (Gb wr g (flipTo X Z i) ∧ Off g w wr) := ⟨hG, hO⟩
    clear hk hG hO
    by_cases h8 : i = X.length
    · subst h8
      have HE : Hid (flipTo X Z X.length = flipB X ++ Z) := by rw [flipTo, List.take_length, List.drop_length, List.nil_append]; exact rfl
      go_wp2
      simp [bodyPost, results, Tryd.results13, go_sem]
      exact ⟨by have h := HF.out.1; rw [HE.out] at h; exact h, HF.out.2⟩
    · have hlt : i < X.length := by omega
      have hlt' : (i : Int) < (X.length : Int) := by omega
      obtain ⟨f1, f2⟩ := flipTo_step (Z := Z) hlt
      have gx := HF.out.1.1 i (by rw [flipTo_len hi]; omega)
      rw [Nat.zero_add, f1] at gx
      have fx := HF.out.1.2 i (by rw [flipTo_len hi]; omega)
      have F2 : Hid ((flipTo X Z i).set i (X.getD i 0 ^^^ 255) = flipTo X Z (i + 1)) := f2
      have LI : Hid (i < (flipTo X Z i).length) := (by rw [flipTo_len hi]; omega : i < (flipTo X Z i).length)
      have yx := Y_xor (X.getD i 0) 255
      rw [y255] at yx
      clear f1 f2
      generalize X.getD i 0 = x at *
      go_wp2
      go_roundg (X.length - (i + 1))
      case measure => have := HK.out; omega
      case rel => exact ⟨i + 1, rfl, by omega, by go_num, by rw [← F2.out]; exact HF.out.1.set LI.out _, HF.out.2.setCell _⟩

theorem num3_any (v : Int) (w : World) : Calls Tryd.prog 9 #[.int .i64 v] w fun e w' => e = .returned (.int .i64 v) ∧ Below w.heap.size w w' := by
  go_enter Tryd.func9, Tryd.ntmps9
  go_wp2
  simp [bodyPost, results, Tryd.results9, go_sem]
  exact Below.refl _ _

/-- What the law keeps: the state's copy, the tables, what was lent. -/
def Bk (w W : World) (S : List (BitVec 32)) (g : Nat) (T : List (BitVec 8)) : Prop := Below w.heap.size w W ∧ W.rangeAt w.heap.size 0 (wrds S) ∧ Wds W 1 0 hN ∧ Wds W 0 0 kN ∧ Gb W g T ∧ g < W.heap.size
theorem range_kept {W w1 : World} {b : Nat} {L : List Value} (h : W.rangeAt b 0 L) (hb : Below W.heap.size W w1) : w1.rangeAt b 0 L := fun j v hv => cell_keep hb (h j v hv)
theorem Bk.keep {w W W' : World} {S : List (BitVec 32)} {g : Nat} {T : List (BitVec 8)} (h : Bk w W S g T) (hb : Below W.heap.size W W') : Bk w W' S g T :=
  ⟨h.1.trans (hb.mono h.1.size), range_kept h.2.1 hb, h.2.2.1.keep hb, h.2.2.2.1.keep hb, h.2.2.2.2.1.keep h.2.2.2.2.2 hb, Nat.lt_of_lt_of_le h.2.2.2.2.2 hb.size⟩
theorem Bk.off {w W W' : World} {S : List (BitVec 32)} {g : Nat} {T T' : List (BitVec 8)} (h : Bk w W S g T) (ho : Off g W W') (hG : Gb W' g T') (hf : Wds w 1 0 hN) (hk : Wds w 0 0 kN) (lt : w.heap.size < g) : Bk w W' S g T' := by
  have l1 : 1 < w.heap.size := hf.lt (by decide)
  have l2 : 0 < w.heap.size := hk.lt (by decide)
  exact ⟨h.1.trans (ho.below h.1.size (by omega)), fun j v hv => ho.cell (p := ⟨w.heap.size, 0 + j, none⟩) (by show w.heap.size ≠ g; omega) (h.2.1 j v hv), fun i hi => ho.cell (by show 1 ≠ g; omega) (h.2.2.1 i hi), fun i hi => ho.cell (by show 0 ≠ g; omega) (h.2.2.2.1 i hi), hG, Nat.lt_of_lt_of_le h.2.2.2.2.2 ho.size⟩
theorem store8 {W : World} {t : TypeId} {C : List (BitVec 32)} (hC : C.length = 8) : Below W.heap.size W ((W.alloc (.cells #[.int .u32 0, .int .u32 0, .int .u32 0, .int .u32 0, .int .u32 0, .int .u32 0, .int .u32 0, .int .u32 0] t)).setCells W.heap.size 0 (wrds C)) ∧ ((W.alloc (.cells #[.int .u32 0, .int .u32 0, .int .u32 0, .int .u32 0, .int .u32 0, .int .u32 0, .int .u32 0, .int .u32 0] t)).setCells W.heap.size 0 (wrds C)).rangeAt W.heap.size 0 (wrds C) ∧ (W.alloc (.cells #[.int .u32 0, .int .u32 0, .int .u32 0, .int .u32 0, .int .u32 0, .int .u32 0, .int .u32 0, .int .u32 0] t)).there W.heap.size 0 (wrds C).toArray.size := by
  have th : (W.alloc (.cells #[.int .u32 0, .int .u32 0, .int .u32 0, .int .u32 0, .int .u32 0, .int .u32 0, .int .u32 0, .int .u32 0] t)).there W.heap.size 0 (wrds C).toArray.size := by
    rw [show (wrds C).toArray.size = 8 by simp [wrds_len, hC]]; exact (E8.zeros t rfl).there
  exact ⟨below_setCells (Nat.le_refl _) _ 0 _ ((Below.refl _ _).alloc (Nat.le_refl _) _), World.rangeAt_setCells_same _ _ _ _ (by simpa using th), th⟩

set_option maxRecDepth 100000 in
set_option maxHeartbeats 16000000 in
theorem blocks_walk {a : Option Addr} {bd od cd : Nat} {S C D : List (BitVec 32)} {X : List (BitVec 8)} {e0 : Int} (hS : S.length = 8) (hC : C.length = 8) (hD : D.length = 8) (hl : X.length < 1073741000) (ha : At a bd od X)
    (C1 : Hid (∀ W g c, Byo W g 0 X → Wds W 0 0 kN → Calls Tryd.prog 7 #[.agg (wrds S).toArray, .slice (some ⟨g, 0, none⟩) X.length c] W fun e w' => e = .returned (.tuple #[.agg (wrds C).toArray, .int .i64 e0]) ∧ Below W.heap.size W w'))
    (C2 : Hid (∀ W, Byo W bd od X → Calls Tryd.prog 8 #[.agg (wrds S).toArray, .slice a X.length cd] W fun e w' => e = .returned (.tuple #[.agg (wrds C).toArray, .int .i64 e0]) ∧ Below W.heap.size W w'))
    (C3 : Hid (∀ W g c, Byo W g 0 (flipB X) → Wds W 0 0 kN → Calls Tryd.prog 7 #[.agg (wrds S).toArray, .slice (some ⟨g, 0, none⟩) X.length c] W fun e w' => e = .returned (.tuple #[.agg (wrds D).toArray, .int .i64 e0]) ∧ Below W.heap.size W w'))
    (C4 : Hid (∀ W g c, Byo W g 0 (flipB X) → Calls Tryd.prog 8 #[.agg (wrds S).toArray, .slice (some ⟨g, 0, none⟩) X.length c] W fun e w' => e = .returned (.tuple #[.agg (wrds D).toArray, .int .i64 e0]) ∧ Below W.heap.size W w'))
    (w : World) (hX : Byo w bd od X) (hf : Wds w 1 0 hN) (hk : Wds w 0 0 kN) :
    Calls Tryd.prog 3 #[.agg (wrds S).toArray, .slice a X.length cd] w fun e w' => e = .returned (.bool true) ∧ Below w.heap.size w w' := by
  have HX : Hid (Byo w bd od X ∧ At a bd od X ∧ X.length < 1073741000) := ⟨hX, ha, hl⟩
  have HC : Hid (S.length = 8 ∧ C.length = 8 ∧ D.length = 8) := ⟨hS, hC, hD⟩
  have HT : Hid (Wds w 1 0 hN ∧ Wds w 0 0 kN) := ⟨hf, hk⟩
  have eC := fun w => eq_state hC w
  have eD := fun w => eq_state hD w
  have eH := fun w => eq_state (X := hN) rfl w
  have ilS : (Tryd.prog.info? 23).map (·.size) = some (wrds S).length := by rw [wrds_len, hS]; kernel_rfl
  have ilC : (Tryd.prog.info? 23).map (·.size) = some (wrds C).length := by rw [wrds_len, hC]; kernel_rfl
  have ilD : (Tryd.prog.info? 23).map (·.size) = some (wrds D).length := by rw [wrds_len, hD]; kernel_rfl
  have isC : (Tryd.prog.info? 23).map (·.size) = some (wrds C).toArray.size := by rw [List.size_toArray]; exact ilC
  have isD : (Tryd.prog.info? 23).map (·.size) = some (wrds D).toArray.size := by rw [List.size_toArray]; exact ilD
  have ocC := one_wrds C
  have ocD := one_wrds D
  obtain ⟨HN, kH⟩ : ∃ L, L = hN := ⟨_, rfl⟩
  have KH : Hid (HN = hN) := kH
  rw [← kH] at eH
  clear hX ha hl hS hC hD hf hk kH
  go_enter Tryd.func3, Tryd.ntmps3
  go_wp2_with fail
  have B0 : ∀ t, Below w.heap.size w (w.alloc (.cells (wrds S).toArray t)) := fun t => (Below.refl _ _).alloc (Nat.le_refl _) _
  refine calls_world (fun W => Below w.heap.size w W ∧ W.rangeAt w.heap.size 0 (wrds S) ∧ Wds W 1 0 hN ∧ Wds W 0 0 kN ∧ Byo W bd od X ∧ w.heap.size < W.heap.size) ⟨B0 _, (E8.new HC.out.1 _ rfl).2.1.range, HT.out.1.keep (B0 _), HT.out.2.keep (B0 _), HX.out.1.keep (B0 _), by simp⟩ ?_
  rintro W ⟨B, hS, hf, hk, hX, hl⟩
  refine (lentR_any HX.out.2.2 HX.out.2.1 _ hX).mono ?_
  rintro e w1 ⟨g, c, rfl, hc, gg, gl, hG, hb⟩
  have K1 : Hid (Bk w w1 S g (X ++ List.replicate 70 165)) := ⟨B.trans (hb.mono B.size), range_kept hS hb, hf.keep hb, hk.keep hb, hG, gl⟩
  have NG : Hid (w.heap.size < g ∧ X.length + 70 ≤ c) := ⟨Nat.lt_of_lt_of_le hl gg, hc⟩
  clear B hS hf hk hX hl hb hG gl gg hc W B0
  have rS := K1.out.2.1
  go_wp2_with ((with_reducible refine wpList_load_at (ty := 23) w.heap.size 0 (wrds S) _ rS Tryd.underlying23 ?_ ilS ?_ ?_); rfl; rfl; simp only [Act.put, List.setIfInBounds_toArray, List.set_cons_succ, List.set_cons_zero])
  refine (C1.out _ _ _ K1.out.2.2.2.2.1.front K1.out.2.2.2.1).mono ?_
  rintro e w2 ⟨rfl, hb⟩
  have K2 : Hid (Bk w w2 S g (X ++ List.replicate 70 165)) := K1.out.keep hb
  clear hb rS K1
  have th := fun t => (store8 (W := w2) (t := t) HC.out.2.1).2.2
  have F2 : ∀ t, Hid (Bk w ((w2.alloc (.cells #[.int .u32 0, .int .u32 0, .int .u32 0, .int .u32 0, .int .u32 0, .int .u32 0, .int .u32 0, .int .u32 0] t)).setCells w2.heap.size 0 (wrds C)) S g (X ++ List.replicate 70 165) ∧ ((w2.alloc (.cells #[.int .u32 0, .int .u32 0, .int .u32 0, .int .u32 0, .int .u32 0, .int .u32 0, .int .u32 0, .int .u32 0] t)).setCells w2.heap.size 0 (wrds C)).rangeAt w2.heap.size 0 (wrds C)) := fun t => ⟨K2.out.keep (store8 HC.out.2.1).1, (store8 HC.out.2.1).2.1⟩
  go_wp2_with (first | ((with_reducible refine wpList_store_at (ty := 23) w2.heap.size 0 (wrds C).toArray (th _) isC ocC ?_ ?_ ?_); rfl; rfl; refine wpList_world (fun W => Bk w W S g (X ++ List.replicate 70 165) ∧ W.rangeAt w2.heap.size 0 (wrds C)) (F2 _).out ?_; clear F2 th; rintro W ⟨hK, r6⟩; have rS := hK.2.1) | ((with_reducible refine wpList_load_at (ty := 23) w.heap.size 0 (wrds S) _ rS Tryd.underlying23 ?_ ilS ?_ ?_); rfl; rfl; simp only [Act.put, List.setIfInBounds_toArray, List.set_cons_succ, List.set_cons_zero]))
  have hX3 := HX.out.1.keep hK.1
  have K3 : Hid (Bk w W S g (X ++ List.replicate 70 165) ∧ W.rangeAt w2.heap.size 0 (wrds C)) := ⟨hK, r6⟩
  clear hK r6 rS K2
  generalize w2.heap.size = b6 at *
  refine (C2.out _ hX3).mono ?_
  rintro e w3 ⟨rfl, hb⟩
  have K4 : Hid (Bk w w3 S g (X ++ List.replicate 70 165) ∧ w3.rangeAt b6 0 (wrds C)) := ⟨K3.out.1.keep hb, range_kept K3.out.2 hb⟩
  clear hb K3 hX3
  have th := fun t => (store8 (W := w3) (t := t) HC.out.2.1).2.2
  have F3 : ∀ t, Hid (Bk w ((w3.alloc (.cells #[.int .u32 0, .int .u32 0, .int .u32 0, .int .u32 0, .int .u32 0, .int .u32 0, .int .u32 0, .int .u32 0] t)).setCells w3.heap.size 0 (wrds C)) S g (X ++ List.replicate 70 165) ∧ ((w3.alloc (.cells #[.int .u32 0, .int .u32 0, .int .u32 0, .int .u32 0, .int .u32 0, .int .u32 0, .int .u32 0, .int .u32 0] t)).setCells w3.heap.size 0 (wrds C)).rangeAt b6 0 (wrds C) ∧ ((w3.alloc (.cells #[.int .u32 0, .int .u32 0, .int .u32 0, .int .u32 0, .int .u32 0, .int .u32 0, .int .u32 0, .int .u32 0] t)).setCells w3.heap.size 0 (wrds C)).rangeAt w3.heap.size 0 (wrds C)) := fun t => ⟨K4.out.1.keep (store8 HC.out.2.1).1, range_kept K4.out.2 (store8 HC.out.2.1).1, (store8 HC.out.2.1).2.1⟩
  go_wp2_with (first | ((with_reducible refine wpList_store_at (ty := 23) w3.heap.size 0 (wrds C).toArray (th _) isC ocC ?_ ?_ ?_); rfl; rfl; refine wpList_world (fun W => Bk w W S g (X ++ List.replicate 70 165) ∧ W.rangeAt b6 0 (wrds C) ∧ W.rangeAt w3.heap.size 0 (wrds C)) (F3 _).out ?_; clear F3 th; rintro W ⟨hK, r6, r8⟩) | ((with_reducible refine wpList_load_at (ty := 23) b6 0 (wrds C) _ r6 Tryd.underlying23 ?_ ilC ?_ ?_); rfl; rfl; simp only [Act.put, List.setIfInBounds_toArray, List.set_cons_succ, List.set_cons_zero]) | ((with_reducible refine wpList_load_at (ty := 23) w3.heap.size 0 (wrds C) _ r8 Tryd.underlying23 ?_ ilC ?_ ?_); rfl; rfl; simp only [Act.put, List.setIfInBounds_toArray, List.set_cons_succ, List.set_cons_zero]))
  have K5 : Hid (Bk w W S g (X ++ List.replicate 70 165)) := hK
  clear hK r6 r8 K4
  generalize w3.heap.size = b8 at *
  refine (num3_any e0 _).mono ?_
  rintro e w4 ⟨rfl, hb⟩
  have K6 : Hid (Bk w w4 S g (X ++ List.replicate 70 165)) := K5.out.keep hb
  clear hb K5
  go_wp2_with fail
  refine (still_any (by have := HX.out.2.2; omega) NG.out.2 HX.out.2.1 _ K6.out.2.2.2.2.1.1 (HX.out.1.keep K6.out.1)).mono ?_
  rintro e w5 ⟨rfl, hb⟩
  have K7 : Hid (Bk w w5 S g (X ++ List.replicate 70 165)) := K6.out.keep hb
  clear hb K6
  go_wp2_with fail
  have c1 := start_any _ K7.out.2.2.1
  rw [← KH.out] at c1
  refine c1.mono ?_
  clear c1
  rintro e w6 ⟨rfl, hb⟩
  have K8 : Hid (Bk w w6 S g (X ++ List.replicate 70 165)) := K7.out.keep hb
  clear hb K7
  go_wp2_with fail
  have c1 := rstart_any w6
  rw [← KH.out] at c1
  refine c1.mono ?_
  clear c1
  rintro e w7 ⟨rfl, hb⟩
  have K9 : Hid (Bk w w7 S g (X ++ List.replicate 70 165)) := K8.out.keep hb
  clear hb K8
  go_wp2_with fail
  refine (turn_any (by have := HX.out.2.2; omega) _ K9.out.2.2.2.2.1).mono ?_
  rintro e w8 ⟨rfl, hG, hO⟩
  have L1 : Hid (Bk w w8 S g (flipB X ++ List.replicate 70 165)) := K9.out.off hO hG HT.out.1 HT.out.2 NG.out.1
  clear hG hO K9
  have rS := L1.out.2.1
  go_wp2_with ((with_reducible refine wpList_load_at (ty := 23) w.heap.size 0 (wrds S) _ rS Tryd.underlying23 ?_ ilS ?_ ?_); rfl; rfl; simp only [Act.put, List.setIfInBounds_toArray, List.set_cons_succ, List.set_cons_zero])
  refine (C3.out _ _ _ L1.out.2.2.2.2.1.front L1.out.2.2.2.1).mono ?_
  rintro e w9 ⟨rfl, hb⟩
  have L2 : Hid (Bk w w9 S g (flipB X ++ List.replicate 70 165)) := L1.out.keep hb
  clear hb rS L1
  have th := fun t => (store8 (W := w9) (t := t) HC.out.2.2).2.2
  have F4 : ∀ t, Hid (Bk w ((w9.alloc (.cells #[.int .u32 0, .int .u32 0, .int .u32 0, .int .u32 0, .int .u32 0, .int .u32 0, .int .u32 0, .int .u32 0] t)).setCells w9.heap.size 0 (wrds D)) S g (flipB X ++ List.replicate 70 165) ∧ ((w9.alloc (.cells #[.int .u32 0, .int .u32 0, .int .u32 0, .int .u32 0, .int .u32 0, .int .u32 0, .int .u32 0, .int .u32 0] t)).setCells w9.heap.size 0 (wrds D)).rangeAt w9.heap.size 0 (wrds D)) := fun t => ⟨L2.out.keep (store8 HC.out.2.2).1, (store8 HC.out.2.2).2.1⟩
  go_wp2_with (first | ((with_reducible refine wpList_store_at (ty := 23) w9.heap.size 0 (wrds D).toArray (th _) isD ocD ?_ ?_ ?_); rfl; rfl; refine wpList_world (fun W => Bk w W S g (flipB X ++ List.replicate 70 165) ∧ W.rangeAt w9.heap.size 0 (wrds D)) (F4 _).out ?_; clear F4 th; rintro W' ⟨hK, r6⟩; have rS := hK.2.1) | ((with_reducible refine wpList_load_at (ty := 23) w.heap.size 0 (wrds S) _ rS Tryd.underlying23 ?_ ilS ?_ ?_); rfl; rfl; simp only [Act.put, List.setIfInBounds_toArray, List.set_cons_succ, List.set_cons_zero]))
  have L3 : Hid (Bk w W' S g (flipB X ++ List.replicate 70 165) ∧ W'.rangeAt w9.heap.size 0 (wrds D)) := ⟨hK, r6⟩
  clear hK r6 rS L2
  generalize w9.heap.size = b10 at *
  refine (C4.out _ _ _ L3.out.1.2.2.2.2.1.front).mono ?_
  rintro e w10 ⟨rfl, hb⟩
  have L4 : Hid (Bk w w10 S g (flipB X ++ List.replicate 70 165) ∧ w10.rangeAt b10 0 (wrds D)) := ⟨L3.out.1.keep hb, range_kept L3.out.2 hb⟩
  clear hb L3
  have th := fun t => (store8 (W := w10) (t := t) HC.out.2.2).2.2
  have F5 : ∀ t, Hid (Bk w ((w10.alloc (.cells #[.int .u32 0, .int .u32 0, .int .u32 0, .int .u32 0, .int .u32 0, .int .u32 0, .int .u32 0, .int .u32 0] t)).setCells w10.heap.size 0 (wrds D)) S g (flipB X ++ List.replicate 70 165) ∧ ((w10.alloc (.cells #[.int .u32 0, .int .u32 0, .int .u32 0, .int .u32 0, .int .u32 0, .int .u32 0, .int .u32 0, .int .u32 0] t)).setCells w10.heap.size 0 (wrds D)).rangeAt b10 0 (wrds D) ∧ ((w10.alloc (.cells #[.int .u32 0, .int .u32 0, .int .u32 0, .int .u32 0, .int .u32 0, .int .u32 0, .int .u32 0, .int .u32 0] t)).setCells w10.heap.size 0 (wrds D)).rangeAt w10.heap.size 0 (wrds D)) := fun t => ⟨L4.out.1.keep (store8 HC.out.2.2).1, range_kept L4.out.2 (store8 HC.out.2.2).1, (store8 HC.out.2.2).2.1⟩
  go_wp2_with (first | ((with_reducible refine wpList_store_at (ty := 23) w10.heap.size 0 (wrds D).toArray (th _) isD ocD ?_ ?_ ?_); rfl; rfl; refine wpList_world (fun W => Bk w W S g (flipB X ++ List.replicate 70 165) ∧ W.rangeAt b10 0 (wrds D) ∧ W.rangeAt w10.heap.size 0 (wrds D)) (F5 _).out ?_; clear F5 th; rintro W3 ⟨hK, r6, r8⟩) | ((with_reducible refine wpList_load_at (ty := 23) b10 0 (wrds D) _ r6 Tryd.underlying23 ?_ ilD ?_ ?_); rfl; rfl; simp only [Act.put, List.setIfInBounds_toArray, List.set_cons_succ, List.set_cons_zero]) | ((with_reducible refine wpList_load_at (ty := 23) w10.heap.size 0 (wrds D) _ r8 Tryd.underlying23 ?_ ilD ?_ ?_); rfl; rfl; simp only [Act.put, List.setIfInBounds_toArray, List.set_cons_succ, List.set_cons_zero]))
  have L5 : Hid (Below w.heap.size w W3) := hK.1
  clear hK r6 r8 L4
  refine (num3_any e0 _).mono ?_
  rintro e w11 ⟨rfl, hb⟩
  have L6 : Hid (Below w.heap.size w w11) := L5.out.trans (hb.mono L5.out.size)
  clear hb L5
  go_wp2
  simp [bodyPost, results, Tryd.results3, go_sem]
  exact L6.out
end Go.Proofs.YtkbkbbilhmmifaaDoor

import Derived.Test.YtnjmdncnkijijaaDoorEBU
import Derived.Test.YtnjmdncnkijijaaDoorUbA
import Derived.Test.YtnjmdncnkijijaaDoorEPS
import Derived.Test.YtnjmdncnkijijaaDoorEBB
import Derived.Test.YtnjmdncnkijijaaDoorUbD
import Derived.Test.YtnjmdncnkijijaaDoorESW
namespace Go.Proofs.YtnjmdncnkijijaaDoor
open Go.RowKit Go.Sort

set_option maxRecDepth 100000 in
set_option maxHeartbeats 8000000 in
theorem rpack_walk {r s : Int} {o : Bool} {L1 L2 : List Int} (K1 : Hid (L1.length = 32)) (K2 : Hid (L2.length = 32)) (HL : Hid (0 ≤ L2.getD 0 0 ∧ L2.getD 0 0 < 128)) (P1 : Hid (∀ w, Calls Tryd.prog 18 #[.agg #[.int .u64 (l0 r), .int .u64 (l1 r), .int .u64 (l2 r), .int .u64 (l3 r)]] w fun e w' => e = .returned (.agg (L1.map (Value.int .u8)).toArray) ∧ Below w.heap.size w w')) (P2 : Hid (∀ w, Calls Tryd.prog 18 #[.agg #[.int .u64 (l0 s), .int .u64 (l1 s), .int .u64 (l2 s), .int .u64 (l3 s)]] w fun e w' => e = .returned (.agg (L2.map (Value.int .u8)).toArray) ∧ Below w.heap.size w w'))
    (CK : Hid (∀ w, Calls Tryd.prog 17 #[.agg #[.int .u64 (l0 r), .int .u64 (l1 r), .int .u64 (l2 r), .int .u64 (l3 r), .int .u64 (l0 s), .int .u64 (l1 s), .int .u64 (l2 s), .int .u64 (l3 s), .bool o]] w fun e w' => e = .returned (.int .i64 0) ∧ Below w.heap.size w w')) (w : World) :
    Calls Tryd.prog 5 #[.agg #[.int .u64 (l0 r), .int .u64 (l1 r), .int .u64 (l2 r), .int .u64 (l3 r), .int .u64 (l0 s), .int .u64 (l1 s), .int .u64 (l2 s), .int .u64 (l3 s), .bool o]] w fun e w' => ∃ v, e = .returned (.tuple #[v, .int .i64 0]) ∧ OwnB w.heap.size w' v (L1 ++ markL o L2) ∧ Below w.heap.size w w' := by
  have s1 : (L1.map (Value.int .u8)).toArray.size = 32 := by simp [K1.out]
  have s2 : (L2.map (Value.int .u8)).toArray.size = 32 := by simp [K2.out]
  have oc1 := one_cells L1
  have oc2 := one_cells L2
  have tr : ∀ W : World, (W.alloc (.cells #[.int .u8 0, .int .u8 0, .int .u8 0, .int .u8 0, .int .u8 0, .int .u8 0, .int .u8 0, .int .u8 0, .int .u8 0, .int .u8 0, .int .u8 0, .int .u8 0, .int .u8 0, .int .u8 0, .int .u8 0, .int .u8 0, .int .u8 0, .int .u8 0, .int .u8 0, .int .u8 0, .int .u8 0, .int .u8 0, .int .u8 0, .int .u8 0, .int .u8 0, .int .u8 0, .int .u8 0, .int .u8 0, .int .u8 0, .int .u8 0, .int .u8 0, .int .u8 0] 44)).there W.heap.size 0 32 := fun W => (Bts.new (W := W) (List.replicate 32 0) 44 rfl).there rfl
  obtain ⟨i0, hi, hz0, hz1, hz2⟩ := info_parts info_byte
  go_enter Tryd.func5, Tryd.ntmps5
  go_wp2_with fail
  refine calls_world (fun W => Below w.heap.size w W ∧ Pnt W w.heap.size r s o) ⟨by repeat (first | with_reducible exact Below.refl _ _ | with_reducible refine Below.alloc ?_ (by first | omega | (simp; done) | (simp; omega)) _), Pnt.new rfl⟩ ?_
  rintro W ⟨B, hP⟩
  with_reducible refine (CK.out W).mono ?_
  rintro e w1 ⟨rfl, hb⟩
  replace B := B.trans (hb.mono B.size)
  replace hP := hP.keep hb
  clear hb W
  have gP := hP.cells
  go_wp2_with fail
  with_reducible refine (P1.out w1).mono ?_
  rintro e w2 ⟨rfl, hb⟩
  replace B := B.trans (hb.mono B.size)
  replace hP := hP.keep hb
  clear hb gP
  have gP := (hP.alloc (.cells #[.int .u8 0, .int .u8 0, .int .u8 0, .int .u8 0, .int .u8 0, .int .u8 0, .int .u8 0, .int .u8 0, .int .u8 0, .int .u8 0, .int .u8 0, .int .u8 0, .int .u8 0, .int .u8 0, .int .u8 0, .int .u8 0, .int .u8 0, .int .u8 0, .int .u8 0, .int .u8 0, .int .u8 0, .int .u8 0, .int .u8 0, .int .u8 0, .int .u8 0, .int .u8 0, .int .u8 0, .int .u8 0, .int .u8 0, .int .u8 0, .int .u8 0, .int .u8 0] 44)).cells
  have t2 := tr w2
  have bn : Below w2.heap.size w2 ((w2.alloc (.cells #[.int .u8 0, .int .u8 0, .int .u8 0, .int .u8 0, .int .u8 0, .int .u8 0, .int .u8 0, .int .u8 0, .int .u8 0, .int .u8 0, .int .u8 0, .int .u8 0, .int .u8 0, .int .u8 0, .int .u8 0, .int .u8 0, .int .u8 0, .int .u8 0, .int .u8 0, .int .u8 0, .int .u8 0, .int .u8 0, .int .u8 0, .int .u8 0, .int .u8 0, .int .u8 0, .int .u8 0, .int .u8 0, .int .u8 0, .int .u8 0, .int .u8 0, .int .u8 0] 44)).setCells w2.heap.size 0 (L1.map (Value.int .u8)).toArray.toList) := below_setCells (Nat.le_refl _) _ 0 _ ((Below.refl _ _).alloc (Nat.le_refl _) _)
  have hA := bts_setCells (l := L1) (W := w2.alloc (.cells #[.int .u8 0, .int .u8 0, .int .u8 0, .int .u8 0, .int .u8 0, .int .u8 0, .int .u8 0, .int .u8 0, .int .u8 0, .int .u8 0, .int .u8 0, .int .u8 0, .int .u8 0, .int .u8 0, .int .u8 0, .int .u8 0, .int .u8 0, .int .u8 0, .int .u8 0, .int .u8 0, .int .u8 0, .int .u8 0, .int .u8 0, .int .u8 0, .int .u8 0, .int .u8 0, .int .u8 0, .int .u8 0, .int .u8 0, .int .u8 0, .int .u8 0, .int .u8 0] 44)) (b := w2.heap.size) (by rw [List.length_map, K1.out]; exact t2)
  have hP2 := hP.keep bn
  have gP2 := hP2.cells
  have B2 := B.trans (bn.mono B.size)
  go_wp2_with (refine wpList_store_mid rfl 44 _ _ rfl w2.heap.size 0 _ rfl rfl (by rw [s1]; exact t2) (by rw [s1]; kernel_rfl) oc1 ?_)
  refine calls_world (fun W => Below w.heap.size w W ∧ Bts W w2.heap.size L1 ∧ Pnt W w.heap.size r s o) ⟨B2, hA, hP2⟩ ?_
  clear B2 hA hP2 gP2 bn t2 gP hP B
  rintro W ⟨B, hA, hP⟩
  generalize w2.heap.size = b1 at *
  clear w2
  with_reducible refine (P2.out W).mono ?_
  rintro e w3 ⟨rfl, hb⟩
  replace B := B.trans (hb.mono B.size)
  replace hP := hP.keep hb
  replace hA := hA.keep (by rw [K1.out]; decide) hb
  clear hb W
  have t2 := tr w3
  have bn : Below w3.heap.size w3 ((w3.alloc (.cells #[.int .u8 0, .int .u8 0, .int .u8 0, .int .u8 0, .int .u8 0, .int .u8 0, .int .u8 0, .int .u8 0, .int .u8 0, .int .u8 0, .int .u8 0, .int .u8 0, .int .u8 0, .int .u8 0, .int .u8 0, .int .u8 0, .int .u8 0, .int .u8 0, .int .u8 0, .int .u8 0, .int .u8 0, .int .u8 0, .int .u8 0, .int .u8 0, .int .u8 0, .int .u8 0, .int .u8 0, .int .u8 0, .int .u8 0, .int .u8 0, .int .u8 0, .int .u8 0] 44)).setCells w3.heap.size 0 (L2.map (Value.int .u8)).toArray.toList) := below_setCells (Nat.le_refl _) _ 0 _ ((Below.refl _ _).alloc (Nat.le_refl _) _)
  have hC := bts_setCells (l := L2) (W := w3.alloc (.cells #[.int .u8 0, .int .u8 0, .int .u8 0, .int .u8 0, .int .u8 0, .int .u8 0, .int .u8 0, .int .u8 0, .int .u8 0, .int .u8 0, .int .u8 0, .int .u8 0, .int .u8 0, .int .u8 0, .int .u8 0, .int .u8 0, .int .u8 0, .int .u8 0, .int .u8 0, .int .u8 0, .int .u8 0, .int .u8 0, .int .u8 0, .int .u8 0, .int .u8 0, .int .u8 0, .int .u8 0, .int .u8 0, .int .u8 0, .int .u8 0, .int .u8 0, .int .u8 0] 44)) (b := w3.heap.size) (by rw [List.length_map, K2.out]; exact t2)
  have hP2 := hP.keep bn
  have hA2 := hA.keep (by rw [K1.out]; decide) bn
  have B2 := B.trans (bn.mono B.size)
  go_wp2_with (refine wpList_store_mid rfl 44 _ _ rfl w3.heap.size 0 _ rfl rfl (by rw [s2]; exact t2) (by rw [s2]; kernel_rfl) oc2 ?_)
  refine wp_world (fun W => Below w.heap.size w W ∧ Bts W b1 L1 ∧ Bts W w3.heap.size L2 ∧ Pnt W w.heap.size r s o) ⟨B2, hA2, hC, hP2⟩ ?_
  clear B2 hA2 hC hP2 bn t2 hP hA B
  rintro W0 KW0
  generalize w3.heap.size = b2 at *
  clear w3
  have KW : Hid (Below w.heap.size w W0 ∧ Bts W0 b1 L1 ∧ Bts W0 b2 L2 ∧ Pnt W0 w.heap.size r s o) := KW0
  clear KW0 tr
  go_loopg [5, 8] 32 (fun k lv iv wr => ∃ i : Nat, k = 32 - i ∧ i ≤ 32 ∧ iv = .int .i64 i ∧ OwnB W0.heap.size wr lv (L1.take i) ∧ Below W0.heap.size W0 wr)
  case atStart => exact ⟨0, rfl, by decide, rfl, OwnB.nil _ _, Below.refl _ _⟩
  case round =>
    obtain ⟨i, hk, hi9, rfl, hown, B⟩ := hrel
    have HK : Hid (gk = 32 - i) := hk
    clear hk
    by_cases h8 : i = 32
    · subst h8
      have hown1 : OwnB W0.heap.size wr u5 L1 := by
        have h := hown
        rw [show L1.take 32 = L1 from by rw [← K1.out]; exact List.take_length] at h
        exact h
      clear hown HK
      go_wp2_with fail
      refine wp_world (fun W => OwnB W0.heap.size W u5 L1 ∧ Below W0.heap.size W0 W) ⟨hown1, B⟩ ?_
      clear hown1 B
      rintro W1 ⟨hown1, B1⟩
      go_loopg [5, 9] 32 (fun k lv iv wr => ∃ i : Nat, k = 32 - i ∧ i ≤ 32 ∧ iv = .int .i64 i ∧ OwnB W0.heap.size wr lv (L1 ++ L2.take i) ∧ Below W0.heap.size W0 wr)
      case atStart => exact ⟨0, rfl, by decide, rfl, by simpa using hown1, B1⟩
      case round =>
        obtain ⟨i, hk, hi9, rfl, hown, B⟩ := hrel
        have HK : Hid (gk = 32 - i) := hk
        clear hk
        by_cases h8 : i = 32
        · subst h8
          have hR : OwnB W0.heap.size wr u5 (L1 ++ L2) := by
            have h := hown
            rw [show L2.take 32 = L2 from by rw [← K2.out]; exact List.take_length] at h
            exact h
          clear hown HK
          have B9 := KW.out.1.trans (B.mono KW.out.1.size)
          have gP := (KW.out.2.2.2.keep B).cells
          have lw : w.heap.size ≤ W0.heap.size := KW.out.1.size
          cases o with
          | false =>
            have HR : Hid (OwnB w.heap.size wr u5 (L1 ++ markL false L2) ∧ Below w.heap.size w wr) := ⟨hR.base lw, B9⟩
            clear hR B9 B
            go_wp2
            simp [bodyPost, results, Tryd.results5, go_sem]
            exact HR.out
          | true =>
            obtain ⟨x, ex⟩ : ∃ x, x = L2.getD 0 0 := ⟨_, rfl⟩
            have l64 : (L1 ++ L2).length = 64 := by rw [List.length_append, K1.out, K2.out]
            obtain ⟨a5, g5, c5, e5, hc5, hz5, _⟩ := hR.lies
            have ea := hz5.cons (by rw [l64]; decide)
            subst ea
            rw [l64] at e5 hc5
            subst e5
            have cx := hR.cell l64 (i := 32) (by decide)
            have fx := hR.free l64 32
            have gx : (L1 ++ L2).getD 32 0 = x := by rw [ex, List.getD, List.getElem?_append_right (by rw [K1.out]; decide), K1.out]; rfl
            rw [gx] at cx
            have hset := (hR.set l64 32 (x + 128))
            have e9 : (L1 ++ L2).set 32 (x + 128) = L1 ++ markL true L2 := by
              rw [List.set_append_right _ _ (by rw [K1.out]; decide), K1.out, markL, if_pos rfl, ← ex, orm_num (by rw [ex]; exact HL.out.1) (by rw [ex]; exact HL.out.2)]
            rw [e9] at hset
            have hx0 : 0 ≤ x ∧ x < 128 := by rw [ex]; exact HL.out
            obtain ⟨hx1, hx2⟩ := hx0
            have wx : IntKind.u8.wrap (x + 128) = x + 128 := by rw [IntKind.wrap_u8]; omega
            have c64 : (64 : Int) ≤ (c5 : Int) := by omega
            have lg := hR.lt g5 rfl
            have HR : Hid (OwnB w.heap.size (wr.setCell ⟨g5, 32, none⟩ (.int .u8 (x + 128))) (.slice (some ⟨g5, 0, none⟩) 64 c5) (L1 ++ markL true L2) ∧ Below w.heap.size w (wr.setCell ⟨g5, 32, none⟩ (.int .u8 (x + 128)))) := ⟨OwnB.base hset.1 lw, B9.setCell (Nat.le_trans lw lg.1) _⟩
            clear hR B9 B hset e9 gx ex hz5 l64
            go_wp2
            simp [bodyPost, results, Tryd.results5, go_sem]
            exact HR.out

        · have ln : Hid ((L1 ++ L2.take i).length ≤ 64) := by show _ ≤ _; rw [List.length_append, List.length_take, K1.out]; omega
          have gx := (KW.out.2.2.1.keep (by rw [K2.out]; decide) B).1 i (by rw [K2.out]; omega)
          have NX : Hid ((L1 ++ L2.take (i + 1)) = (L1 ++ L2.take i) ++ [L2.getD i 0]) := by show _ = _; rw [take_snocI (by rw [K2.out]; omega), List.append_assoc]
          generalize L2.getD i 0 = x at *
          have HF : Hid (OwnB W0.heap.size wr u5 (L1 ++ L2.take i) ∧ Below W0.heap.size W0 wr) := ⟨hown, B⟩
          clear hown B
          have hlt' : (i : Int) < 32 := by omega
          go_wp2_with (at_builtin; (refine wpList_append_own_at _ rfl _ _ 27 rfl W0.heap.size 5 i0 (.int .u8 0) 1 1 Tryd.underlying27 hi hz0 hz1 hz2 rfl (by decide) u5 _ _ rfl (HF.out.1.alloc _).row ⟨wr.heap.size, 0, none⟩ 1 1 [.int .u8 x] rfl rfl (cell_one_new _ _ _) (fun u hu => by simp at hu; subst hu; rfl) (by unfold maxLen; have := ln.out; omega) (by have := ln.out; omega) (by have := HF.out.2.size; simp; omega) ?_); intro v' w3 hown' hgrow3 hnil3 hblk)
          have HO : Hid (OwnB W0.heap.size w3 v' (L1 ++ L2.take (i + 1)) ∧ Below W0.heap.size W0 w3) := by
            refine ⟨?_, ?_⟩
            · rw [NX.out, OwnB, List.length_append, List.map_append]
              exact hown'
            · exact (HF.out.2.alloc HF.out.2.size _).grown hgrow3 (by have := HF.out.2.size; simp; omega) (fun k hk => (HF.out.1.row.lt k hk).1)
          clear hown' hgrow3 hnil3 hblk
          go_roundg (32 - (i + 1))
          case measure => have := HK.out; omega
          case rel => exact ⟨i + 1, rfl, by omega, by go_num, HO.out⟩

    · have ln : Hid ((L1.take i).length ≤ 64) := by show _ ≤ _; rw [List.length_take]; omega
      have gx := (KW.out.2.1.keep (by rw [K1.out]; decide) B).1 i (by rw [K1.out]; omega)
      have NX : Hid ((L1.take (i + 1)) = (L1.take i) ++ [L1.getD i 0]) := by exact take_snocI (by rw [K1.out]; omega)
      generalize L1.getD i 0 = x at *
      have HF : Hid (OwnB W0.heap.size wr u5 (L1.take i) ∧ Below W0.heap.size W0 wr) := ⟨hown, B⟩
      clear hown B
      have hlt' : (i : Int) < 32 := by omega
      go_wp2_with (at_builtin; (refine wpList_append_own_at _ rfl _ _ 27 rfl W0.heap.size 5 i0 (.int .u8 0) 1 1 Tryd.underlying27 hi hz0 hz1 hz2 rfl (by decide) u5 _ _ rfl (HF.out.1.alloc _).row ⟨wr.heap.size, 0, none⟩ 1 1 [.int .u8 x] rfl rfl (cell_one_new _ _ _) (fun u hu => by simp at hu; subst hu; rfl) (by unfold maxLen; have := ln.out; omega) (by have := ln.out; omega) (by have := HF.out.2.size; simp; omega) ?_); intro v' w3 hown' hgrow3 hnil3 hblk)
      have HO : Hid (OwnB W0.heap.size w3 v' (L1.take (i + 1)) ∧ Below W0.heap.size W0 w3) := by
        refine ⟨?_, ?_⟩
        · rw [NX.out, OwnB, List.length_append, List.map_append]
          exact hown'
        · exact (HF.out.2.alloc HF.out.2.size _).grown hgrow3 (by have := HF.out.2.size; simp; omega) (fun k hk => (HF.out.1.row.lt k hk).1)
      clear hown' hgrow3 hnil3 hblk
      go_roundg (32 - (i + 1))
      case measure => have := HK.out; omega
      case rel => exact ⟨i + 1, rfl, by omega, by go_num, HO.out⟩
set_option maxRecDepth 100000 in
set_option maxHeartbeats 8000000 in
theorem rpack_bad {r s v : Int} {o : Bool} (hv : ¬ v = 0) (CK : Hid (∀ w, Calls Tryd.prog 17 #[.agg #[.int .u64 (l0 r), .int .u64 (l1 r), .int .u64 (l2 r), .int .u64 (l3 r), .int .u64 (l0 s), .int .u64 (l1 s), .int .u64 (l2 s), .int .u64 (l3 s), .bool o]] w fun e w' => e = .returned (.int .i64 v) ∧ Below w.heap.size w w')) (w : World) :
    Calls Tryd.prog 5 #[.agg #[.int .u64 (l0 r), .int .u64 (l1 r), .int .u64 (l2 r), .int .u64 (l3 r), .int .u64 (l0 s), .int .u64 (l1 s), .int .u64 (l2 s), .int .u64 (l3 s), .bool o]] w fun e w' => e = .returned (.tuple #[.slice none 0 0, .int .i64 v]) ∧ Below w.heap.size w w' := by
  go_enter Tryd.func5, Tryd.ntmps5
  go_wp2_with fail
  refine calls_world (fun W => Below w.heap.size w W) (by repeat (first | with_reducible exact Below.refl _ _ | with_reducible refine Below.alloc ?_ (by first | omega | (simp; done) | (simp; omega)) _)) ?_
  rintro W B
  with_reducible refine (CK.out W).mono ?_
  rintro e w1 ⟨rfl, hb⟩
  replace B := B.trans (hb.mono B.size)
  clear hb W
  go_wp2
  simp [bodyPost, results, Tryd.results5, go_sem]
  exact B
/-- The document's Pack of any Sig. -/
theorem rpack_all {r s : Int} {o : Bool} (hr : Num r) (hs : Num s) (w : World) :
    Calls Tryd.prog 5 #[.agg #[.int .u64 (l0 r), .int .u64 (l1 r), .int .u64 (l2 r), .int .u64 (l3 r), .int .u64 (l0 s), .int .u64 (l1 s), .int .u64 (l2 s), .int .u64 (l3 s), .bool o]] w fun e w' => ∃ v, e = .returned (.tuple #[v, .int .i64 (chkN r s)]) ∧ OwnB w.heap.size w' v (pkL r s o) ∧ Below w.heap.size w w' := by
  have CK := r6check_any (o := o) hr hs
  by_cases hk : chkN r s = 0
  case neg =>
    refine (rpack_bad hk CK w).mono ?_
    rintro e w' ⟨rfl, hb⟩
    refine ⟨_, rfl, ?_, hb⟩
    rw [pkL, if_neg hk]
    exact OwnB.nil _ _
  rw [hk] at CK ⊢
  rw [pkL, if_pos hk]
  exact rpack_walk (putL_len r) (putL_len s) (low_byteP hs.1 (chk_low hk)) (fun w => rput_any w) (fun w => rput_any w) CK w
end Go.Proofs.YtnjmdncnkijijaaDoor

/- The document's Unpack of any bytes. -/
namespace Go.Proofs.YtnjmdncnkijijaaDoor
open Go.RowKit Go.Sort

theorem off_doc {D : List Int} (hD : Byts D) : offL D = D.set 0 (D.getD 0 0 % 128) ∧ offB D = decide ((128 : Int) ≤ D.getD 0 0) := by
  obtain ⟨a, b⟩ := hD 0
  obtain ⟨e1, e2⟩ := doc_num a b
  exact ⟨by rw [offL, e1], by rw [offB, e2]⟩
theorem rget_32 {a : Option Addr} {b o c : Nat} {X : List Int} (hX : Byts X) (hl : X.length = 32) (hZ : Az a b o X) (w : World) (hz : Bz w b o X) :
    Calls Tryd.prog 20 #[.slice a 32 c] w fun e w' => e = .returned (.tuple #[.agg #[.int .u64 (l0 (sufN X 32)), .int .u64 (l1 (sufN X 32)), .int .u64 (l2 (sufN X 32)), .int .u64 (l3 (sufN X 32))], .int .i64 0]) ∧ Below w.heap.size w w' := by
  have h := rget_all (c := c) hX hZ w hz
  rw [gv, ge, if_pos (by omega), if_pos (by omega), hl] at h
  exact h
theorem runp_all {a : Option Addr} {bb ob c : Nat} {X : List Int} (hX : Byts X) (lc : X.length ≤ c) (hZ : Az a bb ob X) (w : World) (hz : Bz w bb ob X) :
    Calls Tryd.prog 10 #[.slice a X.length c] w fun e w' => e = .returned (.tuple #[.agg #[.int .u64 (l0 (uR X)), .int .u64 (l1 (uR X)), .int .u64 (l2 (uR X)), .int .u64 (l3 (uR X)), .int .u64 (l0 (uS X)), .int .u64 (l1 (uS X)), .int .u64 (l2 (uS X)), .int .u64 (l3 (uS X)), .bool (uO X)], .int .i64 (uE X)]) ∧ Below w.heap.size w w' := by
  by_cases hl : X.length = 64
  case neg =>
    have e : uE X = 66 := if_neg hl
    have h := runp_long (a := a) (c := c) hl w
    unfold uR uS uO
    rw [e, if_neg (by decide), if_neg (by decide), if_neg (by decide), zero_sig]
    exact h
  have ea := hZ.cons (by omega)
  subst ea
  rw [hl] at lc ⊢
  obtain ⟨n1, n2, _⟩ := sig_num hX hl
  have q1 : (X.take 32).length = 32 := by rw [List.length_take]; omega
  have q2 : (X.drop 32).length = 32 := by rw [List.length_drop]; omega
  have b1 := byts_take hX 32
  have b2 := drop_bytsU hX 32
  have b3 := offL_byts b2 (by omega)
  obtain ⟨d1, d2⟩ := off_doc b2
  have q3 : ((X.drop 32).set 0 ((X.drop 32).getD 0 0 % 128)).length = 32 := by rw [List.length_set, q2]
  have es : sN X = sufN ((X.drop 32).set 0 ((X.drop 32).getD 0 0 % 128)) 32 := by rw [sN, d1]
  have CK := r6check_any (o := oB X) n1 n2
  have G1 : Hid (∀ W, Below w.heap.size w W → Calls Tryd.prog 20 #[.slice (some ⟨bb, ob, none⟩) 32 c] W fun e w' => e = .returned (.tuple #[.agg #[.int .u64 (l0 (rN X)), .int .u64 (l1 (rN X)), .int .u64 (l2 (rN X)), .int .u64 (l3 (rN X))], .int .i64 0]) ∧ Below W.heap.size W w') := fun W B => rget_32 b1 q1 (.inr rfl) W (hz.keep B).take
  have G2 : Hid (∀ W g cap, Bz W g 0 ((X.drop 32).set 0 ((X.drop 32).getD 0 0 % 128)) → Calls Tryd.prog 20 #[.slice (some ⟨g, 0, none⟩) 32 cap] W fun e w' => e = .returned (.tuple #[.agg #[.int .u64 (l0 (sN X)), .int .u64 (l1 (sN X)), .int .u64 (l2 (sN X)), .int .u64 (l3 (sN X))], .int .i64 0]) ∧ Below W.heap.size W w') := fun W g cap h => by
    rw [es]
    exact rget_32 (by rw [← d1]; exact b3) q3 (.inr rfl) W h
  have HZ : Hid (∀ W, Below w.heap.size w W → ∀ j, 32 ≤ j → j < 64 → W.cell? ⟨bb, ob + j, none⟩ = some (.int .u8 ((X.drop 32).getD (j - 32) 0))) := fun W B j h1 h2 => by
    have h := (hz.keep B) j (by omega)
    rw [h]
    simp only [List.getD, List.getElem?_drop]
    rw [show 32 + (j - 32) = j by omega]
  have e : uE X = chkN (rN X) (sN X) := if_pos hl
  unfold uR uS uO
  rw [e]
  by_cases k : chkN (rN X) (sN X) = 0
  · rw [k] at CK ⊢
    rw [if_pos rfl, if_pos rfl, if_pos rfl]
    exact runp_ok w lc ⟨q2, rfl⟩ (b2 0).1 d2.symm G1 G2 CK HZ
  · rw [if_neg k, if_neg k, if_neg k, zero_sig]
    exact runp_fail w k lc ⟨q2, rfl⟩ (b2 0).1 d2.symm G1 G2 CK HZ
theorem eq_sig_yes {x y : Int} {i : Bool} (hx : Num x) (hy : Num y) : ∀ w, (Op.equalIn 10000 26 (.agg #[.int .u64 (l0 x), .int .u64 (l1 x), .int .u64 (l2 x), .int .u64 (l3 x), .int .u64 (l0 y), .int .u64 (l1 y), .int .u64 (l2 y), .int .u64 (l3 y), .bool i]) (.agg #[.int .u64 (l0 x), .int .u64 (l1 x), .int .u64 (l2 x), .int .u64 (l3 x), .int .u64 (l0 y), .int .u64 (l1 y), .int .u64 (l2 y), .int .u64 (l3 y), .bool i])).run Tryd.prog w = .ok true w := fun w => by
  rw [eq_sig_any hx hy hx hy w]
  simp
end Go.Proofs.YtnjmdncnkijijaaDoor

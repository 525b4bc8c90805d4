import Derived.Test.YtnjmdncnkijijaaDoorESW
import Derived.Test.YtnjmdncnkijijaaDoorRowB
import Derived.Maps.AppendAt
import Derived.Lib.AppendZerosOnto
import Derived.Test.YtnjmdncnkijijaaDoorGet
import Derived.Test.YtnjmdncnkijijaaDoorCTrs
namespace Go.Proofs.YtnjmdncnkijijaaDoor
open Go.RowKit Go.Sort

theorem info_byteE : (Tryd.prog.info? 5).map (fun i => (i.zero, i.size, i.bytes)) = some (some (.int .u8 0), 1, 1) := by kernel_rfl
theorem info_partsE {P : Program} {e : TypeId} {z : Value} {s b : Nat} (h : (P.info? e).map (fun i => (i.zero, i.size, i.bytes)) = some (some z, s, b)) : ∃ i, P.info? e = some i ∧ i.zero = some z ∧ i.size = s ∧ i.bytes = b := by
  cases hi : P.info? e with
  | none => rw [hi] at h; cases h
  | some i =>
    rw [hi] at h
    simp only [Option.map_some, Option.some.injEq, Prod.mk.injEq] at h
    exact ⟨i, rfl, h.1, h.2.1, h.2.2⟩
theorem blkE_new (w : World) (o : Obj) : (w.alloc o).drew.heap[w.heap.size]? = some o := by
  show (w.heap.push o)[w.heap.size]? = some o
  simp
set_option maxRecDepth 100000 in
set_option maxHeartbeats 4000000 in
/-- slices.Grow of no bytes by 64. -/
theorem grow64 (w : World) : Calls Tryd.prog 23 #[.slice none 0 0, .int .i64 64] w fun e w' => ∃ v, e = .returned v ∧ w'.ownsRow w.heap.size 5 1 v 0 [] ∧ Below w.heap.size w w' := by
  obtain ⟨i0, hi, hz0, hz1, hz2⟩ := info_partsE info_byteE
  have hrz : ∀ ty, (Builtin.append_ #[27, 3] ty #[.slice none 0 0, .int .i64 64]).run Tryd.prog w =
      .ok (.slice (some ⟨w.heap.size, 0, none⟩) 64 (grownCap w 64 0 5)) (w.drew.alloc (.cells (#[] ++ Builtin.zeroCells (Value.int .u8 0).cells 64 ++ Builtin.zeroCells (Value.int .u8 0).cells (grownCap w 64 0 5 - 64)) 5)) := fun ty => by
    have h := Lib.run_append_grow_zeros w 27 3 ty 5 i0 (.int .u8 0) .i64 .i64 Tryd.underlying27 Tryd.underlying3 hi hz0 none 0 0 [] (run_firstCells_none w.drew i0.size 0 0 0) 64 (by decide) (by omega) (by decide) (by decide) (by omega) (by rw [hz2]; exact growslice_fits (by decide) (by decide))
    exact h
  have hG := grownCap_ge w 64 0 5
  have hG2 := grownCap_le_maxLen w 64 0 5 (by unfold maxLen; decide)
  generalize grownCap w 64 0 5 = G at *
  have hG63 : G ≤ 9223372036854775807 := by unfold maxLen at hG2; omega
  go_enter Tryd.func23, Tryd.ntmps23
  go_wp2_with (at_builtin; refine Lib.wpList_append_run _ rfl _ _ _ _ rfl _ _ rfl rfl _ _ (hrz _) ?_)
  all_goals (go_ret)
  refine ⟨_, rfl, ?_, ?_⟩
  · show World.ownsRow _ w.heap.size 5 1 (.slice (some ⟨w.heap.size, 0, none⟩) 0 G) 0 []
    refine ⟨rfl, .inr ⟨w.heap.size, G, _, rfl, Nat.le_refl _, blkE_new _ _, Nat.zero_le _, hG2, ?_, rfl⟩⟩
    rw [Array.size_append, size_zeroCells, size_zeroCells]
    show 64 * 1 + (G - 64) * 1 = G * 1
    omega
  · exact ((Below.refl _ _).alloc (Nat.le_refl _) _).drew
theorem bytes_at {A : List Int} {W : World} {b : Nat} (h : W.rangeAt b 0 (A.map fun z => Value.int .u8 z)) : ∀ j u, (A.map fun z => Value.int .u8 z)[j]? = some u → W.cell? ((⟨b, 0, none⟩ : Addr).add j) = some u := fun j u hu => by
  have := h j u hu
  rw [Addr.add_mid]
  exact this
theorem rangeE_keep {cs : List Value} {W W' : World} {b : Nat} (h : W.rangeAt b 0 cs) (hb : Below W.heap.size W W') : W'.rangeAt b 0 cs := fun j v hv => cell_keep hb (h j v hv)

set_option maxRecDepth 100000 in
set_option maxHeartbeats 4000000 in
/-- slices.Concat of two texts of 32 bytes. -/
theorem concat64 {A1 A2 : List Int} {b1 b2 bs : Nat} (l1 : A1.length = 32) (l2 : A2.length = 32) (w : World) (h0 : w.cell? ⟨bs, 0, none⟩ = some (.slice (some ⟨b1, 0, none⟩) 32 32)) (h1 : w.cell? ⟨bs, 1, none⟩ = some (.slice (some ⟨b2, 0, none⟩) 32 32))
    (g1 : w.rangeAt b1 0 (A1.map fun z => Value.int .u8 z)) (g2 : w.rangeAt b2 0 (A2.map fun z => Value.int .u8 z)) :
    Calls Tryd.prog 16 #[.slice (some ⟨bs, 0, none⟩) 2 2] w fun e w' => ∃ v, e = .returned v ∧ w'.ownsRow w.heap.size 5 1 v 64 ((A1 ++ A2).map fun z => Value.int .u8 z) ∧ Below w.heap.size w w' := by
  obtain ⟨i0, hi, hz0, hz1, hz2⟩ := info_partsE info_byteE
  have HG : Hid (w.rangeAt b1 0 (A1.map fun z => Value.int .u8 z) ∧ w.rangeAt b2 0 (A2.map fun z => Value.int .u8 z)) := ⟨g1, g2⟩
  have GR : Hid (∀ w, Calls Tryd.prog 23 #[.slice none 0 0, .int .i64 64] w fun e w' => ∃ v, e = .returned v ∧ w'.ownsRow w.heap.size 5 1 v 0 [] ∧ Below w.heap.size w w') := fun w => grow64 w
  have LL : Hid (A1.length = 32 ∧ A2.length = 32) := ⟨l1, l2⟩
  clear g1 g2 l1 l2
  go_enter Tryd.func16, Tryd.ntmps16
  go_wp2_with fail
  go_loopg [3, 5, 11] 2 (fun k sv fv iv wr => ∃ i : Nat, k = 2 - i ∧ i ≤ 2 ∧ iv = .int .i64 (i : Int) ∧ sv = .int .i64 (32 * i : Int) ∧ w = wr)
  case atStart => exact ⟨0, rfl, by decide, rfl, rfl, rfl⟩
  case round =>
    obtain ⟨i, hk, hi9, rfl, rfl, rfl⟩ := hrel
    have h3 : i = 0 ∨ i = 1 ∨ i = 2 := by omega
    rcases h3 with rfl | rfl | rfl
    · go_wp2_with fail
      go_roundg 1
      case measure => omega
      case rel => exact ⟨1, rfl, by decide, rfl, rfl, rfl⟩
    · go_wp2_with fail
      go_roundg 0
      case measure => omega
      case rel => exact ⟨2, rfl, by decide, rfl, rfl, rfl⟩
    · go_wp2_with fail
      with_reducible refine (GR.out _).mono ?_
      rintro e w1 ⟨v, rfl, hown, hb⟩
      have HV : Hid (w1.ownsRow w.heap.size 5 1 v 0 [] ∧ Below w.heap.size w w1) := ⟨hown, hb⟩
      clear hown hb GR
      go_wp2_with fail
      go_loopg [6, 8, 27] 2 (fun k vv fv iv w2 => ∃ i : Nat, k = 2 - i ∧ i ≤ 2 ∧ iv = .int .i64 (i : Int) ∧ World.ownsRow w2 w.heap.size 5 1 vv (32 * i) (((A1 ++ A2).take (32 * i)).map fun z => Value.int .u8 z) ∧ Below w.heap.size w w2)
      case atStart => exact ⟨0, rfl, by decide, rfl, HV.out⟩
      case round =>
      obtain ⟨i, hk, hi9, rfl, hown, B⟩ := hrel
      have HF : Hid (World.ownsRow wr w.heap.size 5 1 u6 (32 * i) (((A1 ++ A2).take (32 * i)).map fun z => Value.int .u8 z) ∧ Below w.heap.size w wr) := ⟨hown, B⟩
      clear hown B HV
      have h3 : i = 0 ∨ i = 1 ∨ i = 2 := by omega
      rcases h3 with rfl | rfl | rfl
      · have RG : Hid (wr.rangeAt b1 0 (A1.map fun z => Value.int .u8 z)) := rangeE_keep HG.out.1 HF.out.2
        have LEN : Hid ((A1.map fun z => Value.int .u8 z).length = 32 * 1) := by rw [List.length_map, Nat.mul_one]; exact LL.out.1
        have c0 := cell_keep HF.out.2 h0
        clear h0 h1
        go_wp2_with ((at_builtin; go_loud (refine wpList_append_own_at _ rfl _ _ 27 rfl w.heap.size 5 i0 (.int .u8 0) 1 1 Tryd.underlying27 hi hz0 hz1 hz2 rfl (by decide) u6 _ _ rfl HF.out.1 ⟨b1, 0, none⟩ 32 32 (A1.map fun z => Value.int .u8 z) rfl LEN.out (bytes_at RG.out) (fun u hu => by obtain ⟨z, _, rfl⟩ := List.mem_map.1 hu; rfl) (by unfold maxLen; decide) (by decide) HF.out.2.size ?_); intro v' w3 hown' hgrow3 hnil3 hblk))
        have HO : Hid (World.ownsRow w3 w.heap.size 5 1 v' (32 * 1) (((A1 ++ A2).take (32 * 1)).map fun z => Value.int .u8 z) ∧ Below w.heap.size w w3) := by
          refine ⟨?_, HF.out.2.grown hgrow3 HF.out.2.size (fun k hk => (HF.out.1.lt k hk).1)⟩
          rw [show ((A1 ++ A2).take (32 * (1))).map (fun z => Value.int .u8 z) = (((A1 ++ A2).take (32 * 0)).map fun z => Value.int .u8 z) ++ (A1.map fun z => Value.int .u8 z) by rw [show 32 * (1) = A1.length by rw [LL.out.1], List.take_left']; simp; rfl]
          exact hown'
        clear hown' hgrow3 hnil3 hblk
        go_roundg 1
        case measure => omega
        case rel => exact ⟨1, rfl, by decide, rfl, HO.out⟩
      · have RG : Hid (wr.rangeAt b2 0 (A2.map fun z => Value.int .u8 z)) := rangeE_keep HG.out.2 HF.out.2
        have LEN : Hid ((A2.map fun z => Value.int .u8 z).length = 32 * 1) := by rw [List.length_map, Nat.mul_one]; exact LL.out.2
        have c0 := cell_keep HF.out.2 h1
        clear h0 h1
        go_wp2_with ((at_builtin; go_loud (refine wpList_append_own_at _ rfl _ _ 27 rfl w.heap.size 5 i0 (.int .u8 0) 1 1 Tryd.underlying27 hi hz0 hz1 hz2 rfl (by decide) u6 _ _ rfl HF.out.1 ⟨b2, 0, none⟩ 32 32 (A2.map fun z => Value.int .u8 z) rfl LEN.out (bytes_at RG.out) (fun u hu => by obtain ⟨z, _, rfl⟩ := List.mem_map.1 hu; rfl) (by unfold maxLen; decide) (by decide) HF.out.2.size ?_); intro v' w3 hown' hgrow3 hnil3 hblk))
        have HO : Hid (World.ownsRow w3 w.heap.size 5 1 v' (32 * 2) (((A1 ++ A2).take (32 * 2)).map fun z => Value.int .u8 z) ∧ Below w.heap.size w w3) := by
          refine ⟨?_, HF.out.2.grown hgrow3 HF.out.2.size (fun k hk => (HF.out.1.lt k hk).1)⟩
          rw [show ((A1 ++ A2).take (32 * 2)).map (fun z => Value.int .u8 z) = (((A1 ++ A2).take (32 * 1)).map fun z => Value.int .u8 z) ++ (A2.map fun z => Value.int .u8 z) by rw [List.take_of_length_le (by rw [List.length_append, LL.out.1, LL.out.2]; decide), List.take_left' (by rw [LL.out.1]), List.map_append]]
          exact hown'
        clear hown' hgrow3 hnil3 hblk
        go_roundg 0
        case measure => omega
        case rel => exact ⟨2, rfl, by decide, rfl, HO.out⟩
      · have AL : Hid ((A1 ++ A2).take (32 * 2) = A1 ++ A2) := List.take_of_length_le (by rw [List.length_append, LL.out.1, LL.out.2]; decide)
        go_wp2
        go_ret
        refine ⟨_, rfl, ?_, HF.out.2⟩
        have := HF.out.1
        rw [AL.out] at this
        exact this
end Go.Proofs.YtnjmdncnkijijaaDoor

namespace Go.Proofs.YtnjmdncnkijijaaDoor
open Go.RowKit Go.Sort

theorem own_base {W : World} {b0 b1 s n : Nat} {e : TypeId} {v : Value} {xs : List Value} (h : W.ownsRow b1 e s v n xs) (hb : b0 ≤ b1) : W.ownsRow b0 e s v n xs := by
  refine ⟨h.1, ?_⟩
  rcases h.2 with h' | ⟨g, cap, cur, h1, h2, h3⟩
  · exact .inl h'
  · exact .inr ⟨g, cap, cur, h1, Nat.le_trans hb h2, h3⟩
theorem bts_range {W : World} {b : Nat} {l : List Int} (h : W.rangeAt b 0 (l.map (Value.int .u8))) (hf : Loose W b l.length) : Bts W b l := by
  refine ⟨fun i hi => ?_, hf⟩
  have := h i (.int .u8 (l.getD i 0)) (by rw [List.getElem?_map, List.getElem?_eq_getElem hi]; simp [List.getD, hi])
  rwa [Nat.zero_add] at this
/-- The bytes of s, the mark in the first. -/
def markL (o : Bool) (A : List Int) : List Int := if o then A.set 0 (bits .or .u8 (A.getD 0 0) 128) else A
theorem markL_len (o : Bool) (A : List Int) : (markL o A).length = A.length := by unfold markL; split <;> simp
theorem alloc_b32 (dst : Option Tmp) (pos : String) (ty : TypeId) (ρ : Operand → Value) (w : World) : (execOp ρ { dst := dst, op := Op.alloc 44, type := ty, pos := pos, after := #[], guard := none }).run Tryd.prog w = .ok (.value (.pointer (some ⟨w.heap.size, 0, none⟩))) (w.alloc (.cells (((List.replicate 32 (0 : Int)).map (Value.int .u8)).toArray) 44)) := by
  simp [execOp, go_sem]

set_option maxRecDepth 100000 in
set_option maxHeartbeats 8000000 in
theorem epack_even {r s : Int} {L1 L2 : List Int} {M1 M2 : List Value} (r1 : L1.length = 32) (r2 : L2.length = 32) (e1 : Hid (M1 = L1.map (Value.int .u8))) (e2 : Hid (M2 = L2.map (Value.int .u8))) (C1 : Hid (∀ w, Calls Tryd.prog 15 #[.agg #[.int .u64 (l0 r), .int .u64 (l1 r), .int .u64 (l2 r), .int .u64 (l3 r)]] w fun e w' => e = .returned (.agg M1.toArray) ∧ Below w.heap.size w w')) (C2 : Hid (∀ w, Calls Tryd.prog 15 #[.agg #[.int .u64 (l0 s), .int .u64 (l1 s), .int .u64 (l2 s), .int .u64 (l3 s)]] w fun e w' => e = .returned (.agg M2.toArray) ∧ Below w.heap.size w w')) (CK : Hid (∀ w, Mds w → Calls Tryd.prog 14 #[.agg #[.int .u64 (l0 r), .int .u64 (l1 r), .int .u64 (l2 r), .int .u64 (l3 r), .int .u64 (l0 s), .int .u64 (l1 s), .int .u64 (l2 s), .int .u64 (l3 s), .bool false]] w fun e w' => e = .returned (.int .i64 0) ∧ Below w.heap.size w w')) (w : World) (hm : Mds w) :
    Calls Tryd.prog 4 #[.agg #[.int .u64 (l0 r), .int .u64 (l1 r), .int .u64 (l2 r), .int .u64 (l3 r), .int .u64 (l0 s), .int .u64 (l1 s), .int .u64 (l2 s), .int .u64 (l3 s), .bool false]] w fun e w' => ∃ v, e = .returned (.tuple #[v, .int .i64 0]) ∧ World.ownsRow w' w.heap.size 5 1 v 64 ((L1 ++ markL false L2).map fun z => Value.int .u8 z) ∧ Below w.heap.size w w' := by
  go_enter Tryd.func4, Tryd.ntmps4
  go_wp2_with fail
  refine calls_world (fun W => Below w.heap.size w W ∧ Mds W ∧ Pnt W w.heap.size r s false) ⟨by repeat (first | with_reducible exact Below.refl _ _ | with_reducible refine Below.alloc ?_ (by first | omega | (simp; done) | (simp; omega)) _), hm.alloc _, Pnt.new rfl⟩ ?_
  rintro W ⟨B, hD, hP⟩
  with_reducible refine (CK.out _ hD).mono ?_
  rintro e w1 ⟨rfl, hb⟩
  replace B := B.trans (hb.mono B.size)
  replace hP := hP.keep hb
  clear hb hD W
  go_wp2_with fail
  refine wp_world (fun W => Below w.heap.size w W ∧ Pnt W w.heap.size r s false) ⟨B, hP⟩ ?_
  clear B hP
  rintro W ⟨B, hP⟩
  clear w1
  refine alloc2_tail (A := ?AA) 6 (by kernel_rfl) (by kernel_rfl) rfl rfl rfl rfl (alloc_b32 _ _ _) (alloc_b32 _ _ _) (fun V hV => ?HH) (fun V V2 w1 hV hw hV2 hw2 hdd => ?TT)
  case HH =>
    have ghP := (hP.keep hV).grown
    unfold Gr
    simp only [List.take_succ_cons, List.take_zero]
    repeat
      first
        | go_big_quiet_skip
        | (go_big_quiet_want; go_big_quiet_op; go_big_quiet_on)
        | (go_big_quiet_want
           go_big_quiet_op
           apply Exists.intro
           refine ⟨fun p => ?_, ?_⟩
           · (first | (go_at_call 15; with_reducible exact Calls.regrown_of (C1.out _)) | (go_at_call 15; with_reducible exact Calls.regrown_of (C2.out _)))
           go_big_quiet_on)
    refine wpQuiet_nil ?_
    exact rfl
  case TT =>
    have hb := alloc_below hV hw
    have h5 := (Bts.new (List.replicate 32 0) 44 (W := V) rfl).keep (by simp) hw
    have h6 := (Bts.new (List.replicate 32 0) 44 (W := V2) rfl).keep (by simp) hw2
    have n5 : V.heap.size ≠ w.heap.size := Nat.ne_of_gt (Nat.lt_of_lt_of_le hP.lt hV.size)
    have n6 : V2.heap.size ≠ w.heap.size := Nat.ne_of_gt (Nat.lt_of_lt_of_le hP.lt hV2.size)
    have g5 : w.heap.size ≤ V.heap.size := Nat.le_trans B.size hV.size
    have g6 : w.heap.size ≤ V2.heap.size := Nat.le_trans B.size hV2.size
    replace B := B.trans (hb.mono B.size)
    replace hP := hP.keep hb
    clear hb hw hw2 hV hV2 W
    generalize V.heap.size = b5 at *
    generalize V2.heap.size = b6 at *
    clear V V2
    have k1 : M1.length = 32 := by rw [e1.out, List.length_map]; exact r1
    have k2 : M2.length = 32 := by rw [e2.out, List.length_map]; exact r2
    have sz1 : M1.toArray.size = 32 := by rw [List.size_toArray]; exact k1
    have sz2 : M2.toArray.size = 32 := by rw [List.size_toArray]; exact k2
    have t1 := h5.there (k := M1.toArray.size) (by rw [sz1]; rfl)
    have t2 := World.there_setCells (h6.there (k := M2.toArray.size) (by rw [sz2]; rfl)) b5 0 M1
    have oc1 : M1.toArray.all (·.oneCell') = true := by rw [e1.out]; exact one_cells L1
    have oc2 : M2.toArray.all (·.oneCell') = true := by rw [e2.out]; exact one_cells L2
    have FF : Hid (Below w.heap.size w ((w1.setCells b5 0 M1).setCells b6 0 M2) ∧ Pnt ((w1.setCells b5 0 M1).setCells b6 0 M2) w.heap.size r s false ∧ Bts ((w1.setCells b5 0 M1).setCells b6 0 M2) b5 L1 ∧ Bts ((w1.setCells b5 0 M1).setCells b6 0 M2) b6 L2) := by
      refine ⟨below_cells (below_cells B g5 _ _) g6 _ _, Cl.cells_put (Cl.cells_put hP n5 _ _) n6 _ _, bts_range (by rw [← e1.out]; exact World.rangeAt_setCells_apart (World.rangeAt_setCells_same _ _ _ _ (by simpa using t1)) _ _ _ (.inl hdd)) ?_, bts_range (by rw [← e2.out]; exact World.rangeAt_setCells_same _ _ _ _ (by simpa using t2)) ?_⟩
      · rw [r1]; exact (h5.2.cells_put _ _).cells_put _ _
      · rw [r2]; exact (h6.2.cells_put _ _).cells_put _ _
    clear B hP h5 h6
    simp only [List.drop_succ_cons, List.drop_zero, Act.put, List.setIfInBounds_toArray, List.set_cons_zero, List.set_cons_succ]
    go_wp2_with (first | refine wpList_store_mid rfl 44 _ _ rfl b5 0 M1.toArray rfl rfl t1 (by rw [sz1]; kernel_rfl) oc1 ?_ | (refine wpList_store_mid rfl 44 _ _ rfl b6 0 M2.toArray rfl rfl t2 (by rw [sz2]; kernel_rfl) oc2 ?_; refine wpList_world (fun W => Below w.heap.size w W ∧ Pnt W w.heap.size r s false ∧ Bts W b5 L1 ∧ Bts W b6 L2) FF.out ?_; clear FF t1 t2 oc1 oc2 sz1 sz2; rintro W ⟨B, hP, hA, hB⟩; have gP := hP.cells; have z0 := hB.1 0 (by rw [r2]; decide); obtain ⟨zz, ez⟩ : ∃ z, z = L2.getD 0 0 := ⟨_, rfl⟩; have EZ : Hid (zz = L2.getD 0 0) := ez; rw [← ez] at z0; clear ez; have f0 := hB.2 0 (by rw [r2]; decide)))
    refine wp_world (fun W => Below w.heap.size w W ∧ Bts W b5 L1 ∧ Bts W b6 (markL false L2)) ⟨B, hA, hB⟩ ?_
    clear B hP hA hB gP z0 f0
    rintro W2 ⟨B, hA, hB⟩
    clear W
    have m2 := markL_len false L2
    refine below_tail 2 (by kernel_rfl) (by kernel_rfl) ?_
    simp only [List.take_succ_cons, List.take_zero, List.drop_succ_cons, List.drop_zero]
    repeat
      first
        | go_big_quiet_skip
        | (go_big_quiet_want; go_big_quiet_op; go_big_quiet_on)
    refine wpQuiet_nil ?_
    rintro w2 ⟨p, rfl⟩
    have hb := below_regrown W2 p.d p.os
    generalize grow (redrawn W2 p.d) p.os = w2 at *
    replace B := B.trans (hb.mono B.size)
    replace hA := hA.keep (by rw [r1]; decide) hb
    replace hB := hB.keep (by rw [m2, r2]; decide) hb
    clear hb W2
    go_wp2_with fail
    refine calls_world (fun W => Below w.heap.size w W ∧ W.cell? ⟨w2.heap.size, 0, none⟩ = some (.slice (some ⟨b5, 0, none⟩) 32 32) ∧ W.cell? ⟨w2.heap.size, 1, none⟩ = some (.slice (some ⟨b6, 0, none⟩) 32 32) ∧ Bts W b5 L1 ∧ Bts W b6 (markL false L2)) ⟨B.alloc B.size _, by simp [go_sem], by simp [go_sem], hA.alloc (by rw [r1]; decide) _, hB.alloc (by rw [m2, r2]; decide) _⟩ ?_
    clear B hA hB
    rintro W ⟨B, c0, c1, hA, hB⟩
    generalize w2.heap.size = bs at *
    clear w2
    have rA := hA.1.range; have rB := hB.1.range
    with_reducible refine (concat64 (A1 := L1) (A2 := markL false L2) r1 (m2.trans r2) _ c0 c1 rA rB).mono ?_
    rintro e w3 ⟨v, rfl, ho, hb⟩
    have O := own_base ho B.size
    replace B := B.trans (hb.mono B.size)
    clear hb ho c0 c1 hA hB rA rB W
    have OO : Hid (World.ownsRow w3 w.heap.size 5 1 v 64 ((L1 ++ markL false L2).map fun z => Value.int .u8 z) ∧ Below w.heap.size w w3) := ⟨O, B⟩
    clear O B
    go_wp2
    simp [bodyPost, results, Tryd.results4, go_sem]
    rw [← List.map_append]
    exact OO.out

set_option maxRecDepth 100000 in
set_option maxHeartbeats 8000000 in
theorem epack_odd {r s : Int} {L1 L2 : List Int} {M1 M2 : List Value} (r1 : L1.length = 32) (r2 : L2.length = 32) (e1 : Hid (M1 = L1.map (Value.int .u8))) (e2 : Hid (M2 = L2.map (Value.int .u8))) (C1 : Hid (∀ w, Calls Tryd.prog 15 #[.agg #[.int .u64 (l0 r), .int .u64 (l1 r), .int .u64 (l2 r), .int .u64 (l3 r)]] w fun e w' => e = .returned (.agg M1.toArray) ∧ Below w.heap.size w w')) (C2 : Hid (∀ w, Calls Tryd.prog 15 #[.agg #[.int .u64 (l0 s), .int .u64 (l1 s), .int .u64 (l2 s), .int .u64 (l3 s)]] w fun e w' => e = .returned (.agg M2.toArray) ∧ Below w.heap.size w w')) (CK : Hid (∀ w, Mds w → Calls Tryd.prog 14 #[.agg #[.int .u64 (l0 r), .int .u64 (l1 r), .int .u64 (l2 r), .int .u64 (l3 r), .int .u64 (l0 s), .int .u64 (l1 s), .int .u64 (l2 s), .int .u64 (l3 s), .bool true]] w fun e w' => e = .returned (.int .i64 0) ∧ Below w.heap.size w w')) (w : World) (hm : Mds w) :
    Calls Tryd.prog 4 #[.agg #[.int .u64 (l0 r), .int .u64 (l1 r), .int .u64 (l2 r), .int .u64 (l3 r), .int .u64 (l0 s), .int .u64 (l1 s), .int .u64 (l2 s), .int .u64 (l3 s), .bool true]] w fun e w' => ∃ v, e = .returned (.tuple #[v, .int .i64 0]) ∧ World.ownsRow w' w.heap.size 5 1 v 64 ((L1 ++ markL true L2).map fun z => Value.int .u8 z) ∧ Below w.heap.size w w' := by
  go_enter Tryd.func4, Tryd.ntmps4
  go_wp2_with fail
  refine calls_world (fun W => Below w.heap.size w W ∧ Mds W ∧ Pnt W w.heap.size r s true) ⟨by repeat (first | with_reducible exact Below.refl _ _ | with_reducible refine Below.alloc ?_ (by first | omega | (simp; done) | (simp; omega)) _), hm.alloc _, Pnt.new rfl⟩ ?_
  rintro W ⟨B, hD, hP⟩
  with_reducible refine (CK.out _ hD).mono ?_
  rintro e w1 ⟨rfl, hb⟩
  replace B := B.trans (hb.mono B.size)
  replace hP := hP.keep hb
  clear hb hD W
  go_wp2_with fail
  refine wp_world (fun W => Below w.heap.size w W ∧ Pnt W w.heap.size r s true) ⟨B, hP⟩ ?_
  clear B hP
  rintro W ⟨B, hP⟩
  clear w1
  refine alloc2_tail (A := ?AA) 6 (by kernel_rfl) (by kernel_rfl) rfl rfl rfl rfl (alloc_b32 _ _ _) (alloc_b32 _ _ _) (fun V hV => ?HH) (fun V V2 w1 hV hw hV2 hw2 hdd => ?TT)
  case HH =>
    have ghP := (hP.keep hV).grown
    unfold Gr
    simp only [List.take_succ_cons, List.take_zero]
    repeat
      first
        | go_big_quiet_skip
        | (go_big_quiet_want; go_big_quiet_op; go_big_quiet_on)
        | (go_big_quiet_want
           go_big_quiet_op
           apply Exists.intro
           refine ⟨fun p => ?_, ?_⟩
           · (first | (go_at_call 15; with_reducible exact Calls.regrown_of (C1.out _)) | (go_at_call 15; with_reducible exact Calls.regrown_of (C2.out _)))
           go_big_quiet_on)
    refine wpQuiet_nil ?_
    exact rfl
  case TT =>
    have hb := alloc_below hV hw
    have h5 := (Bts.new (List.replicate 32 0) 44 (W := V) rfl).keep (by simp) hw
    have h6 := (Bts.new (List.replicate 32 0) 44 (W := V2) rfl).keep (by simp) hw2
    have n5 : V.heap.size ≠ w.heap.size := Nat.ne_of_gt (Nat.lt_of_lt_of_le hP.lt hV.size)
    have n6 : V2.heap.size ≠ w.heap.size := Nat.ne_of_gt (Nat.lt_of_lt_of_le hP.lt hV2.size)
    have g5 : w.heap.size ≤ V.heap.size := Nat.le_trans B.size hV.size
    have g6 : w.heap.size ≤ V2.heap.size := Nat.le_trans B.size hV2.size
    replace B := B.trans (hb.mono B.size)
    replace hP := hP.keep hb
    clear hb hw hw2 hV hV2 W
    generalize V.heap.size = b5 at *
    generalize V2.heap.size = b6 at *
    clear V V2
    have k1 : M1.length = 32 := by rw [e1.out, List.length_map]; exact r1
    have k2 : M2.length = 32 := by rw [e2.out, List.length_map]; exact r2
    have sz1 : M1.toArray.size = 32 := by rw [List.size_toArray]; exact k1
    have sz2 : M2.toArray.size = 32 := by rw [List.size_toArray]; exact k2
    have t1 := h5.there (k := M1.toArray.size) (by rw [sz1]; rfl)
    have t2 := World.there_setCells (h6.there (k := M2.toArray.size) (by rw [sz2]; rfl)) b5 0 M1
    have oc1 : M1.toArray.all (·.oneCell') = true := by rw [e1.out]; exact one_cells L1
    have oc2 : M2.toArray.all (·.oneCell') = true := by rw [e2.out]; exact one_cells L2
    have FF : Hid (Below w.heap.size w ((w1.setCells b5 0 M1).setCells b6 0 M2) ∧ Pnt ((w1.setCells b5 0 M1).setCells b6 0 M2) w.heap.size r s true ∧ Bts ((w1.setCells b5 0 M1).setCells b6 0 M2) b5 L1 ∧ Bts ((w1.setCells b5 0 M1).setCells b6 0 M2) b6 L2) := by
      refine ⟨below_cells (below_cells B g5 _ _) g6 _ _, Cl.cells_put (Cl.cells_put hP n5 _ _) n6 _ _, bts_range (by rw [← e1.out]; exact World.rangeAt_setCells_apart (World.rangeAt_setCells_same _ _ _ _ (by simpa using t1)) _ _ _ (.inl hdd)) ?_, bts_range (by rw [← e2.out]; exact World.rangeAt_setCells_same _ _ _ _ (by simpa using t2)) ?_⟩
      · rw [r1]; exact (h5.2.cells_put _ _).cells_put _ _
      · rw [r2]; exact (h6.2.cells_put _ _).cells_put _ _
    clear B hP h5 h6
    simp only [List.drop_succ_cons, List.drop_zero, Act.put, List.setIfInBounds_toArray, List.set_cons_zero, List.set_cons_succ]
    go_wp2_with (first | refine wpList_store_mid rfl 44 _ _ rfl b5 0 M1.toArray rfl rfl t1 (by rw [sz1]; kernel_rfl) oc1 ?_ | (refine wpList_store_mid rfl 44 _ _ rfl b6 0 M2.toArray rfl rfl t2 (by rw [sz2]; kernel_rfl) oc2 ?_; refine wpList_world (fun W => Below w.heap.size w W ∧ Pnt W w.heap.size r s true ∧ Bts W b5 L1 ∧ Bts W b6 L2) FF.out ?_; clear FF t1 t2 oc1 oc2 sz1 sz2; rintro W ⟨B, hP, hA, hB⟩; have gP := hP.cells; have z0 := hB.1 0 (by rw [r2]; decide); obtain ⟨zz, ez⟩ : ∃ z, z = L2.getD 0 0 := ⟨_, rfl⟩; have EZ : Hid (zz = L2.getD 0 0) := ez; rw [← ez] at z0; clear ez; have f0 := hB.2 0 (by rw [r2]; decide)))
    refine wp_world (fun W => Below w.heap.size w W ∧ Bts W b5 L1 ∧ Bts W b6 (markL true L2)) ⟨Below.setCell B g6 _, hA.other (Ne.symm hdd) _, by rw [show markL true L2 = L2.set 0 (bits .or .u8 zz 128) by rw [EZ.out]; rfl]; exact hB.set 0 (by rw [r2]; decide) _⟩ ?_
    clear B hP hA hB gP z0 f0
    rintro W2 ⟨B, hA, hB⟩
    clear W
    have m2 := markL_len true L2
    refine below_tail 2 (by kernel_rfl) (by kernel_rfl) ?_
    simp only [List.take_succ_cons, List.take_zero, List.drop_succ_cons, List.drop_zero]
    repeat
      first
        | go_big_quiet_skip
        | (go_big_quiet_want; go_big_quiet_op; go_big_quiet_on)
    refine wpQuiet_nil ?_
    rintro w2 ⟨p, rfl⟩
    have hb := below_regrown W2 p.d p.os
    generalize grow (redrawn W2 p.d) p.os = w2 at *
    replace B := B.trans (hb.mono B.size)
    replace hA := hA.keep (by rw [r1]; decide) hb
    replace hB := hB.keep (by rw [m2, r2]; decide) hb
    clear hb W2
    go_wp2_with fail
    refine calls_world (fun W => Below w.heap.size w W ∧ W.cell? ⟨w2.heap.size, 0, none⟩ = some (.slice (some ⟨b5, 0, none⟩) 32 32) ∧ W.cell? ⟨w2.heap.size, 1, none⟩ = some (.slice (some ⟨b6, 0, none⟩) 32 32) ∧ Bts W b5 L1 ∧ Bts W b6 (markL true L2)) ⟨B.alloc B.size _, by simp [go_sem], by simp [go_sem], hA.alloc (by rw [r1]; decide) _, hB.alloc (by rw [m2, r2]; decide) _⟩ ?_
    clear B hA hB
    rintro W ⟨B, c0, c1, hA, hB⟩
    generalize w2.heap.size = bs at *
    clear w2
    have rA := hA.1.range; have rB := hB.1.range
    with_reducible refine (concat64 (A1 := L1) (A2 := markL true L2) r1 (m2.trans r2) _ c0 c1 rA rB).mono ?_
    rintro e w3 ⟨v, rfl, ho, hb⟩
    have O := own_base ho B.size
    replace B := B.trans (hb.mono B.size)
    clear hb ho c0 c1 hA hB rA rB W
    have OO : Hid (World.ownsRow w3 w.heap.size 5 1 v 64 ((L1 ++ markL true L2).map fun z => Value.int .u8 z) ∧ Below w.heap.size w w3) := ⟨O, B⟩
    clear O B
    go_wp2
    simp [bodyPost, results, Tryd.results4, go_sem]
    rw [← List.map_append]
    exact OO.out
end Go.Proofs.YtnjmdncnkijijaaDoor

import Derived.Test.YtmpggpkokniemaaDoorESW
import Derived.Test.YtmpggpkokniemaaDoorRowB
import Derived.Maps.AppendAt
import Derived.Lib.AppendZerosOnto
namespace Go.Proofs.YtmpggpkokniemaaDoor
open Go.RowKit Go.Sort

theorem info_byteE : (Tryd.prog.info? 5).map (fun i => (i.zero, i.size, i.bytes)) = some (some (.int .u8 0), 1, 1) := by kernel_rfl
theorem info_partsE {P : Program} {e : TypeId} {z : Value} {s b : Nat} (h : (P.info? e).map (fun i => (i.zero, i.size, i.bytes)) = some (some z, s, b)) : ∃ i, P.info? e = some i ∧ i.zero = some z ∧ i.size = s ∧ i.bytes = b := by
  cases hi : P.info? e with
  | none => rw [hi] at h; cases h
  | some i =>
    rw [hi] at h
    simp only [Option.map_some, Option.some.injEq, Prod.mk.injEq] at h
    exact ⟨i, rfl, h.1, h.2.1, h.2.2⟩
theorem blkE_new (w : World) (o : Obj) : (w.alloc o).drew.heap[w.heap.size]? = some o := by
  show (w.heap.push o)[w.heap.size]? = some o
  simp
set_option maxRecDepth 100000 in
set_option maxHeartbeats 4000000 in
/-- slices.Grow of no bytes by 64. -/
theorem grow64 (w : World) : Calls Tryd.prog 16 #[.slice none 0 0, .int .i64 64] w fun e w' => ∃ v, e = .returned v ∧ w'.ownsRow w.heap.size 5 1 v 0 [] ∧ Below w.heap.size w w' := by
  obtain ⟨i0, hi, hz0, hz1, hz2⟩ := info_partsE info_byteE
  have hrz : ∀ ty, (Builtin.append_ #[22, 3] ty #[.slice none 0 0, .int .i64 64]).run Tryd.prog w =
      .ok (.slice (some ⟨w.heap.size, 0, none⟩) 64 (grownCap w 64 0 5)) (w.drew.alloc (.cells (#[] ++ Builtin.zeroCells (Value.int .u8 0).cells 64 ++ Builtin.zeroCells (Value.int .u8 0).cells (grownCap w 64 0 5 - 64)) 5)) := fun ty => by
    have h := Lib.run_append_grow_zeros w 22 3 ty 5 i0 (.int .u8 0) .i64 .i64 Tryd.underlying22 Tryd.underlying3 hi hz0 none 0 0 [] (run_firstCells_none w.drew i0.size 0 0 0) 64 (by decide) (by omega) (by decide) (by decide) (by omega) (by rw [hz2]; exact growslice_fits (by decide) (by decide))
    exact h
  have hG := grownCap_ge w 64 0 5
  have hG2 := grownCap_le_maxLen w 64 0 5 (by unfold maxLen; decide)
  generalize grownCap w 64 0 5 = G at *
  have hG63 : G ≤ 9223372036854775807 := by unfold maxLen at hG2; omega
  go_enter Tryd.func16, Tryd.ntmps16
  go_wp2_with (at_builtin; refine Lib.wpList_append_run _ rfl _ _ _ _ rfl _ _ rfl rfl _ _ (hrz _) ?_)
  all_goals (go_ret)
  refine ⟨_, rfl, ?_, ?_⟩
  · show World.ownsRow _ w.heap.size 5 1 (.slice (some ⟨w.heap.size, 0, none⟩) 0 G) 0 []
    refine ⟨rfl, .inr ⟨w.heap.size, G, _, rfl, Nat.le_refl _, blkE_new _ _, Nat.zero_le _, hG2, ?_, rfl⟩⟩
    rw [Array.size_append, size_zeroCells, size_zeroCells]
    show 64 * 1 + (G - 64) * 1 = G * 1
    omega
  · exact ((Below.refl _ _).alloc (Nat.le_refl _) _).drew
theorem bytes_at {A : List Int} {W : World} {b : Nat} (h : W.rangeAt b 0 (A.map fun z => Value.int .u8 z)) : ∀ j u, (A.map fun z => Value.int .u8 z)[j]? = some u → W.cell? ((⟨b, 0, none⟩ : Addr).add j) = some u := fun j u hu => by
  have := h j u hu
  rw [Addr.add_mid]
  exact this
theorem rangeE_keep {cs : List Value} {W W' : World} {b : Nat} (h : W.rangeAt b 0 cs) (hb : Below W.heap.size W W') : W'.rangeAt b 0 cs := fun j v hv => cell_keep hb (h j v hv)

set_option maxRecDepth 100000 in
set_option maxHeartbeats 4000000 in
/-- slices.Concat of two texts of 32 bytes. -/
theorem concat64 {A1 A2 : List Int} {b1 b2 bs : Nat} (l1 : A1.length = 32) (l2 : A2.length = 32) (w : World) (h0 : w.cell? ⟨bs, 0, none⟩ = some (.slice (some ⟨b1, 0, none⟩) 32 32)) (h1 : w.cell? ⟨bs, 1, none⟩ = some (.slice (some ⟨b2, 0, none⟩) 32 32))
    (g1 : w.rangeAt b1 0 (A1.map fun z => Value.int .u8 z)) (g2 : w.rangeAt b2 0 (A2.map fun z => Value.int .u8 z)) :
    Calls Tryd.prog 12 #[.slice (some ⟨bs, 0, none⟩) 2 2] w fun e w' => ∃ v, e = .returned v ∧ w'.ownsRow w.heap.size 5 1 v 64 ((A1 ++ A2).map fun z => Value.int .u8 z) ∧ Below w.heap.size w w' := by
  obtain ⟨i0, hi, hz0, hz1, hz2⟩ := info_partsE info_byteE
  have HG : Hid (w.rangeAt b1 0 (A1.map fun z => Value.int .u8 z) ∧ w.rangeAt b2 0 (A2.map fun z => Value.int .u8 z)) := ⟨g1, g2⟩
  have GR : Hid (∀ w, Calls Tryd.prog 16 #[.slice none 0 0, .int .i64 64] w fun e w' => ∃ v, e = .returned v ∧ w'.ownsRow w.heap.size 5 1 v 0 [] ∧ Below w.heap.size w w') := fun w => grow64 w
  have LL : Hid (A1.length = 32 ∧ A2.length = 32) := ⟨l1, l2⟩
  clear g1 g2 l1 l2
  go_enter Tryd.func12, Tryd.ntmps12
  go_wp2_with fail
  go_loopg [3, 5, 11] 2 (fun k sv fv iv wr => ∃ i : Nat, k = 2 - i ∧ i ≤ 2 ∧ iv = .int .i64 (i : Int) ∧ sv = .int .i64 (32 * i : Int) ∧ w = wr)
  case atStart => exact ⟨0, rfl, by decide, rfl, rfl, rfl⟩
  case round =>
    obtain ⟨i, hk, hi9, rfl, rfl, rfl⟩ := hrel
    have h3 : i = 0 ∨ i = 1 ∨ i = 2 := by omega
    rcases h3 with rfl | rfl | rfl
    · go_wp2_with fail
      go_roundg 1
      case measure => omega
      case rel => exact ⟨1, rfl, by decide, rfl, rfl, rfl⟩
    · go_wp2_with fail
      go_roundg 0
      case measure => omega
      case rel => exact ⟨2, rfl, by decide, rfl, rfl, rfl⟩
    · go_wp2_with fail
      with_reducible refine (GR.out _).mono ?_
      rintro e w1 ⟨v, rfl, hown, hb⟩
      have HV : Hid (w1.ownsRow w.heap.size 5 1 v 0 [] ∧ Below w.heap.size w w1) := ⟨hown, hb⟩
      clear hown hb GR
      go_wp2_with fail
      go_loopg [6, 8, 27] 2 (fun k vv fv iv w2 => ∃ i : Nat, k = 2 - i ∧ i ≤ 2 ∧ iv = .int .i64 (i : Int) ∧ World.ownsRow w2 w.heap.size 5 1 vv (32 * i) (((A1 ++ A2).take (32 * i)).map fun z => Value.int .u8 z) ∧ Below w.heap.size w w2)
      case atStart => exact ⟨0, rfl, by decide, rfl, HV.out⟩
      case round =>
      obtain ⟨i, hk, hi9, rfl, hown, B⟩ := hrel
      have HF : Hid (World.ownsRow wr w.heap.size 5 1 u6 (32 * i) (((A1 ++ A2).take (32 * i)).map fun z => Value.int .u8 z) ∧ Below w.heap.size w wr) := ⟨hown, B⟩
      clear hown B HV
      have h3 : i = 0 ∨ i = 1 ∨ i = 2 := by omega
      rcases h3 with rfl | rfl | rfl
      · have RG : Hid (wr.rangeAt b1 0 (A1.map fun z => Value.int .u8 z)) := rangeE_keep HG.out.1 HF.out.2
        have LEN : Hid ((A1.map fun z => Value.int .u8 z).length = 32 * 1) := by rw [List.length_map, Nat.mul_one]; exact LL.out.1
        have c0 := cell_keep HF.out.2 h0
        clear h0 h1
        go_wp2_with ((at_builtin; go_loud (refine wpList_append_own_at _ rfl _ _ 22 rfl w.heap.size 5 i0 (.int .u8 0) 1 1 Tryd.underlying22 hi hz0 hz1 hz2 rfl (by decide) u6 _ _ rfl HF.out.1 ⟨b1, 0, none⟩ 32 32 (A1.map fun z => Value.int .u8 z) rfl LEN.out (bytes_at RG.out) (fun u hu => by obtain ⟨z, _, rfl⟩ := List.mem_map.1 hu; rfl) (by unfold maxLen; decide) (by decide) HF.out.2.size ?_); intro v' w3 hown' hgrow3 hnil3 hblk))
        have HO : Hid (World.ownsRow w3 w.heap.size 5 1 v' (32 * 1) (((A1 ++ A2).take (32 * 1)).map fun z => Value.int .u8 z) ∧ Below w.heap.size w w3) := by
          refine ⟨?_, HF.out.2.grown hgrow3 HF.out.2.size (fun k hk => (HF.out.1.lt k hk).1)⟩
          rw [show ((A1 ++ A2).take (32 * (1))).map (fun z => Value.int .u8 z) = (((A1 ++ A2).take (32 * 0)).map fun z => Value.int .u8 z) ++ (A1.map fun z => Value.int .u8 z) by rw [show 32 * (1) = A1.length by rw [LL.out.1], List.take_left']; simp; rfl]
          exact hown'
        clear hown' hgrow3 hnil3 hblk
        go_roundg 1
        case measure => omega
        case rel => exact ⟨1, rfl, by decide, rfl, HO.out⟩
      · have RG : Hid (wr.rangeAt b2 0 (A2.map fun z => Value.int .u8 z)) := rangeE_keep HG.out.2 HF.out.2
        have LEN : Hid ((A2.map fun z => Value.int .u8 z).length = 32 * 1) := by rw [List.length_map, Nat.mul_one]; exact LL.out.2
        have c0 := cell_keep HF.out.2 h1
        clear h0 h1
        go_wp2_with ((at_builtin; go_loud (refine wpList_append_own_at _ rfl _ _ 22 rfl w.heap.size 5 i0 (.int .u8 0) 1 1 Tryd.underlying22 hi hz0 hz1 hz2 rfl (by decide) u6 _ _ rfl HF.out.1 ⟨b2, 0, none⟩ 32 32 (A2.map fun z => Value.int .u8 z) rfl LEN.out (bytes_at RG.out) (fun u hu => by obtain ⟨z, _, rfl⟩ := List.mem_map.1 hu; rfl) (by unfold maxLen; decide) (by decide) HF.out.2.size ?_); intro v' w3 hown' hgrow3 hnil3 hblk))
        have HO : Hid (World.ownsRow w3 w.heap.size 5 1 v' (32 * 2) (((A1 ++ A2).take (32 * 2)).map fun z => Value.int .u8 z) ∧ Below w.heap.size w w3) := by
          refine ⟨?_, HF.out.2.grown hgrow3 HF.out.2.size (fun k hk => (HF.out.1.lt k hk).1)⟩
          rw [show ((A1 ++ A2).take (32 * 2)).map (fun z => Value.int .u8 z) = (((A1 ++ A2).take (32 * 1)).map fun z => Value.int .u8 z) ++ (A2.map fun z => Value.int .u8 z) by rw [List.take_of_length_le (by rw [List.length_append, LL.out.1, LL.out.2]; decide), List.take_left' (by rw [LL.out.1]), List.map_append]]
          exact hown'
        clear hown' hgrow3 hnil3 hblk
        go_roundg 0
        case measure => omega
        case rel => exact ⟨2, rfl, by decide, rfl, HO.out⟩
      · have AL : Hid ((A1 ++ A2).take (32 * 2) = A1 ++ A2) := List.take_of_length_le (by rw [List.length_append, LL.out.1, LL.out.2]; decide)
        go_wp2
        go_ret
        refine ⟨_, rfl, ?_, HF.out.2⟩
        have := HF.out.1
        rw [AL.out] at this
        exact this
end Go.Proofs.YtmpggpkokniemaaDoor

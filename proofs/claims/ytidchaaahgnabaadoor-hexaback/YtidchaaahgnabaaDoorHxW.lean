import Derived.Test.YtidchaaahgnabaaDoorShelf
import Derived.Test.YtidchaaahgnabaaDoorHxD
import Derived.Lib.AppendStr
import Derived.Deep.AppendLies
namespace Go.Proofs.YtidchaaahgnabaaDoor
open Go.RowKit Go.Sort

/-- A builder that has been written, in the block b. -/
def Bd (B b : Nat) (l : List UInt8) (w : World) : Prop := Lib.BuilderAt 78 5 B b (.pointer (some ⟨b, 0, none⟩)) (Lib.byteCells l) w
theorem info_bd : (Tryd.prog.info? 78).isSome = true := by kernel_rfl
theorem copyCheck_any {B b : Nat} {l : List UInt8} (w : World) (h : Bd B b l w) :
    Calls Tryd.prog 56 #[.pointer (some ⟨b, 0, none⟩)] w fun e w' => e = .returned (.tuple #[]) ∧ w' = w := by
  obtain ⟨j, hj⟩ := Option.isSome_iff_exists.1 info_bd
  have c0 := h.cell0
  have hn : ∀ w, (binOp .neq 76 (.pointer (some ⟨b, 0, none⟩)) (.pointer (some ⟨b, 0, none⟩))).run Tryd.prog w = .ok (.bool false) w := fun w => Lib.run_neq_ptr_same w ⟨b, 0, none⟩ Tryd.underlying76 hj
  clear h hj
  go_enter Tryd.func56, Tryd.ntmps56
  go_wp2
  simp [bodyPost, results, Tryd.results56, go_sem]
theorem bd_ne : (78 : TypeId) ≠ 5 := by decide
theorem Bd.parts {B b : Nat} {l : List UInt8} {w : World} (h : Bd B b l w) : B ≤ b ∧ ∃ v, w.heap[b]? = some (.cells #[.pointer (some ⟨b, 0, none⟩), v] 78 (0, 0)) ∧ w.ownsRow B 5 1 v l.length (Lib.byteCells l) ∧ v.ownBlock ≠ some b := by
  obtain ⟨h1, v, h2, h3, h4⟩ := h
  rw [Lib.byteCells_length] at h3
  exact ⟨h1, v, h2, h3, h4⟩
set_option maxRecDepth 100000 in
set_option maxHeartbeats 2000000 in
theorem wbyte_any {B b : Nat} {l : List UInt8} {c : Int} {u : UInt8} (hu : c = (u.toNat : Int)) (hl : l.length < 1073741824) (w : World) (h : Bd B b l w) :
    Calls Tryd.prog 47 #[.pointer (some ⟨b, 0, none⟩), .int .u8 c] w fun e w' => e = .returned .nilIface ∧ Bd B b (l ++ [u]) w' ∧ Below B w w' := by
  have hc := copyCheck_any w h
  obtain ⟨hB, v, hb, ho, hne⟩ := h.parts
  obtain ⟨i0, hi, hz0, hz1, hz2⟩ := info_partsH (show (Tryd.prog.info? 5).map (fun i => (i.zero, i.size, i.bytes)) = some (some (.int .u8 0), 1, 1) by kernel_rfl)
  have hlt : b < w.heap.size := by
    by_cases hx : b < w.heap.size
    · exact hx
    · rw [Array.getElem?_eq_none (by omega)] at hb; cases hb
  have c1 : w.cell? ⟨b, 1, none⟩ = some v := by rw [Lib.cell_of_heap hb 1]; rfl
  have HB : Hid (B ≤ b ∧ w.heap[b]? = some (.cells #[.pointer (some ⟨b, 0, none⟩), v] 78 (0, 0)) ∧ w.ownsRow B 5 1 v l.length (Lib.byteCells l) ∧ v.ownBlock ≠ some b ∧ l.length < 1073741824 ∧ b < w.heap.size ∧ c = (u.toNat : Int)) := ⟨hB, hb, ho, hne, hl, hlt, hu⟩
  clear h hB hb ho hne hl hu
  go_enter Tryd.func47, Tryd.ntmps47
  go_wp2_with first | ((with_reducible refine hc.mono ?_); rintro e1 w1 ⟨rfl, hw1⟩; (rw [hw1]); (clear hw1 w1)) | (at_builtin; (refine wpList_append_lies _ rfl _ _ 30 rfl B 5 i0 (.int .u8 0) 1 1 Tryd.underlying30 hi hz0 hz1 hz2 rfl (by decide) v _ _ rfl (HB.out.2.2.1.alloc _) ⟨w.heap.size, 0, none⟩ 1 1 [.int .u8 c] rfl rfl (cell_oneH _ _ _) (fun u hu => by simp at hu; subst hu; rfl) (by decide) (by unfold maxLen; have := HB.out; omega) (by have := HB.out; omega) (by have := HB.out; simp; omega) _ rfl ?_); (intro g3' cap3 w3 hown' hgrow3 hblk hlt3); (have hb3 : w3.heap[b]? = some (.cells #[.pointer (some ⟨b, 0, none⟩), v] 78 (0, 0)) := (hgrow3.block b (by simp; omega) (fun e => HB.out.2.2.2.1 e.symm)).trans ((Lib.alloc_old _ _ _ HB.out.2.2.2.2.2.1).trans HB.out.2.1)); (have g3 : w3.cell? ⟨b, 1, none⟩ = some v := by rw [Lib.cell_of_heap hb3 1]; rfl); (have f3 := Lib.frozen_of_heap hb3 1); (have HS : Hid _ := Lib.BuilderAt.put HB.out.1 hb3 (bs' := Lib.byteCells (l ++ [u])) (by rw [Lib.byteCells_append, List.length_append, Lib.byteCells_length]; (have e : Lib.byteCells [u] = [Value.int .u8 c] := by rw [HB.out.2.2.2.2.2.2]; rfl); rw [e]; exact hown') bd_ne); (have HW : Hid (Below B w w3) := ((Below.refl B w).alloc (by have := HB.out; omega) _).grown hgrow3 (by have := HB.out; simp; omega) (fun k hk => (HB.out.2.2.1.lt k hk).1)); (clear hown' hgrow3 hblk hlt3 hb3))
  go_ret
  exact ⟨rfl, HS.out, HW.out.setCell HB.out.1 _⟩
set_option maxRecDepth 100000 in
set_option maxHeartbeats 2000000 in
theorem wstr_any {B b : Nat} {l : List UInt8} {s : ByteArray} (hl : l.length < 1073741824) (hs : s.size < 1073741824) (h0 : 0 < s.size) (w : World) (h : Bd B b l w) :
    Calls Tryd.prog 46 #[.pointer (some ⟨b, 0, none⟩), .string s] w fun e w' => e = .returned (.tuple #[.int .i64 s.size, .nilIface]) ∧ Bd B b (l ++ s.data.toList) w' ∧ Below B w w' := by
  have hc := copyCheck_any w h
  obtain ⟨hB, v, hb, ho, hne⟩ := h.parts
  obtain ⟨i0, hi, hz0, hz1, hz2⟩ := info_partsH (show (Tryd.prog.info? 5).map (fun i => (i.zero, i.size, i.bytes)) = some (some (.int .u8 0), 1, 1) by kernel_rfl)
  have hlt : b < w.heap.size := by
    by_cases hx : b < w.heap.size
    · exact hx
    · rw [Array.getElem?_eq_none (by omega)] at hb; cases hb
  have c1 : w.cell? ⟨b, 1, none⟩ = some v := by rw [Lib.cell_of_heap hb 1]; rfl
  have HB : Hid (B ≤ b ∧ w.heap[b]? = some (.cells #[.pointer (some ⟨b, 0, none⟩), v] 78 (0, 0)) ∧ w.ownsRow B 5 1 v l.length (Lib.byteCells l) ∧ v.ownBlock ≠ some b ∧ l.length < 1073741824 ∧ b < w.heap.size ∧ s.size < 1073741824 ∧ 0 < s.size) := ⟨hB, hb, ho, hne, hl, hlt, hs, h0⟩
  clear h hB hb ho hne hl hs h0
  go_enter Tryd.func46, Tryd.ntmps46
  go_wp2_with first | ((with_reducible refine hc.mono ?_); rintro e1 w1 ⟨rfl, hw1⟩; (rw [hw1]); (clear hw1 w1)) | (at_builtin; (refine Lib.wpList_append_own_string _ rfl _ _ 30 9 rfl B 5 i0 Tryd.underlying30 Tryd.underlying9 hi hz0 hz1 hz2 v _ _ rfl HB.out.2.2.1 s rfl (by unfold maxLen; have := HB.out; omega) (by have := HB.out; omega) (by have := HB.out; omega) ?_); (intro v' w3 hown' hgrow3 hnil3); (obtain ⟨g3', cap3, rfl, _, _⟩ := hown'.form (by have := HB.out; omega)); (have hb3 : w3.heap[b]? = some (.cells #[.pointer (some ⟨b, 0, none⟩), v] 78 (0, 0)) := (hgrow3.block b HB.out.2.2.2.2.2.1 (fun e => HB.out.2.2.2.1 e.symm)).trans HB.out.2.1); (have g3 : w3.cell? ⟨b, 1, none⟩ = some v := by rw [Lib.cell_of_heap hb3 1]; rfl); (have f3 := Lib.frozen_of_heap hb3 1); (have HS : Hid _ := Lib.BuilderAt.put HB.out.1 hb3 (bs' := Lib.byteCells (l ++ s.data.toList)) (by rw [Lib.byteCells_append, List.length_append, Lib.byteCells_length, Lib.byteCells_length, Array.length_toList]; exact hown') bd_ne); (have HW : Hid (Below B w w3) := (Below.refl B w).grown hgrow3 (by have := HB.out; omega) (fun k hk => (HB.out.2.2.1.lt k hk).1)); (clear hown' hgrow3 hnil3 hb3))
  simp [bodyPost, results, Tryd.results46, go_sem]
  exact ⟨HS.out, HW.out.setCell HB.out.1 _⟩
end Go.Proofs.YtidchaaahgnabaaDoor
